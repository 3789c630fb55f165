/- The greatest load of an axle in a division: the program's. -/
import Derived.Test.YtepblnnebeglbaaDvd
import Derived.Test.YtepblnnebeglbaaGrp
import Derived.Test.YtepblnnebeglbaaShares
namespace Go.Proofs.Ytepblnnebeglbaa
open Go.RowKit Go.Proofs.Gn
set_option maxRecDepth 100000 in
theorem p_Max3 (b : Nat) (x y z : Int) (w : World) (h : Bx w b [.int .i64 x, .int .i64 y, .int .i64 z]) :
    Calls Try.prog 51 #[.slice (some ⟨b, 0, none⟩) 3 3] w fun e w' => e = .returned (.int .i64 (max x (max y z))) ∧ Up w w' := by
  obtain ⟨c0, c1, c2⟩ := bx3 h
  clear h
  go_enter Try.func51, Try.ntmps51
  go_wp2_with fail
  refine wp_loop_rounds 4 ?_
  rw [rounds_succ]
  go_wp2_with fail
  rw [rounds_succ]
  go_wp2_with fail
  rw [rounds_succ]
  go_wp2_with fail
  go_ret
  exact ⟨by first | rfl | (simp; done) | (rw [Int.max_assoc]; rfl), (by repeat' (first | (with_reducible exact up_refl _) | (with_reducible assumption) | (with_reducible refine up_alloc ?_ _) | (with_reducible refine up_drewN ?_ _) | (with_reducible refine up_drew ?_) | (with_reducible refine up_set ?_ (by first | (simp; done) | (simp; omega) | omega) _) | (refine up_trans ?_ (by with_reducible assumption))))⟩
theorem nilS (a : Addr) (n c : Nat) (w : World) : (binOp BinOp.eql 22 (.slice (some a) n c) (.slice none 0 0)).run Try.prog w = .ok (.bool false) w := by
  first | (kernel_rfl) | (simp [binOp, go_sem]; done) | (simp [binOp, Op.equalIn, run_underlying Try.underlying22, go_sem])
set_option maxRecDepth 100000 in
set_option maxHeartbeats 8000000 in
theorem p_CloneS (A : Option Addr) (ps : List Gs.Sup) (cap : Nat) (h0 : 0 < ps.length) (hn : ps.length ≤ 48) (w : World) (hp : Sups w A ps) :
    Calls Try.prog 50 #[.slice A ps.length cap] w fun e w' => ∃ g c, e = .returned (.slice (some ⟨g, 0, none⟩) ps.length c) ∧ (∀ gr, GAt w' g ps gr 0) ∧ w.heap.size ≤ g ∧ Up w w' := by
  rcases hp with hx | ⟨ba, off, rfl, hc⟩
  · rw [hx] at h0; simp at h0
  have HC := hide hc
  clear hc
  obtain ⟨i1', hj, hy0, hy1, hy2⟩ := info_parts info_sup
  have HJ := hide hj
  clear hj
  have hls0 := cellsS_length ps
  obtain ⟨n, hN⟩ : ∃ n, ps.length = n := ⟨_, rfl⟩
  have HN := hide hN
  rw [hN] at h0 hn hls0 ⊢
  clear hN
  have HNW := hide (cellsS_news (W := w.alloc (.cells #[] 33)) fun k hk => supAt_up (unhide HC k hk) (up_alloc (up_refl w) _))
  have hnil := fun W => nilS ⟨ba, off, none⟩ n cap W
  go_enter Try.func50, Try.ntmps50
  go_wp2_with (at_builtin; refine wpList_append_own _ rfl _ _ 22 rfl w.heap.size 33 i1' _ 6 48 Try.underlying22 (unhide HJ) hy0 hy1 hy2 rfl (by decide) (.slice (some ⟨w.heap.size, 0, none⟩) 0 0) 0 [] rfl (World.ownsRow_made w #[] 0 (Nat.le_refl _) (by unfold maxLen; omega) rfl) ⟨ba, off, none⟩ n cap (cellsS ps) rfl hls0 (unhide HNW) (cellsS_one ps) (by unfold maxLen; omega) (by omega) (by simp) ?_; intro vq W2 hown hgrow _)
  simp only [Nat.zero_add, List.nil_append] at hown
  rcases hown.2 with ⟨_, h00⟩ | ⟨g, cq, cur, rfl, hbg, hgg, _⟩
  · omega
  have U2 : Up w W2 := (up_alloc (up_refl w) _).grown hgrow (up_alloc (up_refl w) _).size (by intro j hj; simp [Value.ownBlock] at hj; omega)
  have Q2 := hide (fun gr => g_new gr hown)
  clear hown hgrow hgg HNW hls0
  go_wp2_with fail
  go_ret
  exact ⟨g, cq, rfl, unhide Q2, hbg, U2⟩
set_option maxRecDepth 100000 in
set_option maxHeartbeats 8000000 in
theorem p_heaviest (A : Option Addr) (ps : List Gs.Sup) (cap : Nat) (B : Option Addr) (gr : List Int) (capg : Nat) (m X Y : Int) (hl : gr.length = ps.length) (h0 : 0 < ps.length) (hn : ps.length ≤ 48) (w : World) (hp : Sups w A ps) (hg : Ints w B gr) :
    Calls Try.prog 34 #[.slice A ps.length cap, .slice B gr.length capg, .int .i64 m, pt X Y] w fun e w' => e = .returned (.tuple #[.int .i64 (max (shV (grp ps gr) m X Y (up m (paD (grp ps gr)) (pa0 (grp ps gr) X Y))) (max (shV (grp ps gr) m X Y (up m (paD (grp ps gr)) (pa1 (grp ps gr) X Y))) (shV (grp ps gr) m X Y (up m (paD (grp ps gr)) (pa2 (grp ps gr) X Y))))), .bool (shE (grp ps gr) m X Y == 0)]) ∧ Up w w' := by
  have HCl := hide (fun W (hW : Up w W) => p_CloneS A ps cap h0 hn W (sups_up hp hW))
  have hgl := grp_len hl
  have HS := hide (fun A' c' W (h : Sups W A' (grp ps gr)) => p_Shares A' (grp ps gr) c' m X Y (by rw [hgl]; omega) W h)
  have HGs := hide (fun (W : World) (g : Nat) (h : GAt W g ps gr ps.length) => g_sups hl h)
  have HSt := hide (fun (W : World) (g k : Nat) (h : GAt W g ps gr k) (hk : k < ps.length) (hk2 : k < gr.length) => g_step h hk hk2)
  rw [hgl] at HS
  rcases hg with hx | ⟨bg, offg, rfl, hcg⟩
  · rw [hx] at hl; simp at hl; omega
  have HG := hide hcg
  clear hcg hp hgl
  rw [hl]
  obtain ⟨q, hq⟩ : ∃ q, grp ps gr = q := ⟨_, rfl⟩
  rw [hq] at HS HGs ⊢
  clear hq
  generalize shV q m X Y (up m (paD q) (pa0 q X Y)) = r0 at *
  generalize shV q m X Y (up m (paD q) (pa1 q X Y)) = r1 at *
  generalize shV q m X Y (up m (paD q) (pa2 q X Y)) = r2 at *
  generalize shE q m X Y = E at *
  obtain ⟨n, hN⟩ : ∃ n, ps.length = n := ⟨_, rfl⟩
  have HN := hide hN
  have HM := hide (hl.trans hN)
  rw [hN] at HCl HS HGs h0 hn ⊢
  clear hN hl
  go_enter Try.func34, Try.ntmps34
  go_wp2_with (go_at_call 50; (with_reducible refine (unhide HCl _ (by repeat' (first | (with_reducible exact up_refl _) | (with_reducible assumption) | (with_reducible refine up_alloc ?_ _) | (with_reducible refine up_drewN ?_ _) | (with_reducible refine up_drew ?_) | (with_reducible refine up_set ?_ (by first | (simp; done) | (simp; omega) | omega) _) | (refine up_trans ?_ (by with_reducible assumption))))).mono ?_); rintro e W2 ⟨g, cq, rfl, hQ, hbg, hb2⟩)
  have hbg' : w.heap.size < g := by simp at hbg; omega
  have U2 : Up w W2 := (by repeat' (first | (with_reducible exact up_refl _) | (with_reducible assumption) | (with_reducible refine up_alloc ?_ _) | (with_reducible refine up_drewN ?_ _) | (with_reducible refine up_drew ?_) | (with_reducible refine up_set ?_ (by first | (simp; done) | (simp; omega) | omega) _) | (refine up_trans ?_ (by with_reducible assumption))))
  have P2 := bx_up (bx_new w [.int .i64 X, .int .i64 Y] 24) hb2
  have Q2 := hide (hQ gr)
  clear hQ hb2 hbg
  go_loopw [19] (fun s19 wr => ∃ k : Nat, k ≤ n ∧ s19 = .int .i64 k ∧ GAt wr g ps gr k ∧ Up w wr ∧ Bx wr w.heap.size [.int .i64 X, .int .i64 Y]) (fun s19 _ => n - (intOf s19).toNat)
  case atStart => exact ⟨0, by omega, rfl, unhide Q2, U2, P2⟩
  case round =>
    obtain ⟨k, hk, rfl, hQ, hu, hP⟩ := hrel
    clear Q2 U2 P2
    by_cases hlt : k < n
    · have hl : k < ps.length := by rw [unhide HN]; exact hlt
      have hl2 : k < gr.length := by rw [unhide HM]; exact hlt
      have kg := up_cell hu (unhide HG k hl2)
      obtain ⟨⟨_, _, c2, _, _, _⟩, f2⟩ := hQ k hl
      have c2' := c2
      have f2' := f2
      rw [Nat.zero_add] at c2' f2'
      have HQ := hide (unhide HSt wr g k hQ hl hl2)
      obtain ⟨v, hv⟩ : ∃ v, gr[k] = v := ⟨_, rfl⟩
      rw [hv] at kg HQ
      clear hQ hv
      have i0 : (0 : Int) ≤ (k : Int) := by omega
      have i1 : (k : Int) < (n : Int) := by omega
      have hwk : IntKind.i64.wrap ((k : Int) + 1) = (k : Int) + 1 := IntWalk.i64_in _ ⟨by omega, by omega⟩
      go_wp2_with fail
      go_roundw
      case rel => exact ⟨k + 1, by omega, by first | rfl | trivial | go_num, by simpa using unhide HQ, up_set hu (by simp; omega) _, bx_far hP (by simp; omega) _⟩
      case measure => simp [intOf]; omega
    · obtain rfl : k = n := by omega
      have HSu := hide (unhide HGs wr g hQ)
      obtain ⟨p0, p1⟩ := bx2 hP
      clear hQ HSt
      go_wp2_with (first
        | (go_at_call 9; (with_reducible refine (unhide HS _ _ _ (unhide HSu)).mono ?_); rintro e w3 ⟨rfl, hb3⟩)
        | (go_at_call 51; (with_reducible refine (p_Max3 _ _ _ _ _ (bx_new w3 [.int .i64 r0, .int .i64 r1, .int .i64 r2] 36)).mono ?_); rintro e w4 ⟨rfl, hb4⟩))
      go_ret2
      exact ⟨rfl, up_trans (up_alloc (up_trans hu hb3) _) hb4⟩
end Go.Proofs.Ytepblnnebeglbaa
