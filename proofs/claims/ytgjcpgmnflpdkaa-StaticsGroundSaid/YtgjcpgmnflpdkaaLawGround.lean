/- StaticsGround: the law's function returns true. -/
import Derived.Test.YtgjcpgmnflpdkaaRefStrokes
import Derived.Test.YtgjcpgmnflpdkaaKnown
namespace Go.Proofs.Ytgjcpgmnflpdkaa
open Go.RowKit Go.Proofs.Gn
set_option maxHeartbeats 2000000 in
theorem l_same (A B : Option Addr) (l : List Int) (ca cb : Nat) (hn : l.length ≤ 9223372036854775807) (w : World) (hA : Ints w A l) (hB : Ints w B l) :
    Calls Try.prog 37 #[.slice A l.length ca, .slice B l.length cb] w fun e w' => e = .returned (.bool true) ∧ Up w w' := by
  have HA := hide hA
  have HB := hide hB
  clear hA hB
  obtain ⟨n, hN⟩ : ∃ n, l.length = n := ⟨_, rfl⟩
  rw [hN] at hn ⊢
  have HN := hide hN
  clear hN
  go_enter Try.func37, Try.ntmps37
  go_wp2_with fail
  go_loopw [5] (fun s5 wr => ∃ k : Nat, k ≤ n ∧ s5 = .int .i64 k ∧ Up w wr) (fun s5 _ => n - (intOf s5).toNat)
  case atStart => exact ⟨0, by omega, rfl, up_refl _⟩
  case round =>
    obtain ⟨k, hk, rfl, hu⟩ := hrel
    by_cases hlt : k < n
    · have hl : k < l.length := by rw [unhide HN]; exact hlt
      obtain ⟨b, off, rfl, hc⟩ := (unhide HA).resolve_left (by intro e; rw [e] at hl; simp at hl)
      obtain ⟨b2, off2, rfl, hc2⟩ := (unhide HB).resolve_left (by intro e; rw [e] at hl; simp at hl)
      have c0 := up_cell hu (hc k hl)
      have c1 := up_cell hu (hc2 k hl)
      obtain ⟨x, hx⟩ : ∃ x, l[k] = x := ⟨_, rfl⟩
      rw [hx] at c0 c1
      clear hc hc2 hx
      have i0 : (0 : Int) ≤ (k : Int) := by omega
      have i1 : (k : Int) < (n : Int) := by omega
      have m0 : ∀ p : UpW wr, p.v.cell? ⟨b, off + k, none⟩ = some (.int .i64 x) := fun p => up_cell p.up c0
      have m1 : ∀ p : UpW wr, p.v.cell? ⟨b2, off2 + k, none⟩ = some (.int .i64 x) := fun p => up_cell p.up c1
      go_wp2_with fail
      refine wp_upq (by kernel_rfl) (by kernel_rfl) ?_; (repeat (go_big_quiet_step (fail))); refine wpQuiet_nil ?_; intro _ hw'; obtain ⟨pq, hw''⟩ := hw'; subst hw''; have hpq := pq.up
      generalize pq.v = W2 at hpq ⊢
      clear m0 m1 c0 c1
      go_wp2_with fail
      go_roundw
      case rel => exact ⟨k + 1, by omega, by go_num, up_trans hu hpq⟩
      case measure => simp [intOf]; omega
    · obtain rfl : k = n := by omega
      go_wp2_with fail
      go_ret
      exact ⟨rfl, (by repeat' (first | (with_reducible exact up_refl _) | (with_reducible assumption) | (with_reducible refine up_alloc ?_ _) | (with_reducible refine up_drewN ?_ _) | (with_reducible refine up_drew ?_) | (with_reducible refine up_set ?_ (by first | (simp; done) | (simp; omega) | omega) _) | (refine up_trans ?_ (by with_reducible assumption))))⟩
theorem stL_len (ps : List Gs.Sup) (gs : List Int) (f0 f1 f2 : Int) (K : Nat) : (stL ps gs f0 f1 f2 K).length ≤ ps.length := by
  unfold stL
  split
  · rw [stR_len]; omega
  · simp
set_option maxRecDepth 100000 in
set_option maxHeartbeats 16000000 in
theorem l_Ground (A : Option Addr) (ps : List Gs.Sup) (cap : Nat) (B : Option Addr) (gs : List Int) (capg : Nat) (f0 f1 f2 X Y : Int) (w : World) (hp : Sups w A ps) (hn : ps.length ≤ 9223372036854775807) (hg : Ints w B gs) (hng : gs.length ≤ 9223372036854775807) :
    Calls Try.prog 9 #[.slice A ps.length cap, .agg #[.int .i64 f0, .int .i64 f1, .int .i64 f2], .slice B gs.length capg, pt X Y] w fun e w' => e = .returned (.bool true) ∧ Below w.heap.size w w' := by
  obtain ⟨K, hK⟩ := fsn_ex ps.length (stN ps gs f0 f1 f2)
  have h1 := hide (fun (W : World) (hW : Up w W) => p_Height A ps cap B gs capg f0 f1 f2 X Y hn hng W (sups_up hp hW) (ints_up hg hW))
  have h2 := hide (fun (W : World) (hW : Up w W) => r_Height A ps cap B gs capg f0 f1 f2 X Y hn hng W (sups_up hp hW) (ints_up hg hW))
  have h3 := hide (fun (W : World) (hW : Up w W) => p_Strokes A ps cap B gs capg f0 f1 f2 K hK hn hng W (sups_up hp hW) (ints_up hg hW))
  have h4 := hide (fun (W : World) (hW : Up w W) => r_Strokes A ps cap B gs capg f0 f1 f2 K hK hn hng W (sups_up hp hW) (ints_up hg hW))
  have hls : (stL ps gs f0 f1 f2 K).length ≤ 9223372036854775807 := Nat.le_trans (stL_len ps gs f0 f1 f2 K) hn
  clear hp hg hK
  obtain ⟨n, hN⟩ : ∃ n, ps.length = n := ⟨_, rfl⟩
  obtain ⟨m, hM⟩ : ∃ m, gs.length = m := ⟨_, rfl⟩
  rw [hN] at h1 h2 h3 h4 hn ⊢
  rw [hM] at h1 h2 h3 h4 hng ⊢
  clear hN hM
  generalize htV ps gs f0 f1 f2 X Y = V at *
  generalize htE ps gs f0 f1 f2 X Y = E at *
  generalize stF ps gs f0 f1 f2 K = F at *
  generalize stL ps gs f0 f1 f2 K = Ls at *
  have h5 := hide (fun A' B' ca cb (W : World) a b => l_same A' B' Ls ca cb hls W a b)
  obtain ⟨L, hL⟩ : ∃ L, Ls.length = L := ⟨_, rfl⟩
  rw [hL] at h3 h4 h5 hls
  clear hL
  by_cases cl : 60 < n
  · go_enter Try.func9, Try.ntmps9
    go_wp2_with (go_at_call 15; refine (l_known _).mono ?_; rintro e w2 ⟨rfl, hb2⟩)
    go_ret
    exact ⟨rfl, (by repeat' (first | (with_reducible exact up_refl _) | (with_reducible assumption) | (with_reducible refine up_alloc ?_ _) | (with_reducible refine up_drewN ?_ _) | (with_reducible refine up_drew ?_) | (with_reducible refine up_set ?_ (by first | (simp; done) | (simp; omega) | omega) _) | (refine up_trans ?_ (by with_reducible assumption))))⟩
  by_cases cm : 60 < m
  · go_enter Try.func9, Try.ntmps9
    go_wp2_with (go_at_call 15; refine (l_known _).mono ?_; rintro e w2 ⟨rfl, hb2⟩)
    go_ret
    exact ⟨rfl, (by repeat' (first | (with_reducible exact up_refl _) | (with_reducible assumption) | (with_reducible refine up_alloc ?_ _) | (with_reducible refine up_drewN ?_ _) | (with_reducible refine up_drew ?_) | (with_reducible refine up_set ?_ (by first | (simp; done) | (simp; omega) | omega) _) | (refine up_trans ?_ (by with_reducible assumption))))⟩
  go_enter Try.func9, Try.ntmps9
  go_upto_region 7 with (first
    | (go_at_call 33; (with_reducible refine (unhide h1 _ (by repeat' (first | (with_reducible exact up_refl _) | (with_reducible assumption) | (with_reducible refine up_alloc ?_ _) | (with_reducible refine up_drewN ?_ _) | (with_reducible refine up_drew ?_) | (with_reducible refine up_set ?_ (by first | (simp; done) | (simp; omega) | omega) _) | (refine up_trans ?_ (by with_reducible assumption))))).mono ?_); rintro e w1 ⟨rfl, hb1⟩; have k0_0 : w1.cell? ⟨w.heap.size, 0, none⟩ = some (.int .i64 f0) := up_cell hb1 (by first | (with_reducible assumption) | (refine alloc_cell _ ?_; with_reducible assumption) | go_cell); have k0_1 : w1.cell? ⟨w.heap.size, 1, none⟩ = some (.int .i64 f1) := up_cell hb1 (by first | (with_reducible assumption) | (refine alloc_cell _ ?_; with_reducible assumption) | go_cell); have k0_2 : w1.cell? ⟨w.heap.size, 2, none⟩ = some (.int .i64 f2) := up_cell hb1 (by first | (with_reducible assumption) | (refine alloc_cell _ ?_; with_reducible assumption) | go_cell); have k1_0 : w1.cell? ⟨w.heap.size + 1, 0, none⟩ = some (.int .i64 X) := up_cell hb1 (by first | (with_reducible assumption) | (refine alloc_cell _ ?_; with_reducible assumption) | go_cell); have k1_1 : w1.cell? ⟨w.heap.size + 1, 1, none⟩ = some (.int .i64 Y) := up_cell hb1 (by first | (with_reducible assumption) | (refine alloc_cell _ ?_; with_reducible assumption) | go_cell))
    | (go_at_call 34; (with_reducible refine (unhide h2 _ (by repeat' (first | (with_reducible exact up_refl _) | (with_reducible assumption) | (with_reducible refine up_alloc ?_ _) | (with_reducible refine up_drewN ?_ _) | (with_reducible refine up_drew ?_) | (with_reducible refine up_set ?_ (by first | (simp; done) | (simp; omega) | omega) _) | (refine up_trans ?_ (by with_reducible assumption))))).mono ?_); rintro e w2 ⟨rfl, hb2⟩; have z0 := up_cell hb2 k0_0; have z1 := up_cell hb2 k0_1; have z2 := up_cell hb2 k0_2)
    | (go_at_call 35; (with_reducible refine (unhide h3 _ (by repeat' (first | (with_reducible exact up_refl _) | (with_reducible assumption) | (with_reducible refine up_alloc ?_ _) | (with_reducible refine up_drewN ?_ _) | (with_reducible refine up_drew ?_) | (with_reducible refine up_set ?_ (by first | (simp; done) | (simp; omega) | omega) _) | (refine up_trans ?_ (by with_reducible assumption))))).mono ?_); rintro e w3 ⟨⟨A1, ca, rfl, hI1⟩, hb3⟩; have y0 := up_cell hb3 z0; have y1 := up_cell hb3 z1; have y2 := up_cell hb3 z2)
    | (go_at_call 36; (with_reducible refine (unhide h4 _ (by repeat' (first | (with_reducible exact up_refl _) | (with_reducible assumption) | (with_reducible refine up_alloc ?_ _) | (with_reducible refine up_drewN ?_ _) | (with_reducible refine up_drew ?_) | (with_reducible refine up_set ?_ (by first | (simp; done) | (simp; omega) | omega) _) | (refine up_trans ?_ (by with_reducible assumption))))).mono ?_); rintro e w4 ⟨⟨A2, cb, rfl, hI2⟩, hb4⟩))
  have hI3 := ints_up hI1 hb4
  have U4 : Up w w4 := (by repeat' (first | (with_reducible exact up_refl _) | (with_reducible assumption) | (with_reducible refine up_alloc ?_ _) | (with_reducible refine up_drewN ?_ _) | (with_reducible refine up_drew ?_) | (with_reducible refine up_set ?_ (by first | (simp; done) | (simp; omega) | omega) _) | (refine up_trans ?_ (by with_reducible assumption))))
  clear k0_0 k0_1 k0_2 k1_0 k1_1 z0 z1 z2 y0 y1 y2 hb1 hb2 hb3 hb4 h1 h2 h3 h4 hI1
  go_wp2_with (first
    | (go_at_call 37; (with_reducible refine (unhide h5 _ _ _ _ _ hI3 hI2).mono ?_); rintro e w5 ⟨rfl, hb5⟩)
    | (go_at_call 15; refine (l_known _).mono ?_; rintro e w6 ⟨rfl, hb6⟩))
  go_ret
  exact ⟨rfl, (by repeat' (first | (with_reducible exact up_refl _) | (with_reducible assumption) | (with_reducible refine up_alloc ?_ _) | (with_reducible refine up_drewN ?_ _) | (with_reducible refine up_drew ?_) | (with_reducible refine up_set ?_ (by first | (simp; done) | (simp; omega) | omega) _) | (refine up_trans ?_ (by with_reducible assumption))))⟩
end Go.Proofs.Ytgjcpgmnflpdkaa
