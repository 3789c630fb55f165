/- Platforms on the ground: the errors, which parts are beyond, the height: the document's own answers. -/
import Derived.Test.YtgjcpgmnflpdkaaLaid
import Derived.Test.YtgjcpgmnflpdkaaRefOut
namespace Go.Proofs.Ytgjcpgmnflpdkaa
open Go.RowKit Go.Proofs.Gn
theorem la_ref {ps : List Gs.Sup} {gs : List Int} {f0 f1 f2 : Int} (c : chE ps = 0) (l : gs.length = ps.length) : (gsB gs = false → laE ps gs f0 f1 f2 = 3) ∧ (gsB gs = true → flB f0 f1 f2 = false → laE ps gs f0 f1 f2 = 3) ∧ (gsB gs = true → flB f0 f1 f2 = true → laE ps gs f0 f1 f2 = 0) := by
  unfold laE
  rw [if_pos c, if_pos l]
  refine ⟨fun h => ?_, fun h h2 => ?_, fun h h2 => ?_⟩
  · rw [h]; cases flB f0 f1 f2 <;> rfl
  · rw [h2]; rfl
  · rw [h, h2]; rfl
set_option maxRecDepth 100000 in
set_option maxHeartbeats 40000000 in
theorem r_ground (A : Option Addr) (ps : List Gs.Sup) (cap : Nat) (B : Option Addr) (gs : List Int) (capg : Nat) (f0 f1 f2 : Int) (hn : ps.length ≤ 9223372036854775807) (hng : gs.length ≤ 9223372036854775807) (w : World) (h : Sups w A ps) (hg : Ints w B gs) :
    Calls Try.prog 76 #[.slice A ps.length cap, .agg #[.int .i64 f0, .int .i64 f1, .int .i64 f2], .slice B gs.length capg] w fun e w' => e = .returned (.int .i64 (laE ps gs f0 f1 f2)) ∧ Up w w' := by
  have hC := hide (fun (W : World) (hW : Up w W) => r_Check A ps cap W (sups_up h hW) hn)
  have hcs := la_cases ps gs f0 f1 f2
  have hla := hide (fun c l => la_ref (ps := ps) (gs := gs) (f0 := f0) (f1 := f1) (f2 := f2) c l)
  have HF0 := hide (fun W => r_within f0 0 196608 W)
  have HF1 := hide (fun W => r_within f1 0 196608 W)
  have HF2 := hide (fun W => r_within f2 0 196608 W)
  generalize hE : laE ps gs f0 f1 f2 = E at *
  clear hE
  rcases hcs with ⟨c1, rfl⟩ | ⟨c0, cl, rfl⟩ | hcs
  · have c2 : (chE ps == 0) = false := by simp; exact c1
    obtain ⟨n, hN⟩ : ∃ n, ps.length = n := ⟨_, rfl⟩
    clear h hg hla HF0 HF1 HF2
    rw [hN] at hC ⊢
    clear hN
    generalize chE ps = C at *
    go_enter Try.func76, Try.ntmps76
    go_wp2_with (first | (go_at_call 26; (with_reducible refine (unhide hC _ (by repeat' (first | (with_reducible exact up_refl _) | (with_reducible assumption) | (with_reducible refine up_alloc ?_ _) | (with_reducible refine up_drewN ?_ _) | (with_reducible refine up_drew ?_) | (with_reducible refine up_set ?_ (by first | (simp; done) | (simp; omega) | omega) _) | (refine up_trans ?_ (by with_reducible assumption))))).mono ?_); rintro e w1 ⟨rfl, hb1⟩))
    go_ret
    exact ⟨rfl, (by repeat' (first | (with_reducible exact up_refl _) | (with_reducible assumption) | (with_reducible refine up_alloc ?_ _) | (with_reducible refine up_drewN ?_ _) | (with_reducible refine up_drew ?_) | (with_reducible refine up_set ?_ (by first | (simp; done) | (simp; omega) | omega) _) | (refine up_trans ?_ (by with_reducible assumption))))⟩
  · rw [c0] at hC
    obtain ⟨n, hN⟩ : ∃ n, ps.length = n := ⟨_, rfl⟩
    obtain ⟨m, hM⟩ : ∃ m, gs.length = m := ⟨_, rfl⟩
    clear h hg hla HF0 HF1 HF2 c0
    rw [hN] at hC cl hn ⊢
    rw [hM] at cl hng ⊢
    clear hN hM
    have c2 : ((m : Int) == (n : Int)) = false := by simp; omega
    have c3 : ¬ (m : Int) = (n : Int) := by omega
    go_enter Try.func76, Try.ntmps76
    go_wp2_with (first | (go_at_call 26; (with_reducible refine (unhide hC _ (by repeat' (first | (with_reducible exact up_refl _) | (with_reducible assumption) | (with_reducible refine up_alloc ?_ _) | (with_reducible refine up_drewN ?_ _) | (with_reducible refine up_drew ?_) | (with_reducible refine up_set ?_ (by first | (simp; done) | (simp; omega) | omega) _) | (refine up_trans ?_ (by with_reducible assumption))))).mono ?_); rintro e w1 ⟨rfl, hb1⟩))
    go_ret
    exact ⟨rfl, (by repeat' (first | (with_reducible exact up_refl _) | (with_reducible assumption) | (with_reducible refine up_alloc ?_ _) | (with_reducible refine up_drewN ?_ _) | (with_reducible refine up_drew ?_) | (with_reducible refine up_set ?_ (by first | (simp; done) | (simp; omega) | omega) _) | (refine up_trans ?_ (by with_reducible assumption))))⟩
  have c0 : chE ps = 0 := by rcases hcs with ⟨c, _⟩ | ⟨c, _⟩ <;> exact c
  have cl : gs.length = ps.length := by rcases hcs with ⟨_, c, _⟩ | ⟨_, c, _⟩ <;> exact c
  obtain ⟨z0, z1, z2⟩ := unhide hla c0 cl
  have Z0 := hide z0
  have Z1 := hide z1
  have Z2 := hide z2
  have hok := chE_ok c0
  clear hcs hla z0 z1 z2
  rw [c0] at hC
  rcases hg with hx | ⟨bg, offg, rfl, hcg⟩
  · rw [hx] at cl; have := hok.2.2.1; rw [← cl] at this; exact absurd this (by simp)
  have HG := hide hcg
  have hlen := hok.2.1
  clear hcg h c0 hok
  obtain ⟨n, hN⟩ : ∃ n, ps.length = n := ⟨_, rfl⟩
  have HM := hide (cl.trans hN)
  rw [cl]
  rw [hN] at hC hlen ⊢
  clear hN cl hng hn
  go_enter Try.func76, Try.ntmps76
  go_upto_region 1 with fail
  refine at_wp (fun W0 hW0 => ?_)
  have U0 : Up w W0 := by rw [hW0]; exact (by repeat' (first | (with_reducible exact up_refl _) | (with_reducible assumption) | (with_reducible refine up_alloc ?_ _) | (with_reducible refine up_drewN ?_ _) | (with_reducible refine up_drew ?_) | (with_reducible refine up_set ?_ (by first | (simp; done) | (simp; omega) | omega) _) | (refine up_trans ?_ (by with_reducible assumption))))
  have F0 : Bx W0 w.heap.size [.int .i64 f0, .int .i64 f1, .int .i64 f2] := by rw [hW0]; exact bx_new w _ 30
  clear hW0
  go_wp2_with (go_at_call 26; (with_reducible refine (unhide hC _ (by repeat' (first | (with_reducible exact up_refl _) | (with_reducible assumption) | (with_reducible refine up_alloc ?_ _) | (with_reducible refine up_drewN ?_ _) | (with_reducible refine up_drew ?_) | (with_reducible refine up_set ?_ (by first | (simp; done) | (simp; omega) | omega) _) | (refine up_trans ?_ (by with_reducible assumption))))).mono ?_); rintro e w1 ⟨rfl, hb1⟩)
  have F1 := bx_up F0 hb1
  have U1 := up_trans U0 hb1
  clear F0 U0 hb1 hC
  go_loopw [7] (fun s7 wr => ∃ k : Nat, k ≤ n ∧ s7 = .int .i64 k ∧ w1 = wr ∧ gsB (gs.take k) = true) (fun s7 _ => n - (intOf s7).toNat)
  case atStart => exact ⟨0, by omega, rfl, rfl, rfl⟩
  case round =>
    obtain ⟨k, hk, rfl, rfl, hgo⟩ := hrel
    by_cases hlt : k < n
    · have hl2 : k < gs.length := by rw [unhide HM]; exact hlt
      have kg := up_cell U1 (unhide HG k hl2)
      have hts := gsB_take_succ hl2
      rw [hgo, Bool.true_and] at hts
      have hno := hide (fun (x : win gs[k] (-16384) 16384 = false) => gsB_no hl2 x)
      have hW := hide (fun W => r_within gs[k] (-16384) 16384 W)
      obtain ⟨y, hy⟩ : ∃ y, gs[k] = y := ⟨_, rfl⟩
      rw [hy] at kg hts hno hW
      clear hy
      have i0 : (0 : Int) ≤ (k : Int) := by omega
      have i1 : (k : Int) < (n : Int) := by omega
      cases hv : win y (-16384) 16384
      · rw [hv] at hW
        have e3 := unhide Z0 (unhide hno hv)
        subst e3
        clear hno hts hv Z0 Z1 Z2
        go_wp2_with (go_at_call 69; (with_reducible refine (unhide hW _).mono ?_); rintro e w4 ⟨rfl, rfl⟩)
        go_ret
        exact ⟨rfl, (by repeat' (first | (with_reducible exact up_refl _) | (with_reducible assumption) | (with_reducible refine up_alloc ?_ _) | (with_reducible refine up_drewN ?_ _) | (with_reducible refine up_drew ?_) | (with_reducible refine up_set ?_ (by first | (simp; done) | (simp; omega) | omega) _) | (refine up_trans ?_ (by with_reducible assumption))))⟩
      · rw [hv] at hW
        have hts2 : gsB (gs.take (k + 1)) = true := by rw [hts]; exact hv
        clear hno hts hv hgo Z0 Z1 Z2
        go_wp2_with (go_at_call 69; (with_reducible refine (unhide hW _).mono ?_); rintro e w4 ⟨rfl, rfl⟩)
        go_roundw
        case rel => exact ⟨k + 1, by omega, by go_num, (by first | rfl | trivial), hts2⟩
        case measure => simp [intOf]; omega
    · obtain rfl : k = n := by omega
      have hgt : gsB gs = true := by
        have : gs.take k = gs := List.take_of_length_le (by rw [unhide HM]; omega)
        rw [this] at hgo; exact hgo
      have y1 := unhide Z1 hgt
      have y2 := unhide Z2 hgt
      clear Z0 Z1 Z2 hgo hgt
      unfold flB at y1 y2
      obtain ⟨x0, x1, x2⟩ := bx3 F1
      generalize win f0 0 196608 = d0 at *
      generalize win f1 0 196608 = d1 at *
      generalize win f2 0 196608 = d2 at *
      cases d0
      · have e3 := y1 (by simp)
        subst e3
        clear y1 y2
        go_wp2_with fail
        refine wp_loop_rounds 4 ?_
        rw [rounds_succ]
        go_wp2_with (go_at_call 69; (with_reducible refine (unhide HF0 _).mono ?_); rintro e w5 ⟨rfl, rfl⟩)
        go_ret
        exact ⟨rfl, (by repeat' (first | (with_reducible exact up_refl _) | (with_reducible assumption) | (with_reducible refine up_alloc ?_ _) | (with_reducible refine up_drewN ?_ _) | (with_reducible refine up_drew ?_) | (with_reducible refine up_set ?_ (by first | (simp; done) | (simp; omega) | omega) _) | (refine up_trans ?_ (by with_reducible assumption))))⟩
      cases d1
      · have e3 := y1 (by simp)
        subst e3
        clear y1 y2
        go_wp2_with fail
        refine wp_loop_rounds 4 ?_
        rw [rounds_succ]
        go_wp2_with (go_at_call 69; (with_reducible refine (unhide HF0 _).mono ?_); rintro e w5 ⟨rfl, rfl⟩)
        rw [rounds_succ]
        go_wp2_with (go_at_call 69; (with_reducible refine (unhide HF1 _).mono ?_); rintro e w5 ⟨rfl, rfl⟩)
        go_ret
        exact ⟨rfl, (by repeat' (first | (with_reducible exact up_refl _) | (with_reducible assumption) | (with_reducible refine up_alloc ?_ _) | (with_reducible refine up_drewN ?_ _) | (with_reducible refine up_drew ?_) | (with_reducible refine up_set ?_ (by first | (simp; done) | (simp; omega) | omega) _) | (refine up_trans ?_ (by with_reducible assumption))))⟩
      cases d2
      · have e3 := y1 (by simp)
        subst e3
        clear y1 y2
        go_wp2_with fail
        refine wp_loop_rounds 4 ?_
        rw [rounds_succ]
        go_wp2_with (go_at_call 69; (with_reducible refine (unhide HF0 _).mono ?_); rintro e w5 ⟨rfl, rfl⟩)
        rw [rounds_succ]
        go_wp2_with (go_at_call 69; (with_reducible refine (unhide HF1 _).mono ?_); rintro e w5 ⟨rfl, rfl⟩)
        rw [rounds_succ]
        go_wp2_with (go_at_call 69; (with_reducible refine (unhide HF2 _).mono ?_); rintro e w5 ⟨rfl, rfl⟩)
        go_ret
        exact ⟨rfl, (by repeat' (first | (with_reducible exact up_refl _) | (with_reducible assumption) | (with_reducible refine up_alloc ?_ _) | (with_reducible refine up_drewN ?_ _) | (with_reducible refine up_drew ?_) | (with_reducible refine up_set ?_ (by first | (simp; done) | (simp; omega) | omega) _) | (refine up_trans ?_ (by with_reducible assumption))))⟩
      · have e3 := y2 (by simp)
        subst e3
        clear y1 y2
        go_wp2_with fail
        refine wp_loop_rounds 4 ?_
        rw [rounds_succ]
        go_wp2_with (go_at_call 69; (with_reducible refine (unhide HF0 _).mono ?_); rintro e w5 ⟨rfl, rfl⟩)
        rw [rounds_succ]
        go_wp2_with (go_at_call 69; (with_reducible refine (unhide HF1 _).mono ?_); rintro e w5 ⟨rfl, rfl⟩)
        rw [rounds_succ]
        go_wp2_with (go_at_call 69; (with_reducible refine (unhide HF2 _).mono ?_); rintro e w5 ⟨rfl, rfl⟩)
        rw [rounds_succ]
        go_wp2_with fail
        go_ret
        exact ⟨rfl, (by repeat' (first | (with_reducible exact up_refl _) | (with_reducible assumption) | (with_reducible refine up_alloc ?_ _) | (with_reducible refine up_drewN ?_ _) | (with_reducible refine up_drew ?_) | (with_reducible refine up_set ?_ (by first | (simp; done) | (simp; omega) | omega) _) | (refine up_trans ?_ (by with_reducible assumption))))⟩
end Go.Proofs.Ytgjcpgmnflpdkaa
