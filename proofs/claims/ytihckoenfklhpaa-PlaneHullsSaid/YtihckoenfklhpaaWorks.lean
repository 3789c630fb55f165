/- The few examples with which each statement begins or ends are right. -/
import Derived.Test.YtihckoenfklhpaaLists
import Derived.Test.YtihckoenfklhpaaPlace
namespace Go.Proofs.Ytihckoenfklhpaa
open Go.RowKit Go.Proofs.Gn
theorem p_isHull_one (b off cap : Nat) (w : World) :
    Calls Try.prog 71 #[.slice (some ⟨b, off, none⟩) 1 cap] w fun e w' => e = .returned (.bool true) ∧ w = w' := by
  go_enter Try.func71, Try.ntmps71
  go_wp2_with fail
  all_goals (go_rounds 1)
  all_goals go_ret
  all_goals exact ⟨rfl, rfl⟩
theorem p_checkHulls_one (x y : Int) (b off cap g : Nat) (w : World) (hp : Pts w (some ⟨b, off, none⟩) [(x, y)]) (hg : w.cell? ⟨g, 0, none⟩ = some (.slice (some ⟨b, off, none⟩) 1 cap)) (ho : okp x y = true) :
    Calls Try.prog 37 #[.slice (some ⟨g, 0, none⟩) 1 1] w fun e w' => e = .returned (.int .i64 0) ∧ Up w w' := by
  have hv : chkLL [⟨some ⟨b, off, none⟩, [(x, y)], cap⟩] = 0 := by simp [chkLL, fewB, okLL, okL, ho]
  have HL := hide (lss_one (b := g) (off := 0) (l := ⟨some ⟨b, off, none⟩, [(x, y)], cap⟩) hg hp (by simp))
  clear ho hp
  go_enter Try.func37, Try.ntmps37
  go_wp2_with (go_at_call 33; refine (p_checkLists _ [⟨some ⟨b, off, none⟩, [(x, y)], cap⟩] _ _ (unhide HL) (by simp)).mono ?_; rintro e w1 ⟨rfl, hb⟩; have c0 := up_cell hb hg)
  refine wp_loop_rounds 2 ?_
  rw [rounds_succ]
  go_wp2_with (go_at_call 71; refine (p_isHull_one _ _ _ _).mono ?_; rintro e w2 ⟨rfl, rfl⟩)
  rw [rounds_succ]
  go_wp2_with fail
  go_ret
  exact ⟨rfl, (by repeat' (first | (with_reducible exact up_refl _) | (with_reducible assumption) | (with_reducible refine up_alloc ?_ _) | (with_reducible refine up_drewN ?_ _) | (with_reducible refine up_drew ?_) | (with_reducible refine up_set ?_ (by first | (simp; done) | (simp; omega) | omega) _) | (refine up_trans ?_ (by with_reducible assumption))))⟩
theorem p_IsHull_one (x y : Int) (b off cap : Nat) (w : World) (h0 : w.cell? ⟨b, off, none⟩ = some (.int .i64 x)) (h1 : w.cell? ⟨b, off + 1, none⟩ = some (.int .i64 y)) (ho : okp x y = true) :
    Calls Try.prog 12 #[.slice (some ⟨b, off, none⟩) 1 cap] w fun e w' => e = .returned (.bool true) ∧ Up w w' := by
  have hp := hide (pts_one h0 h1)
  go_enter Try.func12, Try.ntmps12
  go_wp2_with (go_at_call 37; refine (p_checkHulls_one x y b off cap _ _ (pts_up (unhide hp) (by repeat' (first | (with_reducible exact up_refl _) | (with_reducible assumption) | (with_reducible refine up_alloc ?_ _) | (with_reducible refine up_drewN ?_ _) | (with_reducible refine up_drew ?_) | (with_reducible refine up_set ?_ (by first | (simp; done) | (simp; omega) | omega) _) | (refine up_trans ?_ (by with_reducible assumption))))) (by go_cell) ho).mono ?_; rintro e w1 ⟨rfl, hb⟩)
  go_ret
  exact ⟨rfl, (by repeat' (first | (with_reducible exact up_refl _) | (with_reducible assumption) | (with_reducible refine up_alloc ?_ _) | (with_reducible refine up_drewN ?_ _) | (with_reducible refine up_drew ?_) | (with_reducible refine up_set ?_ (by first | (simp; done) | (simp; omega) | omega) _) | (refine up_trans ?_ (by with_reducible assumption))))⟩
theorem ex_near : neV (-7) 2 = -3 := by
  unfold neV
  rw [if_pos (by decide), near_unique (n := -7) (d := 2) (q := -3) (by omega) (by omega) (by omega)]
theorem ex_quE : quE (-7) 2 = 0 := by decide
theorem ex_half : halC 1 2 = 3 ∧ halS 1 2 = 4 ∧ halN 1 2 = 5 ∧ halE 1 2 = 0 := by decide
theorem ex_len : len32 300 400 = 16000 := by
  unfold len32
  exact (root_unique (by omega) (by omega) (by omega)).symm
theorem ex_plX : plX 0 0 300 400 10 0 = 6 := by
  unfold plX putX
  rw [show (300 : Int) - 0 = 300 from rfl, show (400 : Int) - 0 = 400 from rfl, ex_len, ← near_unique (n := 32 * (300 * 10 - 400 * 0)) (d := 16000) (q := 6) (by omega) (by omega) (by omega)]
  rfl
theorem ex_plY : plY 0 0 300 400 10 0 = 8 := by
  unfold plY putY
  rw [show (300 : Int) - 0 = 300 from rfl, show (400 : Int) - 0 = 400 from rfl, ex_len, ← near_unique (n := 32 * (400 * 10 + 300 * 0)) (d := 16000) (q := 8) (by omega) (by omega) (by omega)]
  rfl
theorem ex_place : lkV (okp 0 0 && okp 300 400) (okc 10 && okc 0) (cV 0 0 300 400 10 0 (plX 0 0 300 400 10 0)) = 6 ∧ lkV (okp 0 0 && okp 300 400) (okc 10 && okc 0) (cV 0 0 300 400 10 0 (plY 0 0 300 400 10 0)) = 8 ∧ lkE (okp 0 0 && okp 300 400) (okc 10 && okc 0) (cE 0 0 300 400 10 0) = 0 := by
  unfold cV cE
  rw [ex_plX, ex_plY]
  decide
theorem l_works (w : World) : Calls Try.prog 8 #[] w fun e w' => e = .returned (.bool true) ∧ Up w w' := by
  have e1 := ex_near
  have e2 := ex_quE
  obtain ⟨e3, e4, e5, e6⟩ := ex_half
  obtain ⟨e7, e8, e9⟩ := ex_place
  have ho : okp 6 8 = true := by decide
  have P1 : ∀ W : World, Calls Try.prog 30 #[.int .i64 (-7), .int .i64 2] W fun e w' => e = .returned (.tuple #[.int .i64 (-3), .int .i64 0]) ∧ W = w' := fun W => by
    have := p_Nearest (-7) 2 W
    rwa [e1, e2] at this
  have P2 : ∀ W : World, Calls Try.prog 31 #[.int .i64 1, .int .i64 2] W fun e w' => e = .returned (.tuple #[rt 3 4 5, .int .i64 0]) ∧ Up W w' := fun W => by
    have := p_Half 1 2 W
    rwa [e3, e4, e5, e6] at this
  have P3 : ∀ W : World, Calls Try.prog 32 #[pt 0 0, pt 300 400, .int .i64 10, .int .i64 0] W fun e w' => e = .returned (.tuple #[pt 6 8, .int .i64 0]) ∧ Up W w' := fun W => by
    have := p_Place 0 0 300 400 10 0 W
    rwa [e7, e8, e9] at this
  have H1 := hide P1
  have H2 := hide P2
  have H3 := hide P3
  clear P1 P2 P3 e1 e2 e3 e4 e5 e6 e7 e8 e9
  go_enter Try.func8, Try.ntmps8
  go_wp2_with (first | (go_at_call 30; refine (unhide H1 _).mono ?_; rintro e w1 ⟨rfl, rfl⟩) | (go_at_call 31; refine (unhide H2 _).mono ?_; rintro e w2 ⟨rfl, hb2⟩) | (go_at_call 32; refine (unhide H3 _).mono ?_; rintro e w3 ⟨rfl, hb3⟩; have k0 := up_cell (v := .int .i64 3) (p := ⟨w2.heap.size, 0, none⟩) hb3 (by go_cell); have k1 := up_cell (v := .int .i64 4) (p := ⟨w2.heap.size, 1, none⟩) hb3 (by go_cell); have k2 := up_cell (v := .int .i64 5) (p := ⟨w2.heap.size, 2, none⟩) hb3 (by go_cell); have a0 := fun o => alloc_cell o k0; have a1 := fun o => alloc_cell o k1; have a2 := fun o => alloc_cell o k2) | (go_at_call 12; refine (p_IsHull_one 6 8 _ _ _ _ (by go_cell) (by go_cell) ho).mono ?_; rintro e w4 ⟨rfl, hb4⟩))
  go_ret
  exact ⟨rfl, (by repeat' (first | (with_reducible exact up_refl _) | (with_reducible assumption) | (with_reducible refine up_alloc ?_ _) | (with_reducible refine up_drewN ?_ _) | (with_reducible refine up_drew ?_) | (with_reducible refine up_set ?_ (by first | (simp; done) | (simp; omega) | omega) _) | (refine up_trans ?_ (by with_reducible assumption))))⟩
end Go.Proofs.Ytihckoenfklhpaa
