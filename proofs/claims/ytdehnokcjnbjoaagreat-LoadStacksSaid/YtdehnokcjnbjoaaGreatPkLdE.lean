/- The hull of what the example rubs. Sorted ways stay as they are; the least point. The next corner of a hull of a load. What load's hulls compare by; what the example rubs. Small functions of load's hulls. Units where they are: pulled lengths, and places of links. -/
import Derived.Test.YtdehnokcjnbjoaaGreatPkVehC
import Derived.Test.YtdehnokcjnbjoaaGreatPiece
import Derived.Test.YtdehnokcjnbjoaaGreatPkLdM
import Derived.Test.YtdehnokcjnbjoaaGreatBx
import Derived.Test.YtdehnokcjnbjoaaGreatUpQ
import Derived.Deep.Cut
import Derived.Deep.DeepCutAuto
import Derived.Test.YtdehnokcjnbjoaaGreatSl
import Derived.Maps.AppendAt
import Derived.OwnWalk
namespace Go.Proofs.YtdehnokcjnbjoaaGreat
open Go.RowKit Go.Proofs.Gn
set_option linter.unusedVariables false
/-- The pulled length of a unit. -/
def puL (le st : Int) : Int := le * (1000 - st) / 1000
def rxL (le st be : Int) : Int := puL le st - le - be
theorem puL_bd {le st : Int} (hl : 100 ≤ le ∧ le ≤ 131072) (hs : 0 ≤ st ∧ st ≤ 900) : (0 ≤ le * (1000 - st) ∧ le * (1000 - st) ≤ 131072000) ∧ 10 ≤ puL le st ∧ puL le st ≤ le := by
  have a : 0 ≤ le * (1000 - st) := Int.mul_nonneg (by omega) (by omega)
  have b : le * (1000 - st) ≤ le * 1000 := Int.mul_le_mul_of_nonneg_left (by omega) (by omega)
  have c : le * 100 ≤ le * (1000 - st) := Int.mul_le_mul_of_nonneg_left (by omega) (by omega)
  unfold puL
  refine ⟨by omega, ?_, ?_⟩
  · exact (Int.le_ediv_iff_mul_le (by omega)).2 (by omega)
  · have : le * (1000 - st) / 1000 < le + 1 := Int.ediv_lt_of_lt_mul (by omega) (by omega)
    omega
theorem szU_ok {kd le be fr re wi he ma st mo : Int} (h : szU kd le be fr re wi he ma st mo = true) : (100 ≤ le ∧ le ≤ 131072) ∧ (-le ≤ be ∧ be ≤ 131072) ∧ (0 ≤ st ∧ st ≤ 900) ∧ (0 ≤ fr ∧ fr ≤ 131072) ∧ (0 ≤ re ∧ re ≤ 131072) ∧ (1 ≤ ma ∧ ma ≤ 1048576) := by
  unfold szU at h
  simp only [Bool.and_eq_true] at h
  obtain ⟨_, h1, h2, h3, h4, _, _, h7, h8, _⟩ := h
  exact ⟨win_t h1, win_t h2, win_t h8, win_t h3, win_t h4, win_t h7⟩
theorem at_wpC {c : Code} {Q : Exit → Act → World → Prop} {a : Act} {w : World} (h : ∀ W, W = w → Code.wp Tryz.prog c Q a W) : Code.wp Tryz.prog c Q a w := h w rfl
theorem bx11 {W : World} {b : Nat} {v0 v1 v2 v3 v4 v5 v6 v7 v8 v9 v10 : Value} (h : Bx W b [v0, v1, v2, v3, v4, v5, v6, v7, v8, v9, v10]) : W.cell? ⟨b, 0, none⟩ = some v0 ∧ W.cell? ⟨b, 1, none⟩ = some v1 ∧ W.cell? ⟨b, 2, none⟩ = some v2 ∧ W.cell? ⟨b, 3, none⟩ = some v3 ∧ W.cell? ⟨b, 4, none⟩ = some v4 ∧ W.cell? ⟨b, 5, none⟩ = some v5 ∧ W.cell? ⟨b, 6, none⟩ = some v6 ∧ W.cell? ⟨b, 7, none⟩ = some v7 ∧ W.cell? ⟨b, 8, none⟩ = some v8 ∧ W.cell? ⟨b, 9, none⟩ = some v9 ∧ W.cell? ⟨b, 10, none⟩ = some v10 :=
  ⟨(h 0 _ rfl).1, (h 1 _ rfl).1, (h 2 _ rfl).1, (h 3 _ rfl).1, (h 4 _ rfl).1, (h 5 _ rfl).1, (h 6 _ rfl).1, (h 7 _ rfl).1, (h 8 _ rfl).1, (h 9 _ rfl).1, (h 10 _ rfl).1⟩
theorem bx11q {W : World} {b : Nat} {v0 v1 v2 v3 v4 v5 v6 v7 v8 v9 v10 : Value} {l : List Value} (h : Bx W b (v0 :: v1 :: v2 :: v3 :: v4 :: v5 :: v6 :: v7 :: v8 :: v9 :: v10 :: l)) : (∀ q : UpW W, q.v.cell? ⟨b, 0, none⟩ = some v0) ∧ (∀ q : UpW W, q.v.cell? ⟨b, 1, none⟩ = some v1) ∧ (∀ q : UpW W, q.v.cell? ⟨b, 2, none⟩ = some v2) ∧ (∀ q : UpW W, q.v.cell? ⟨b, 3, none⟩ = some v3) ∧ (∀ q : UpW W, q.v.cell? ⟨b, 4, none⟩ = some v4) ∧ (∀ q : UpW W, q.v.cell? ⟨b, 5, none⟩ = some v5) ∧ (∀ q : UpW W, q.v.cell? ⟨b, 6, none⟩ = some v6) ∧ (∀ q : UpW W, q.v.cell? ⟨b, 7, none⟩ = some v7) ∧ (∀ q : UpW W, q.v.cell? ⟨b, 8, none⟩ = some v8) ∧ (∀ q : UpW W, q.v.cell? ⟨b, 9, none⟩ = some v9) ∧ (∀ q : UpW W, q.v.cell? ⟨b, 10, none⟩ = some v10) :=
  ⟨fun q => (bx_up h q.up 0 _ rfl).1, fun q => (bx_up h q.up 1 _ rfl).1, fun q => (bx_up h q.up 2 _ rfl).1, fun q => (bx_up h q.up 3 _ rfl).1, fun q => (bx_up h q.up 4 _ rfl).1, fun q => (bx_up h q.up 5 _ rfl).1, fun q => (bx_up h q.up 6 _ rfl).1, fun q => (bx_up h q.up 7 _ rfl).1, fun q => (bx_up h q.up 8 _ rfl).1, fun q => (bx_up h q.up 9 _ rfl).1, fun q => (bx_up h q.up 10 _ rfl).1⟩
/-- What a place of a link is: its point, and the error. -/
def plR (jx jy ax ay x y : Int) : (Int × Int) × Int := ((lkV (okp ax ay && okp jx jy) (okc x && okc y) (cV ax ay jx jy x y (plX ax ay jx jy x y)), lkV (okp ax ay && okp jx jy) (okc x && okc y) (cV ax ay jx jy x y (plY ax ay jx jy x y))), lkE (okp ax ay && okp jx jy) (okc x && okc y) (cE ax ay jx jy x y))
abbrev lkA (kd le be fr re wi he ma st mo : Int) (A : Option Addr) (n cap : Nat) (jx jy ax ay : Int) : Value := .agg #[.int .i64 kd, .int .i64 le, .int .i64 be, .int .i64 fr, .int .i64 re, .int .i64 wi, .int .i64 he, .int .i64 ma, .int .i64 st, .int .i64 mo, .slice A n cap, .int .i64 jx, .int .i64 jy, .int .i64 ax, .int .i64 ay]
end Go.Proofs.YtdehnokcjnbjoaaGreat
namespace Go.Proofs.YtdehnokcjnbjoaaGreat
open Go.RowKit Go.Proofs.Gn
attribute [local go_sem] Oper.semAt_some
set_option linter.unusedVariables false
theorem bxl2 (w : World) (x y : List Value) (T : TypeId) : Bx ((w.alloc (.cells x.toArray T)).alloc (.cells y.toArray T)) w.heap.size x ∧ Bx ((w.alloc (.cells x.toArray T)).alloc (.cells y.toArray T)) (w.heap.size + 1) y := by
  refine ⟨bx_alloc (bx_new w _ _) _, ?_⟩
  have q := bx_new (w.alloc (.cells x.toArray T)) y T
  rw [World.size_alloc] at q
  exact q
theorem bxl3 (w : World) (x y z : List Value) (T : TypeId) : Bx (((w.alloc (.cells x.toArray T)).alloc (.cells y.toArray T)).alloc (.cells z.toArray T)) w.heap.size x ∧ Bx (((w.alloc (.cells x.toArray T)).alloc (.cells y.toArray T)).alloc (.cells z.toArray T)) (w.heap.size + 1) y ∧ Bx (((w.alloc (.cells x.toArray T)).alloc (.cells y.toArray T)).alloc (.cells z.toArray T)) (w.heap.size + 1 + 1) z := by
  refine ⟨bx_alloc (bxl2 w x y T).1 _, bx_alloc (bxl2 w x y T).2 _, ?_⟩
  have q := bx_new ((w.alloc (.cells x.toArray T)).alloc (.cells y.toArray T)) z T
  rw [World.size_alloc, World.size_alloc] at q
  exact q
set_option maxRecDepth 100000 in
theorem p_plusL (x y p q : Int) (w : World) (e1 : IntKind.i64.wrap (x + p) = x + p) (e2 : IntKind.i64.wrap (y + q) = y + q) :
    Calls Tryz.prog 123 #[pt x y, pt p q] w fun e w' => e = .returned (pt (x + p) (y + q)) ∧ Up w w' := by
  go_enter Tryz.func123, Tryz.ntmps123
  go_upto_region 1 with fail
  refine at_wpC (fun W0 hW0 => ?_)
  have U0 : Up w W0 := by rw [hW0]; exact (by repeat' (first | (with_reducible exact up_refl _) | (with_reducible assumption) | (with_reducible refine up_alloc ?_ _) | (with_reducible refine up_drewN ?_ _) | (with_reducible refine up_drew ?_) | (with_reducible refine up_set ?_ (by first | (simp; done) | (simp; omega) | omega) _) | (refine up_trans ?_ (by with_reducible assumption))))
  obtain ⟨bA, bB, bR⟩ : Bx W0 w.heap.size [.int .i64 x, .int .i64 y] ∧ Bx W0 (w.heap.size + 1) [.int .i64 p, .int .i64 q] ∧ Bx W0 (w.heap.size + 1 + 1) [.int .i64 0, .int .i64 0] := by
    rw [hW0]
    exact bxl3 w _ _ _ _
  clear hW0
  have a0 := (bA 0 _ rfl).1
  have a1 := (bA 1 _ rfl).1
  have b0 := (bB 0 _ rfl).1
  have b1 := (bB 1 _ rfl).1
  have r0 := (bR 0 _ rfl).1
  have r1 := (bR 1 _ rfl).1
  have f0 := (bR 0 _ rfl).2
  have f1 := (bR 1 _ rfl).2
  go_wp2_with fail
  have B9 := bx_set (bx_set bR 0 (.int .i64 (x + p))) 1 (.int .i64 (y + q))
  have U9 := up_set (up_set U0 (p := ⟨w.heap.size + 1 + 1, 0, none⟩) (by simp only; omega) (.int .i64 (x + p))) (p := ⟨w.heap.size + 1 + 1, 1, none⟩) (by simp only; omega) (.int .i64 (y + q))
  generalize (W0.setCell ⟨w.heap.size + 1 + 1, 0, none⟩ (.int .i64 (x + p))).setCell ⟨w.heap.size + 1 + 1, 1, none⟩ (.int .i64 (y + q)) = W9 at B9 U9 ⊢
  have z0 := (B9 0 _ rfl).1
  have z1 := (B9 1 _ rfl).1
  refine bodyPost_ret (v := pt (x + p) (y + q)) (by simp [results, Tryz.f123, go_sem, z0, z1]) rfl ?_
  exact ⟨rfl, U9⟩
set_option maxRecDepth 100000 in
theorem p_minusL (x y p q : Int) (w : World) (e1 : IntKind.i64.wrap (x - p) = x - p) (e2 : IntKind.i64.wrap (y - q) = y - q) :
    Calls Tryz.prog 144 #[pt x y, pt p q] w fun e w' => e = .returned (pt (x - p) (y - q)) ∧ Up w w' := by
  go_enter Tryz.func144, Tryz.ntmps144
  go_upto_region 1 with fail
  refine at_wpC (fun W0 hW0 => ?_)
  have U0 : Up w W0 := by rw [hW0]; exact (by repeat' (first | (with_reducible exact up_refl _) | (with_reducible assumption) | (with_reducible refine up_alloc ?_ _) | (with_reducible refine up_drewN ?_ _) | (with_reducible refine up_drew ?_) | (with_reducible refine up_set ?_ (by first | (simp; done) | (simp; omega) | omega) _) | (refine up_trans ?_ (by with_reducible assumption))))
  obtain ⟨bA, bB, bR⟩ : Bx W0 w.heap.size [.int .i64 x, .int .i64 y] ∧ Bx W0 (w.heap.size + 1) [.int .i64 p, .int .i64 q] ∧ Bx W0 (w.heap.size + 1 + 1) [.int .i64 0, .int .i64 0] := by
    rw [hW0]
    exact bxl3 w _ _ _ _
  clear hW0
  have a0 := (bA 0 _ rfl).1
  have a1 := (bA 1 _ rfl).1
  have b0 := (bB 0 _ rfl).1
  have b1 := (bB 1 _ rfl).1
  have r0 := (bR 0 _ rfl).1
  have r1 := (bR 1 _ rfl).1
  have f0 := (bR 0 _ rfl).2
  have f1 := (bR 1 _ rfl).2
  go_wp2_with fail
  have B9 := bx_set (bx_set bR 0 (.int .i64 (x - p))) 1 (.int .i64 (y - q))
  have U9 := up_set (up_set U0 (p := ⟨w.heap.size + 1 + 1, 0, none⟩) (by simp only; omega) (.int .i64 (x - p))) (p := ⟨w.heap.size + 1 + 1, 1, none⟩) (by simp only; omega) (.int .i64 (y - q))
  generalize (W0.setCell ⟨w.heap.size + 1 + 1, 0, none⟩ (.int .i64 (x - p))).setCell ⟨w.heap.size + 1 + 1, 1, none⟩ (.int .i64 (y - q)) = W9 at B9 U9 ⊢
  have z0 := (B9 0 _ rfl).1
  have z1 := (B9 1 _ rfl).1
  refine bodyPost_ret (v := pt (x - p) (y - q)) (by simp [results, Tryz.f144, go_sem, z0, z1]) rfl ?_
  exact ⟨rfl, U9⟩
set_option maxRecDepth 100000 in
theorem p_dotL (x y p q : Int) (w : World) (e1 : IntKind.i64.wrap (x * p) = x * p) (e2 : IntKind.i64.wrap (y * q) = y * q) (e3 : IntKind.i64.wrap (x * p + y * q) = x * p + y * q) :
    Calls Tryz.prog 131 #[pt x y, pt p q] w fun e w' => e = .returned (.int .i64 (x * p + y * q)) ∧ Up w w' := by
  go_enter Tryz.func131, Tryz.ntmps131
  go_upto_region 1 with fail
  refine at_wpC (fun W0 hW0 => ?_)
  have U0 : Up w W0 := by rw [hW0]; exact (by repeat' (first | (with_reducible exact up_refl _) | (with_reducible assumption) | (with_reducible refine up_alloc ?_ _) | (with_reducible refine up_drewN ?_ _) | (with_reducible refine up_drew ?_) | (with_reducible refine up_set ?_ (by first | (simp; done) | (simp; omega) | omega) _) | (refine up_trans ?_ (by with_reducible assumption))))
  obtain ⟨bA, bB⟩ : Bx W0 w.heap.size [.int .i64 x, .int .i64 y] ∧ Bx W0 (w.heap.size + 1) [.int .i64 p, .int .i64 q] := by
    rw [hW0]
    exact bxl2 w _ _ _
  clear hW0
  have a0 := (bA 0 _ rfl).1
  have a1 := (bA 1 _ rfl).1
  have b0 := (bB 0 _ rfl).1
  have b1 := (bB 1 _ rfl).1
  go_wp2_with fail
  go_ret
  exact ⟨rfl, U0⟩
set_option maxRecDepth 100000 in
theorem p_crossL (x y p q : Int) (w : World) (e1 : IntKind.i64.wrap (x * q) = x * q) (e2 : IntKind.i64.wrap (y * p) = y * p) (e3 : IntKind.i64.wrap (x * q - y * p) = x * q - y * p) :
    Calls Tryz.prog 145 #[pt x y, pt p q] w fun e w' => e = .returned (.int .i64 (x * q - y * p)) ∧ Up w w' := by
  go_enter Tryz.func145, Tryz.ntmps145
  go_upto_region 1 with fail
  refine at_wpC (fun W0 hW0 => ?_)
  have U0 : Up w W0 := by rw [hW0]; exact (by repeat' (first | (with_reducible exact up_refl _) | (with_reducible assumption) | (with_reducible refine up_alloc ?_ _) | (with_reducible refine up_drewN ?_ _) | (with_reducible refine up_drew ?_) | (with_reducible refine up_set ?_ (by first | (simp; done) | (simp; omega) | omega) _) | (refine up_trans ?_ (by with_reducible assumption))))
  obtain ⟨bA, bB⟩ : Bx W0 w.heap.size [.int .i64 x, .int .i64 y] ∧ Bx W0 (w.heap.size + 1) [.int .i64 p, .int .i64 q] := by
    rw [hW0]
    exact bxl2 w _ _ _
  clear hW0
  have a0 := (bA 0 _ rfl).1
  have a1 := (bA 1 _ rfl).1
  have b0 := (bB 0 _ rfl).1
  have b1 := (bB 1 _ rfl).1
  go_wp2_with fail
  go_ret
  exact ⟨rfl, U0⟩
/-- Which half a way looks to. -/
def haF (x y : Int) : Int := if 0 < x then 0 else if x = 0 then (if 0 < y then 0 else 1) else 1
set_option maxRecDepth 100000 in
theorem p_halfL (x y : Int) (w : World) :
    Calls Tryz.prog 177 #[pt x y] w fun e w' => e = .returned (.int .i64 (haF x y)) ∧ Up w w' := by
  have bx1L : ∀ W : World, W = w.alloc (.cells #[.int .i64 x, .int .i64 y] 55) → Up w W ∧ Bx W w.heap.size [.int .i64 x, .int .i64 y] := fun W hW => by
    rw [hW]
    exact ⟨(by repeat' (first | (with_reducible exact up_refl _) | (with_reducible assumption) | (with_reducible refine up_alloc ?_ _) | (with_reducible refine up_drewN ?_ _) | (with_reducible refine up_drew ?_) | (with_reducible refine up_set ?_ (by first | (simp; done) | (simp; omega) | omega) _) | (refine up_trans ?_ (by with_reducible assumption)))), bx_new w _ _⟩
  by_cases h1 : 0 < x
  · have e : haF x y = 0 := by unfold haF; rw [if_pos h1]
    rw [e]
    go_enter Tryz.func177, Tryz.ntmps177
    go_upto_region 1 with fail
    refine at_wpC (fun W0 hW0 => ?_)
    obtain ⟨U0, bA⟩ := bx1L W0 hW0
    clear hW0 bx1L
    have a0 := (bA 0 _ rfl).1
    have a1 := (bA 1 _ rfl).1
    go_wp2_with fail
    go_ret
    exact ⟨rfl, U0⟩
  · by_cases h2 : x = 0
    · by_cases h3 : 0 < y
      · have e : haF x y = 0 := by unfold haF; rw [if_neg h1, if_pos h2, if_pos h3]
        rw [e]
        subst h2
        go_enter Tryz.func177, Tryz.ntmps177
        go_upto_region 1 with fail
        refine at_wpC (fun W0 hW0 => ?_)
        obtain ⟨U0, bA⟩ := bx1L W0 hW0
        clear hW0 bx1L
        have a0 := (bA 0 _ rfl).1
        have a1 := (bA 1 _ rfl).1
        go_wp2_with fail
        go_ret
        exact ⟨rfl, U0⟩
      · have e : haF x y = 1 := by unfold haF; rw [if_neg h1, if_pos h2, if_neg h3]
        rw [e]
        subst h2
        go_enter Tryz.func177, Tryz.ntmps177
        go_upto_region 1 with fail
        refine at_wpC (fun W0 hW0 => ?_)
        obtain ⟨U0, bA⟩ := bx1L W0 hW0
        clear hW0 bx1L
        have a0 := (bA 0 _ rfl).1
        have a1 := (bA 1 _ rfl).1
        go_wp2_with fail
        go_ret
        exact ⟨rfl, U0⟩
    · have e : haF x y = 1 := by unfold haF; rw [if_neg h1, if_neg h2]
      have t1 : (x == 0) = false := by simp [h2]
      rw [e]
      go_enter Tryz.func177, Tryz.ntmps177
      go_upto_region 1 with fail
      refine at_wpC (fun W0 hW0 => ?_)
      obtain ⟨U0, bA⟩ := bx1L W0 hW0
      clear hW0 bx1L
      have a0 := (bA 0 _ rfl).1
      have a1 := (bA 1 _ rfl).1
      go_wp2_with fail
      go_ret
      exact ⟨rfl, U0⟩
end Go.Proofs.YtdehnokcjnbjoaaGreat
namespace Go.Proofs.YtdehnokcjnbjoaaGreat
open Go.RowKit Go.Proofs.Gn
attribute [local go_sem] Oper.semAt_some
set_option linter.unusedVariables false
set_option maxHeartbeats 1000000 in
theorem p_hcmpG (ax ay bx b_y : Int) (w : World) :
    Calls Tryz.prog 148 #[pt ax ay, pt bx b_y] w fun e w' => e = .returned (.int .i64 (cmp2 ax ay bx b_y)) ∧ Gr w w' := by
  obtain ⟨X, hX⟩ : ∃ X, cmpV ax bx = X := ⟨_, rfl⟩
  obtain ⟨Y, hY⟩ : ∃ X, cmpV ay b_y = X := ⟨_, rfl⟩
  unfold cmp2
  rw [hX, hY]
  have CX : ∀ W : World, Calls Tryz.prog 150 #[.int .i64 ax, .int .i64 bx] W fun e w' => e = .returned (.int .i64 X) ∧ W = w' := fun W => by rw [← hX]; exact c_Compare ax bx W
  have CY : ∀ W : World, Calls Tryz.prog 150 #[.int .i64 ay, .int .i64 b_y] W fun e w' => e = .returned (.int .i64 Y) ∧ W = w' := fun W => by rw [← hY]; exact c_Compare ay b_y W
  obtain ⟨Z, hZ⟩ : ∃ Z, (if X = 0 then Y else X) = Z := ⟨_, rfl⟩
  rw [hZ]
  have CO : ∀ (W : World) (b : Nat), W.cell? ⟨b, 0, none⟩ = some (.int .i64 X) → W.cell? ⟨b, 1, none⟩ = some (.int .i64 Y) → Calls Tryz.prog 149 #[.slice (some ⟨b, 0, none⟩) 2 2] W fun e w' => e = .returned (.int .i64 Z) ∧ W = w' := fun W b h0 h1 => by rw [← hZ]; exact c_Or W h0 h1
  have HCX := hide CX
  have HCY := hide CY
  have HCO := hide CO
  clear CX CY CO hX hY hZ
  go_enter Tryz.func148, Tryz.ntmps148
  go_wp2
  obtain ⟨W, hW⟩ : ∃ W : World, W = ((w.alloc (Obj.cells #[Value.int IntKind.i64 ax, Value.int IntKind.i64 ay] 55)).alloc (Obj.cells #[Value.int IntKind.i64 bx, Value.int IntKind.i64 b_y] 55)) := ⟨_, rfl⟩
  rw [← hW]
  have c1 : W.cell? ⟨w.heap.size, 0, none⟩ = some (.int .i64 ax) := by rw [hW]; go_cell
  have c2 : W.cell? ⟨w.heap.size, 1, none⟩ = some (.int .i64 ay) := by rw [hW]; go_cell
  have c3 : W.cell? ⟨w.heap.size + 1, 0, none⟩ = some (.int .i64 bx) := by rw [hW]; go_cell
  have c4 : W.cell? ⟨w.heap.size + 1, 1, none⟩ = some (.int .i64 b_y) := by rw [hW]; go_cell
  have c5 : Gr w W := by rw [hW]; exact gr_alloc (gr_alloc (gr_refl _) _) _
  clear hW
  go_region_held3 (fun wx => wx.cell? ⟨w.heap.size, 0, none⟩ = some (.int .i64 ax) ∧ wx.cell? ⟨w.heap.size, 1, none⟩ = some (.int .i64 ay) ∧ wx.cell? ⟨w.heap.size + 1, 0, none⟩ = some (.int .i64 bx) ∧ wx.cell? ⟨w.heap.size + 1, 1, none⟩ = some (.int .i64 b_y) ∧ Gr w wx)
    ((first | exact ⟨c1, c2, c3, c4, gr_drew c5⟩ | exact ⟨alloc_cell _ c1, alloc_cell _ c2, alloc_cell _ c3, alloc_cell _ c4, gr_drew (gr_alloc c5 _)⟩ | (with_reducible assumption)))
    (first | (go_at_call 150; (with_reducible refine (unhide HCX _).mono ?_); rintro e w1 ⟨rfl, rfl⟩) | (go_at_call 150; (with_reducible refine (unhide HCY _).mono ?_); rintro e w1 ⟨rfl, rfl⟩) | (go_at_call 149; (with_reducible refine (unhide HCO _ _ (by go_cell) (by go_cell)).mono ?_); rintro e w2 ⟨rfl, rfl⟩))
  all_goals go_wp2
  all_goals go_ret
  all_goals exact ⟨rfl, gr_drew (gr_alloc c5 _)⟩
theorem p_hcmp (ax ay bx b_y : Int) (w : World) :
    Calls Tryz.prog 148 #[pt ax ay, pt bx b_y] w fun e w' => e = .returned (.int .i64 (cmp2 ax ay bx b_y)) ∧ Up w w' :=
  (p_hcmpG ax ay bx b_y w).mono fun _ _ ⟨he, hw⟩ => ⟨he, gr_up hw⟩
theorem c_CompareL (a b : Int) (w : World) :
    Calls Tryz.prog 176 #[.int .i64 a, .int .i64 b] w fun e w' => e = .returned (.int .i64 (cmpV a b)) ∧ w = w' := by
  unfold cmpV
  by_cases c1 : a < b
  · go_enter Tryz.func176, Tryz.ntmps176
    go_wp2
    go_ret
    exact ⟨rfl, rfl⟩
  by_cases c2 : b < a
  · go_enter Tryz.func176, Tryz.ntmps176
    go_wp2
    go_ret
    exact ⟨rfl, rfl⟩
  · go_enter Tryz.func176, Tryz.ntmps176
    go_wp2
    go_ret
    exact ⟨rfl, rfl⟩
/-- How two ways are ordered. -/
def cwF (x y p q : Int) : Int := if cmpV (haF x y) (haF p q) = 0 then cmpV 0 (x * q - y * p) else cmpV (haF x y) (haF p q)
set_option maxRecDepth 100000 in
set_option maxHeartbeats 4000000 in
theorem p_ways (x y p q : Int) (w : World) (e1 : IntKind.i64.wrap (x * q) = x * q) (e2 : IntKind.i64.wrap (y * p) = y * p) (e3 : IntKind.i64.wrap (x * q - y * p) = x * q - y * p) :
    Calls Tryz.prog 154 #[pt x y, pt p q] w fun e w' => e = .returned (.int .i64 (cwF x y p q)) ∧ Up w w' := by
  have HA := hide (fun W => p_halfL x y W)
  have HB := hide (fun W => p_halfL p q W)
  have HC := hide (fun W => p_crossL x y p q W e1 e2 e3)
  have HD := hide (fun W => c_Compare 0 (x * q - y * p) W)
  clear e1 e2 e3
  unfold cwF
  generalize x * q - y * p = c at *
  generalize haF x y = A at *
  generalize haF p q = B at *
  have HI := hide (fun W => (c_CompareL A B W).mono fun e w' ⟨h1, h2⟩ => (⟨h1, h2 ▸ up_refl _⟩ : _ ∧ Up W w'))
  generalize cmpV A B = C at *
  generalize cmpV 0 c = D at *
  obtain ⟨R, hR⟩ : ∃ R, (if C = 0 then D else C) = R := ⟨_, rfl⟩
  rw [hR]
  have HR := hide hR
  clear hR
  go_enter Tryz.func154, Tryz.ntmps154
  go_upto_region 1 with fail
  refine at_wpC (fun W0 hW0 => ?_)
  have U0 : Up w W0 := by rw [hW0]; exact (by repeat' (first | (with_reducible exact up_refl _) | (with_reducible assumption) | (with_reducible refine up_alloc ?_ _) | (with_reducible refine up_drewN ?_ _) | (with_reducible refine up_drew ?_) | (with_reducible refine up_set ?_ (by first | (simp; done) | (simp; omega) | omega) _) | (refine up_trans ?_ (by with_reducible assumption))))
  obtain ⟨bA, bB⟩ : Bx W0 w.heap.size [.int .i64 x, .int .i64 y] ∧ Bx W0 (w.heap.size + 1) [.int .i64 p, .int .i64 q] := by
    rw [hW0]
    exact bxl2 w _ _ _
  clear hW0
  have m0 : ∀ r : UpW W0, r.v.cell? ⟨w.heap.size, 0, none⟩ = some (.int .i64 x) := fun r => (bx_up bA r.up 0 _ rfl).1
  have m1 : ∀ r : UpW W0, r.v.cell? ⟨w.heap.size, 1, none⟩ = some (.int .i64 y) := fun r => (bx_up bA r.up 1 _ rfl).1
  have m2 : ∀ r : UpW W0, r.v.cell? ⟨w.heap.size + 1, 0, none⟩ = some (.int .i64 p) := fun r => (bx_up bB r.up 0 _ rfl).1
  have m3 : ∀ r : UpW W0, r.v.cell? ⟨w.heap.size + 1, 1, none⟩ = some (.int .i64 q) := fun r => (bx_up bB r.up 1 _ rfl).1
  refine wp_upq (by kernel_rfl) (by kernel_rfl) ?_; (repeat (go_big_quiet_step ((first | (go_at_call 177; with_reducible exact upq (unhide HA _)) | (go_at_call 177; with_reducible exact upq (unhide HB _)) | (go_at_call 176; with_reducible exact upq (unhide HI _)))))); refine wpQuiet_nil ?_; intro _ hw'; obtain ⟨pq, hw''⟩ := hw'; subst hw''; have hpq := pq.up
  generalize pq.v = W1 at hpq ⊢
  have U1 := up_trans U0 hpq
  obtain ⟨a0, a1⟩ := bx2 (bx_up bA hpq)
  obtain ⟨b0, b1⟩ := bx2 (bx_up bB hpq)
  clear m0 m1 m2 m3 bA bB U0 hpq
  by_cases hC : C = 0
  · subst hC
    obtain rfl : D = R := by rw [← unhide HR, if_pos rfl]
    go_wp2_with (first
      | (go_at_call 145; (with_reducible refine (unhide HC _).mono ?_); rintro e w2 ⟨rfl, u2⟩)
      | (go_at_call 150; (with_reducible refine (unhide HD _).mono ?_); rintro e w3 ⟨rfl, rfl⟩))
    go_ret
    exact ⟨rfl, up_trans U1 u2⟩
  · obtain rfl : C = R := by rw [← unhide HR, if_neg hC]
    have t1 : (C == 0) = false := by simp [hC]
    go_wp2_with fail
    go_ret
    exact ⟨rfl, U1⟩
set_option maxRecDepth 100000 in
theorem p_tUp (n : Int) (w : World) (h : 0 ≤ n ∧ n ≤ 1000000000) :
    Calls Tryz.prog 127 #[.int .i64 n] w fun e w' => e = .returned (.int .i64 ((n + 999) / 1000)) ∧ w = w' := by
  have e1 : IntKind.i64.wrap (n + 1000) = n + 1000 := IntWalk.i64_in _ ⟨by omega, by omega⟩
  have e2 : IntKind.i64.wrap (n + 1000 - 1) = n + 999 := by rw [show n + 1000 - 1 = n + 999 by omega]; exact IntWalk.i64_in _ ⟨by omega, by omega⟩
  have e3 : (n + 999).tdiv 1000 = (n + 999) / 1000 := Int.tdiv_eq_ediv_of_nonneg (by omega)
  have e4 : IntKind.i64.wrap ((n + 999) / 1000) = (n + 999) / 1000 := IntWalk.i64_in _ ⟨by omega, by omega⟩
  have t1 : ¬ n < 0 := by omega
  go_enter Tryz.func127, Tryz.ntmps127
  go_wp2_with fail
  go_ret
  exact ⟨rfl, rfl⟩
/-- Points as cells. -/
def cellsLd (l : List (Int × Int)) : List Value := l.flatMap fun t => [.int .i64 t.1, .int .i64 t.2]
set_option maxRecDepth 100000 in
theorem p_rubs (w : World) :
    Calls Tryz.prog 122 #[.int .i64 5000, .int .i64 300] w fun e w' => (∃ g, e = .returned (.slice (some ⟨g, 0, none⟩) 8 8) ∧ Bx w' g (cellsLd ruL) ∧ w.heap.size ≤ g) ∧ Up w w' := by
  have e1 : IntKind.i64.wrap 1500000 = 1500000 := IntWalk.i64_in _ ⟨by omega, by omega⟩
  go_enter Tryz.func122, Tryz.ntmps122
  go_wp2_with fail
  go_ret
  exact ⟨⟨_, rfl, bx_new w _ _, Nat.le_refl _⟩, (by repeat' (first | (with_reducible exact up_refl _) | (with_reducible assumption) | (with_reducible refine up_alloc ?_ _) | (with_reducible refine up_drewN ?_ _) | (with_reducible refine up_drew ?_) | (with_reducible refine up_set ?_ (by first | (simp; done) | (simp; omega) | omega) _) | (refine up_trans ?_ (by with_reducible assumption))))⟩
end Go.Proofs.YtdehnokcjnbjoaaGreat
namespace Go.Proofs.YtdehnokcjnbjoaaGreat
open Go.RowKit Go.Proofs.Gn
attribute [local go_sem] Oper.semAt_some
set_option linter.unusedVariables false
theorem i64_small {x : Int} (h : -1000000000 ≤ x ∧ x ≤ 1000000000) : IntKind.i64.wrap x = x := IntWalk.i64_in _ ⟨by omega, by omega⟩
theorem nxS_if (a w p : Int × Int) : ∃ TT : Bool, (TT = true ↔ (w.1 * (p.2 - a.2) - w.2 * (p.1 - a.1) < 0 ∨ (w.1 * (p.2 - a.2) - w.2 * (p.1 - a.1) = 0 ∧ w.1 * w.1 + w.2 * w.2 < (p.1 - a.1) * (p.1 - a.1) + (p.2 - a.2) * (p.2 - a.2)))) ∧ (TT = true → nxS a w p = (p.1 - a.1, p.2 - a.2)) ∧ (TT = false → nxS a w p = w) := by
  refine ⟨decide (w.1 * (p.2 - a.2) - w.2 * (p.1 - a.1) < 0 ∨ (w.1 * (p.2 - a.2) - w.2 * (p.1 - a.1) = 0 ∧ w.1 * w.1 + w.2 * w.2 < (p.1 - a.1) * (p.1 - a.1) + (p.2 - a.2) * (p.2 - a.2))), by simp, fun h => ?_, fun h => ?_⟩
  · have h := of_decide_eq_true h
    unfold nxS
    rcases h with h | ⟨h, h'⟩
    · rw [if_pos h]
    · rw [if_neg (by omega), if_pos h, if_pos h']
  · have h := of_decide_eq_false h
    unfold nxS
    rw [if_neg (fun x => h (.inl x))]
    split
    · rename_i h1
      rw [if_neg (fun x => h (.inr ⟨h1, x⟩))]
    · rfl
set_option maxRecDepth 100000 in
set_option maxHeartbeats 16000000 in
theorem p_next (A : Option Addr) (l : List (Int × Int)) (cap : Nat) (a : Int × Int) (w : World) (h : Pts w A l) (hl : ∀ p ∈ l, Nr 4000 p) (ha : Nr 4000 a) (hn : l.length ≤ 100) :
    Calls Tryz.prog 151 #[.slice A l.length cap, pt a.1 a.2] w fun e w' => e = .returned (pt (nxF l a).1 (nxF l a).2) ∧ Up w w' := by
  have HP := hide h
  have HL := hide hl
  have HA := hide ha
  have HI := hide (fun x p => nxS_if a x p)
  have HD := hide (fun x k (hk : k < l.length) => nxW_drop (a := a) (w := x) hk)
  have HN := hide (fun x p (h1 : Nr 4000 p) (h2 : Nr 8000 x) => nxS_nr (a := a) ha h1 h2)
  have HW := hide (nxW_nr ha (l := l) (w := (0, 0)) hl (by unfold Nr; decide))
  have HM := hide (fun x y p q W e1 e2 => p_minusL x y p q W e1 e2)
  have HC := hide (fun x y p q W e1 e2 e3 => p_crossL x y p q W e1 e2 e3)
  have HO := hide (fun x y p q W e1 e2 e3 => p_dotL x y p q W e1 e2 e3)
  have HU := hide (fun x y p q W e1 e2 => p_plusL x y p q W e1 e2)
  unfold nxF
  obtain ⟨a1, a2⟩ := a
  obtain ⟨v, hv⟩ : ∃ v, nxW (a1, a2) (0, 0) l = v := ⟨_, rfl⟩
  rw [hv] at HW ⊢
  have HV := hide hv
  obtain ⟨v1, v2⟩ := v
  obtain ⟨n, hnn⟩ : ∃ n, l.length = n := ⟨_, rfl⟩
  have HNn := hide hnn
  rw [hnn] at hn ⊢
  dsimp only at HI HD HN HW HV ⊢
  clear h hl ha hv hnn
  go_enter Tryz.func151, Tryz.ntmps151
  go_upto_region 2 with fail
  refine at_wpC (fun W0 hW0 => ?_)
  have U0 : Up w W0 := by rw [hW0]; exact (by repeat' (first | (with_reducible exact up_refl _) | (with_reducible assumption) | (with_reducible refine up_alloc ?_ _) | (with_reducible refine up_drewN ?_ _) | (with_reducible refine up_drew ?_) | (with_reducible refine up_set ?_ (by first | (simp; done) | (simp; omega) | omega) _) | (refine up_trans ?_ (by with_reducible assumption))))
  obtain ⟨bA, bR, bW⟩ : Bx W0 w.heap.size [.int .i64 a1, .int .i64 a2] ∧ Bx W0 (w.heap.size + 1) [.int .i64 0, .int .i64 0] ∧ Bx W0 (w.heap.size + 1 + 1) [.int .i64 0, .int .i64 0] := by
    rw [hW0]
    exact bxl3 w _ _ _ _
  clear hW0
  go_upto_region 3 with fail
  go_loopw [12] (fun s12 wr => ∃ (k : Nat) (x y : Int), k ≤ n ∧ s12 = .int .i64 k ∧ Nr 8000 (x, y) ∧ nxW (a1, a2) (x, y) (l.drop k) = (v1, v2) ∧ Bx wr w.heap.size [.int .i64 a1, .int .i64 a2] ∧ Bx wr (w.heap.size + 1) [.int .i64 0, .int .i64 0] ∧ Bx wr (w.heap.size + 1 + 1) [.int .i64 x, .int .i64 y] ∧ Up w wr) (fun s12 _ => n - (intOf s12).toNat)
  case atStart => exact ⟨0, 0, 0, by omega, rfl, by unfold Nr; decide, by rw [List.drop_zero]; exact unhide HV, bA, bR, bW, U0⟩
  case round =>
    clear bA bR bW U0
    obtain ⟨k, x, y, hk, rfl, hxy, hrest, bA, bR, bW, hu⟩ := hrel
    by_cases hlt : k < n
    · have hl : k < l.length := by rw [unhide HNn]; exact hlt
      obtain ⟨b, off, rfl, hc⟩ := (unhide HP).resolve_left (by intro e; rw [e] at hl; simp at hl)
      obtain ⟨c0, c1⟩ := hc k hl
      have hpn := unhide HL l[k] (List.getElem_mem hl)
      rw [unhide HD (x, y) k hl] at hrest
      obtain ⟨TT, t1, t2, t3⟩ := unhide HI (x, y) l[k]
      have hs := unhide HN (x, y) l[k] hpn hxy
      generalize l[k] = p at *
      obtain ⟨p1, p2⟩ := p
      have han := unhide HA
      unfold Nr at hpn han hxy
      dsimp only at hpn han hxy t1 t2 t3 c0 c1
      have o1 : IntKind.i64.wrap (p1 - a1) = p1 - a1 := i64_small (by omega)
      have o2 : IntKind.i64.wrap (p2 - a2) = p2 - a2 := i64_small (by omega)
      have q1 : -8000 ≤ p1 - a1 ∧ p1 - a1 ≤ 8000 := by omega
      have q2 : -8000 ≤ p2 - a2 ∧ p2 - a2 ≤ 8000 := by omega
      have M1 := hide (fun W => unhide HM p1 p2 a1 a2 W o1 o2)
      clear o1 o2 hpn han
      generalize p1 - a1 = ox at *
      generalize p2 - a2 = oy at *
      have e1 := mul_nr hxy.1 q2 (by omega)
      have e2 := mul_nr hxy.2 q1 (by omega)
      have e3 := mul_nr q1 q1 (by omega)
      have e4 := mul_nr q2 q2 (by omega)
      have e5 := mul_nr hxy.1 hxy.1 (by omega)
      have e6 := mul_nr hxy.2 hxy.2 (by omega)
      have M2 := hide (fun W => unhide HC x y ox oy W (i64_small (by omega)) (i64_small (by omega)) (i64_small (by omega)))
      have M3 := hide (fun W => unhide HO ox oy ox oy W (i64_small (by omega)) (i64_small (by omega)) (i64_small (by omega)))
      have M4 := hide (fun W => unhide HO x y x y W (i64_small (by omega)) (i64_small (by omega)) (i64_small (by omega)))
      clear e1 e2 e3 e4 e5 e6 q1 q2 hc
      generalize x * oy - y * ox = T at *
      generalize ox * ox + oy * oy = D1 at *
      generalize x * x + y * y = D2 at *
      have HT1 := hide t1
      have HT2 := hide t2
      have HT3 := hide t3
      have HRest := hide hrest
      have HSn := hide hs
      clear t1 t2 t3 hrest hs hxy
      have c0' := up_cell hu c0
      have c1' := up_cell hu c1
      have i0 : (0 : Int) ≤ (k : Int) := by omega
      have i1 : (k : Int) < (n : Int) := by omega
      have i3 : (k : Int).toNat = k := by omega
      have hwk : IntKind.i64.wrap ((k : Int) + 1) = (k : Int) + 1 := IntWalk.i64_in _ ⟨by omega, by omega⟩
      clear c0 c1
      go_upto_region 5 with fail
      refine at_wpC (fun W4 hW4 => ?_)
      have u4 : Up wr W4 := by rw [hW4]; exact (by repeat' (first | (with_reducible exact up_refl _) | (with_reducible assumption) | (with_reducible refine up_alloc ?_ _) | (with_reducible refine up_drewN ?_ _) | (with_reducible refine up_drew ?_) | (with_reducible refine up_set ?_ (by first | (simp; done) | (simp; omega) | omega) _) | (refine up_trans ?_ (by with_reducible assumption))))
      have b7 : Bx W4 wr.heap.size [.int .i64 p1, .int .i64 p2] := by rw [hW4]; exact bx_new wr _ _
      obtain ⟨g7, hg⟩ : ∃ g, wr.heap.size = g := ⟨_, rfl⟩
      rw [hg] at b7 ⊢
      have bA4 := bx_up bA u4
      have bR4 := bx_up bR u4
      have bW4 := bx_up bW u4
      have U4 := up_trans hu u4
      clear hW4 hg bA bR bW hu c0' c1' u4
      obtain ⟨y0, y1⟩ := bx2 b7
      obtain ⟨z0, z1⟩ := bx2 bA4
      go_upto_region 6 with (go_at_call 144; (with_reducible refine (unhide M1 _).mono ?_); rintro e w5 ⟨rfl, u5⟩)
      refine at_wpC (fun W5 hW5 => ?_)
      have u45 : Up W4 W5 := by rw [hW5]; exact (by repeat' (first | (with_reducible exact up_refl _) | (with_reducible assumption) | (with_reducible refine up_alloc ?_ _) | (with_reducible refine up_drewN ?_ _) | (with_reducible refine up_drew ?_) | (with_reducible refine up_set ?_ (by first | (simp; done) | (simp; omega) | omega) _) | (refine up_trans ?_ (by with_reducible assumption))))
      have b8 : Bx W5 w5.heap.size [.int .i64 ox, .int .i64 oy] := by rw [hW5]; exact bx_new w5 _ _
      have hg8 : w.heap.size + 3 ≤ w5.heap.size := by
        have q := bx_lt bW4 (by simp)
        have := u5.size
        omega
      obtain ⟨g8, hg⟩ : ∃ g, w5.heap.size = g := ⟨_, rfl⟩
      rw [hg] at b8 hg8 ⊢
      have bA5 := bx_up bA4 u45
      have bR5 := bx_up bR4 u45
      have bW5 := bx_up bW4 u45
      have U5 := up_trans U4 u45
      clear hW5 hg u5 bA4 bR4 bW4 U4 y0 y1 z0 z1 b7 u45
      obtain ⟨y0, y1⟩ := bx2 bW5
      obtain ⟨z0, z1⟩ := bx2 b8
      go_upto_region 7 with (go_at_call 145; (with_reducible refine (unhide M2 _).mono ?_); rintro e w6 ⟨rfl, u6⟩)
      have bA6 := bx_up bA5 u6
      have bR6 := bx_up bR5 u6
      have bW6 := bx_up bW5 u6
      have b86 := bx_up b8 u6
      have U6 := up_trans U5 u6
      clear y0 y1 z0 z1 bA5 bR5 bW5 b8 U5 u6
      go_cut [36] (fun s wx => s = .bool TT ∧ Up w6 wx)
      case first =>
        have n0 : ∀ r : UpW w6, r.v.cell? ⟨w.heap.size + 1 + 1, 0, none⟩ = some (.int .i64 x) := fun r => (bx_up bW6 r.up 0 _ rfl).1
        have n1 : ∀ r : UpW w6, r.v.cell? ⟨w.heap.size + 1 + 1, 1, none⟩ = some (.int .i64 y) := fun r => (bx_up bW6 r.up 1 _ rfl).1
        have n2 : ∀ r : UpW w6, r.v.cell? ⟨g8, 0, none⟩ = some (.int .i64 ox) := fun r => (bx_up b86 r.up 0 _ rfl).1
        have n3 : ∀ r : UpW w6, r.v.cell? ⟨g8, 1, none⟩ = some (.int .i64 oy) := fun r => (bx_up b86 r.up 1 _ rfl).1
        have ht := unhide HT1
        by_cases hT : T < 0
        · obtain rfl : TT = true := ht.2 (.inl hT)
          have d1 : decide (T < 0) = true := decide_eq_true hT
          clear ht
          refine wp_upq (by kernel_rfl) (by kernel_rfl) ?_; (repeat (go_big_quiet_step (fail))); refine wpQuiet_nil ?_; intro _ hw'; obtain ⟨pq, hw''⟩ := hw'; subst hw''; have hpq := pq.up
          go_wp2_with fail
          go_meet
          exact ⟨rfl, hpq⟩
        · have d1 : decide (T < 0) = false := decide_eq_false hT
          by_cases hT0 : T = 0
          · subst hT0
            by_cases hD : D2 < D1
            · obtain rfl : TT = true := ht.2 (.inr ⟨rfl, hD⟩)
              have d2 : decide (D2 < D1) = true := decide_eq_true hD
              clear ht
              refine wp_upq (by kernel_rfl) (by kernel_rfl) ?_; (repeat (go_big_quiet_step ((first | (go_at_call 131; with_reducible exact upq (unhide M3 _)) | (go_at_call 131; with_reducible exact upq (unhide M4 _)))))); refine wpQuiet_nil ?_; intro _ hw'; obtain ⟨pq, hw''⟩ := hw'; subst hw''; have hpq := pq.up
              go_wp2_with fail
              go_meet
              exact ⟨rfl, hpq⟩
            · obtain rfl : TT = false := by
                cases TT
                · rfl
                · rcases ht.1 rfl with q | ⟨_, q⟩
                  · exact absurd q hT
                  · exact absurd q hD
              have d2 : decide (D2 < D1) = false := decide_eq_false hD
              clear ht
              refine wp_upq (by kernel_rfl) (by kernel_rfl) ?_; (repeat (go_big_quiet_step ((first | (go_at_call 131; with_reducible exact upq (unhide M3 _)) | (go_at_call 131; with_reducible exact upq (unhide M4 _)))))); refine wpQuiet_nil ?_; intro _ hw'; obtain ⟨pq, hw''⟩ := hw'; subst hw''; have hpq := pq.up
              go_wp2_with fail
              go_meet
              exact ⟨rfl, hpq⟩
          · obtain rfl : TT = false := by
              cases TT
              · rfl
              · rcases ht.1 rfl with q | ⟨q, _⟩
                · exact absurd q hT
                · exact absurd q hT0
            have d2 : (T == 0) = false := by simp [hT0]
            clear ht
            refine wp_upq (by kernel_rfl) (by kernel_rfl) ?_; (repeat (go_big_quiet_step (fail))); refine wpQuiet_nil ?_; intro _ hw'; obtain ⟨pq, hw''⟩ := hw'; subst hw''; have hpq := pq.up
            go_wp2_with fail
            go_meet
            exact ⟨rfl, hpq⟩
      case rest =>
        obtain ⟨rfl, u7⟩ := hcut
        obtain ⟨W7, rfl⟩ : ∃ z : World, z = wc := ⟨_, rfl⟩
        have bA7 := bx_up bA6 u7
        have bR7 := bx_up bR6 u7
        have bW7 := bx_up bW6 u7
        have b87 := bx_up b86 u7
        have U7 := up_trans U6 u7
        clear bA6 bR6 bW6 b86 U6 u7 M1 M2 M3 M4
        cases TT
        · have e := unhide HT3 rfl
          have hr := unhide HRest
          have hs := unhide HSn
          rw [e] at hr hs
          have HR := hide hr
          have HS := hide hs
          clear e hr hs
          go_wp2_with fail
          go_roundw
          case rel => exact ⟨k + 1, x, y, by omega, by go_num, unhide HS, unhide HR, bA7, bR7, bW7, U7⟩
          case measure => simp [intOf]; omega
        · have e := unhide HT2 rfl
          have hr := unhide HRest
          have hs := unhide HSn
          rw [e] at hr hs
          have HR := hide hr
          have HS := hide hs
          clear e hr hs
          obtain ⟨y0, y1⟩ := bx2 b87
          obtain ⟨f0, f1⟩ := bxf2 bW7
          obtain ⟨g0, g1⟩ := bx2 bW7
          go_wp2_with fail
          have B9 := bx_set (bx_set bW7 0 (.int .i64 ox)) 1 (.int .i64 oy)
          have A9 := bx_far (bx_far bA7 (p := ⟨w.heap.size + 1 + 1, 0, none⟩) (by simp only; omega) (.int .i64 ox)) (p := ⟨w.heap.size + 1 + 1, 1, none⟩) (by simp only; omega) (.int .i64 oy)
          have R9 := bx_far (bx_far bR7 (p := ⟨w.heap.size + 1 + 1, 0, none⟩) (by simp only; omega) (.int .i64 ox)) (p := ⟨w.heap.size + 1 + 1, 1, none⟩) (by simp only; omega) (.int .i64 oy)
          have U9 := up_set (up_set U7 (p := ⟨w.heap.size + 1 + 1, 0, none⟩) (by simp only; omega) (.int .i64 ox)) (p := ⟨w.heap.size + 1 + 1, 1, none⟩) (by simp only; omega) (.int .i64 oy)
          go_roundw
          case rel => exact ⟨k + 1, ox, oy, by omega, by go_num, unhide HS, unhide HR, A9, R9, B9, U9⟩
          case measure => simp [intOf]; omega
    · obtain rfl : k = n := by omega
      rw [List.drop_eq_nil_of_le (by rw [unhide HNn]; exact Nat.le_refl _)] at hrest
      have hxe : x = v1 := congrArg Prod.fst (show (x, y) = (v1, v2) from hrest)
      have hye : y = v2 := congrArg Prod.snd (show (x, y) = (v1, v2) from hrest)
      subst hxe hye
      have han := unhide HA
      unfold Nr at han hxy
      dsimp only at han hxy
      have o1 : IntKind.i64.wrap (a1 + x) = a1 + x := i64_small (by omega)
      have o2 : IntKind.i64.wrap (a2 + y) = a2 + y := i64_small (by omega)
      have M1 := hide (fun W => unhide HU a1 a2 x y W o1 o2)
      clear o1 o2 han hxy hrest
      obtain ⟨y0, y1⟩ := bx2 bW
      obtain ⟨z0, z1⟩ := bx2 bA
      obtain ⟨r1, hr1⟩ : ∃ r, a1 + x = r := ⟨_, rfl⟩
      obtain ⟨r2, hr2⟩ : ∃ r, a2 + y = r := ⟨_, rfl⟩
      rw [hr1, hr2] at M1
      have HR1 := hide hr1
      have HR2 := hide hr2
      clear hr1 hr2
      have i1 : ¬ (k : Int) < (k : Int) := by omega
      go_wp2_with (go_at_call 123; (with_reducible refine (unhide M1 _).mono ?_); rintro e w8 ⟨rfl, u8⟩; have bR8 := bx_up bR u8; obtain ⟨h0, h1⟩ := bx2 bR8; obtain ⟨k0, k1⟩ := bxf2 bR8)
      have B9 := bx_set (bx_set bR8 0 (.int .i64 r1)) 1 (.int .i64 r2)
      have U9 := up_set (up_set (up_trans hu u8) (p := ⟨w.heap.size + 1, 0, none⟩) (by simp only; omega) (.int .i64 r1)) (p := ⟨w.heap.size + 1, 1, none⟩) (by simp only; omega) (.int .i64 r2)
      generalize (w8.setCell ⟨w.heap.size + 1, 0, none⟩ (.int .i64 r1)).setCell ⟨w.heap.size + 1, 1, none⟩ (.int .i64 r2) = W9 at B9 U9 ⊢
      have s0 := (B9 0 _ rfl).1
      have s1 := (B9 1 _ rfl).1
      refine bodyPost_ret (v := pt r1 r2) (by simp [results, Tryz.f151, go_sem, s0, s1]) rfl ?_
      exact ⟨by rw [unhide HR1, unhide HR2], U9⟩
end Go.Proofs.YtdehnokcjnbjoaaGreat
namespace Go.Proofs.YtdehnokcjnbjoaaGreat
open Go.RowKit Go.Proofs.Gn
attribute [local go_sem] Oper.semAt_some
set_option linter.unusedVariables false
/-- Ways in their order. -/
def SrW (ts : List (Int × Int)) : Prop := ∀ k (h : k + 1 < ts.length), 0 ≤ cwF ts[k + 1].1 ts[k + 1].2 ts[k].1 ts[k].2
abbrev fnWays : Value := .func (.func 154) #[] #[]
set_option maxRecDepth 100000 in
set_option maxHeartbeats 8000000 in
theorem p_insW (A : Option Addr) (ts : List (Int × Int)) (cap : Nat) (w : World) (h : Pts w A ts) (hs : SrW ts) (hb : ∀ p ∈ ts, Nr 4000 p) (h0 : 0 < ts.length) (hn : ts.length ≤ 20) :
    Calls Tryz.prog 188 #[.slice A ts.length cap, .int .i64 0, .int .i64 ts.length, fnWays] w fun e w' => e = .returned (.tuple #[]) ∧ Up w w' := by
  obtain ⟨b, off, rfl, hc⟩ := h.resolve_left (by intro e; rw [e] at h0; simp at h0)
  have HC := hide hc
  have HL := hide (fun x p y q W e1 e2 e3 => p_ways x p y q W e1 e2 e3)
  have HB := hide hb
  have HS := hide hs
  obtain ⟨n, hN⟩ : ∃ n, ts.length = n := ⟨_, rfl⟩
  have HN := hide hN
  rw [hN] at h0 hn ⊢
  clear h hs hc hN hb
  go_enter Tryz.func188, Tryz.ntmps188
  go_upto_region 1 with fail
  go_loopw [8] (fun s8 wr => ∃ k : Nat, k + 1 ≤ n ∧ s8 = .int .i64 ((k : Int) + 1) ∧ Up w wr) (fun s8 _ => n - (intOf s8).toNat)
  case atStart => exact ⟨0, by omega, rfl, (by repeat' (first | (with_reducible exact up_refl _) | (with_reducible assumption) | (with_reducible refine up_alloc ?_ _) | (with_reducible refine up_drewN ?_ _) | (with_reducible refine up_drew ?_) | (with_reducible refine up_set ?_ (by first | (simp; done) | (simp; omega) | omega) _) | (refine up_trans ?_ (by with_reducible assumption))))⟩
  case round =>
    obtain ⟨k, hk, rfl, hu⟩ := hrel
    by_cases hlt : k + 1 < n
    · have hl : k + 1 < ts.length := by rw [unhide HN]; exact hlt
      obtain ⟨x0, x1⟩ := unhide HC k (by omega)
      obtain ⟨y0, y1⟩ := unhide HC (k + 1) hl
      have hle := unhide HS k hl
      have b1 : (-4000 ≤ ts[k].1 ∧ ts[k].1 ≤ 4000) ∧ (-4000 ≤ ts[k].2 ∧ ts[k].2 ≤ 4000) := unhide HB ts[k] (List.getElem_mem (by omega))
      have b2 : (-4000 ≤ ts[k + 1].1 ∧ ts[k + 1].1 ≤ 4000) ∧ (-4000 ≤ ts[k + 1].2 ∧ ts[k + 1].2 ≤ 4000) := unhide HB ts[k + 1] (List.getElem_mem hl)
      generalize ts[k].1 = X at *
      generalize ts[k].2 = P at *
      generalize ts[k + 1].1 = Y at *
      generalize ts[k + 1].2 = Q at *
      have x0' := up_cell hu x0
      have x1' := up_cell hu x1
      have y0' := up_cell hu y0
      have y1' := up_cell hu y1
      obtain ⟨⟨b3, b4⟩, ⟨b5, b6⟩⟩ := b1
      obtain ⟨⟨b7, b8⟩, ⟨b9, c1⟩⟩ := b2
      have c2 := mul_nr (x := Y) (y := P) ⟨b7, b8⟩ ⟨b5, b6⟩ (by omega)
      have c3 := mul_nr (x := Q) (y := X) ⟨b9, c1⟩ ⟨b3, b4⟩ (by omega)
      have HL1 := hide (fun W => unhide HL Y Q X P W (i64_small (by omega)) (i64_small (by omega)) (i64_small (by omega)))
      have hc0 : 0 ≤ cwF Y Q X P := hle
      clear c2 c3 b3 b4 b5 b6 b7 b8 b9 c1
      generalize cwF Y Q X P = c at *
      have i1 : (k : Int) + 1 < (n : Int) := by omega
      have i2 : (0 : Int) ≤ (k : Int) + 1 := by omega
      have i3 : ((k : Int) + 1).toNat = k + 1 := by omega
      have i4 : IntKind.i64.wrap ((k : Int) + 1 - 1) = (k : Int) := by rw [Int.add_sub_cancel]; exact IntWalk.i64_in _ ⟨by omega, by omega⟩
      have i5 : (0 : Int) ≤ (k : Int) := by omega
      have i6 : (k : Int) < (n : Int) := by omega
      have i7 : (k : Int).toNat = k := by omega
      have i8 : (0 : Int) < (k : Int) + 1 := by omega
      have i9 : decide ((0 : Int) < (k : Int) + 1) = true := decide_eq_true i8
      have j0 : ¬ c < 0 := by omega
      have j1 : decide (c < 0) = false := decide_eq_false j0
      have j2 : IntKind.i64.wrap ((k : Int) + 1 + 1) = (k : Int) + 1 + 1 := IntWalk.i64_in _ ⟨by omega, by omega⟩
      clear x0 x1 y0 y1 hle hc0 HC HS HB
      have m0 := fun p : UpW wr => up_cell p.up x0'
      have m1 := fun p : UpW wr => up_cell p.up x1'
      have m2 := fun p : UpW wr => up_cell p.up y0'
      have m3 := fun p : UpW wr => up_cell p.up y1'
      clear x0' x1' y0' y1'
      go_upto_region 4 with fail
      go_loopw [9] (fun s9 wx => s9 = .int .i64 ((k : Int) + 1) ∧ wx = wr) (fun _ _ => 0)
      case atStart => exact ⟨rfl, rfl⟩
      case round =>
        obtain ⟨rfl, rfl⟩ := hrel
        go_upto_region 4 with fail
        refine wp_upq (by kernel_rfl) (by kernel_rfl) ?_; (repeat (go_big_quiet_step ((go_at_call 154; exact upq (unhide HL1 _))))); refine wpQuiet_nil ?_; intro _ hw'; obtain ⟨pq, hw''⟩ := hw'; subst hw''; have hpq := pq.up
        have uW := up_trans hu hpq
        generalize pq.v = W1 at uW ⊢
        go_wp2_with fail
        go_roundw
        case rel => exact ⟨k + 1, by omega, by go_num, uW⟩
        case measure => simp [intOf]; omega
    · obtain rfl : n = k + 1 := by omega
      have i1 : ¬ (k : Int) + 1 < ((k + 1 : Nat) : Int) := by omega
      go_wp2_with fail
      (try simp only [Exit.inBlock, Exit.then])
      refine bodyPost_end (results_none rfl _ _ _) rfl ?_
      exact ⟨rfl, hu⟩
set_option maxRecDepth 100000 in
theorem p_len8 (w : World) : Calls Tryz.prog 143 #[.int .u64 8] w fun e w' => e = .returned (.int .i64 4) ∧ w = w' := by
  have H : ∀ W, Calls Tryz.prog 172 #[.int .u64 8] W fun e w' => e = .returned (.int .i64 4) ∧ W = w' := fun W => by
    go_enter Tryz.func172, Tryz.ntmps172
    go_wp2_with fail
    go_ret
    exact ⟨by first | rfl | kernel_rfl | decide, rfl⟩
  have H := hide H
  go_enter Tryz.func143, Tryz.ntmps143
  go_wp2_with (go_at_call 172; (with_reducible refine (unhide H _).mono ?_); rintro e w1 ⟨rfl, rfl⟩)
  go_ret
  exact ⟨rfl, rfl⟩
set_option maxRecDepth 100000 in
theorem p_sortW (A : Option Addr) (ts : List (Int × Int)) (cap : Nat) (w : World) (h : Pts w A ts) (hs : SrW ts) (hb : ∀ p ∈ ts, Nr 4000 p) (hn : ts.length = 8) :
    Calls Tryz.prog 153 #[.slice A 8 cap, fnWays] w fun e w' => e = .returned (.tuple #[]) ∧ Up w w' := by
  have HI := hide (fun W (hW : Up w W) => p_insW A ts cap W (pts_up h hW) hs hb (by omega) (by omega))
  rw [hn, show ((8 : Nat) : Int) = 8 from rfl] at HI
  have HL := hide (fun W => p_len8 W)
  have HP : ∀ (d : Int) W, Up w W → Calls Tryz.prog 175 #[.slice A 8 cap, .int .i64 0, .int .i64 8, .int .i64 d, fnWays] W fun e w' => e = .returned (.tuple #[]) ∧ Up W w' := by
    intro d W hW
    go_enter Tryz.func175, Tryz.ntmps175
    go_upto_region 2 with fail
    refine wp_loop_rounds 1 ?_
    rw [rounds_succ]
    go_wp2_with (go_at_call 188; (with_reducible refine (unhide HI _ hW).mono ?_); rintro e w1 ⟨rfl, u1⟩)
    (try simp only [Exit.inBlock, Exit.then])
    first | refine bodyPost_end (results_none rfl _ _ _) rfl ?_ | refine bodyPost_ret (results_none rfl _ _ _) rfl ?_
    exact ⟨rfl, u1⟩
  have HP := hide HP
  go_enter Tryz.func153, Tryz.ntmps153
  go_wp2_with (first
    | (go_at_call 143; (with_reducible refine (unhide HL _).mono ?_); rintro e w1 ⟨rfl, rfl⟩)
    | (go_at_call 175; (with_reducible refine (unhide HP _ _ (up_refl _)).mono ?_); rintro e w2 ⟨rfl, u2⟩))
  refine bodyPost_end (results_none rfl _ _ _) rfl ?_
  exact ⟨rfl, u2⟩
end Go.Proofs.YtdehnokcjnbjoaaGreat
namespace Go.Proofs.YtdehnokcjnbjoaaGreat
open Go.RowKit Go.Proofs.Gn
attribute [local go_sem] Oper.semAt_some
set_option linter.unusedVariables false
/-- The least of points. -/
def mnF : Int × Int → List (Int × Int) → Int × Int
  | m, [] => m
  | m, p :: l => mnF (if cmp2 p.1 p.2 m.1 m.2 < 0 then p else m) l
theorem mnF_drop {m : Int × Int} {l : List (Int × Int)} {k : Nat} (h : k < l.length) : mnF m (l.drop k) = mnF (if cmp2 l[k].1 l[k].2 m.1 m.2 < 0 then l[k] else m) (l.drop (k + 1)) := by
  rw [List.drop_eq_getElem_cons h]
  rfl
abbrev fnHcmp : Value := .func (.func 148) #[] #[]
set_option maxRecDepth 100000 in
set_option maxHeartbeats 8000000 in
theorem p_minF (A : Option Addr) (l : List (Int × Int)) (cap : Nat) (v : Int × Int) (w : World) (h : Pts w A l) (h0 : 0 < l.length) (hn : l.length ≤ 100) (hv : mnF l[0] (l.drop 1) = v) :
    Calls Tryz.prog 147 #[.slice A l.length cap, fnHcmp] w fun e w' => e = .returned (pt v.1 v.2) ∧ Up w w' := by
  obtain ⟨b, off, rfl, hc⟩ := h.resolve_left (by intro e; rw [e] at h0; simp at h0)
  have HC := hide hc
  have HH := hide (fun ax ay bx b_y W => p_hcmp ax ay bx b_y W)
  have HD := hide (fun m k (hk : k < l.length) => mnF_drop (m := m) hk)
  have HV := hide hv
  obtain ⟨c0, c1⟩ := hc 0 h0
  obtain ⟨m0, hm0⟩ : ∃ m, l[0] = m := ⟨_, rfl⟩
  rw [hm0] at HV
  simp only [hm0] at c0 c1
  obtain ⟨m1, m2⟩ := m0
  obtain ⟨v1, v2⟩ := v
  obtain ⟨n, hnn⟩ : ∃ n, l.length = n := ⟨_, rfl⟩
  have HNn := hide hnn
  rw [hnn] at h0 hn ⊢
  dsimp only at c0 c1 ⊢
  rw [Nat.zero_mul, Nat.add_zero] at c0 c1
  clear h hc hv hm0 hnn
  have i1 : ¬ (n : Int) < 1 := by omega
  have i2 : (0 : Int) < (n : Int) := by omega
  go_enter Tryz.func147, Tryz.ntmps147
  go_upto_region 3 with fail
  refine at_wpC (fun W0 hW0 => ?_)
  have U0 : Up w W0 := by rw [hW0]; exact (by repeat' (first | (with_reducible exact up_refl _) | (with_reducible assumption) | (with_reducible refine up_alloc ?_ _) | (with_reducible refine up_drewN ?_ _) | (with_reducible refine up_drew ?_) | (with_reducible refine up_set ?_ (by first | (simp; done) | (simp; omega) | omega) _) | (refine up_trans ?_ (by with_reducible assumption))))
  have bR : Bx W0 w.heap.size [.int .i64 0, .int .i64 0] := by rw [hW0]; exact bx_new w _ _
  have d0 := up_cell U0 c0
  have d1 := up_cell U0 c1
  clear hW0 c0 c1
  go_upto_region 4 with fail
  refine at_wpC (fun W1 hW1 => ?_)
  have u01 : Up W0 W1 := by rw [hW1]; exact (by repeat' (first | (with_reducible exact up_refl _) | (with_reducible assumption) | (with_reducible refine up_alloc ?_ _) | (with_reducible refine up_drewN ?_ _) | (with_reducible refine up_drew ?_) | (with_reducible refine up_set ?_ (by first | (simp; done) | (simp; omega) | omega) _) | (refine up_trans ?_ (by with_reducible assumption))))
  have bM : Bx W1 W0.heap.size [.int .i64 m1, .int .i64 m2] := by rw [hW1]; exact bx_new W0 _ _
  have hg0 : w.heap.size < W0.heap.size := bx_lt bR (by simp)
  obtain ⟨gm, hg⟩ : ∃ g, W0.heap.size = g := ⟨_, rfl⟩
  rw [hg] at bM hg0 ⊢
  have bR1 := bx_up bR u01
  have U1 := up_trans U0 u01
  clear hW1 hg bR U0 u01 d0 d1
  go_upto_region 5 with fail
  go_loopw [6] (fun s6 wr => ∃ (k : Nat) (x y : Int), 1 ≤ k ∧ k ≤ n ∧ s6 = .int .i64 k ∧ mnF (x, y) (l.drop k) = (v1, v2) ∧ Bx wr gm [.int .i64 x, .int .i64 y] ∧ Bx wr w.heap.size [.int .i64 0, .int .i64 0] ∧ Up w wr) (fun s6 _ => n - (intOf s6).toNat)
  case atStart => exact ⟨1, m1, m2, by omega, by omega, rfl, unhide HV, bM, bR1, U1⟩
  case round =>
    clear bM bR1 U1
    obtain ⟨k, x, y, hk1, hk, rfl, hrest, bM, bR, hu⟩ := hrel
    by_cases hlt : k < n
    · have hl : k < l.length := by rw [unhide HNn]; exact hlt
      obtain ⟨c0, c1⟩ := unhide HC k hl
      rw [unhide HD (x, y) k hl] at hrest
      generalize l[k] = p at *
      obtain ⟨p1, p2⟩ := p
      dsimp only at hrest c0 c1
      have HH1 := hide (unhide HH p1 p2 x y)
      obtain ⟨c, hcc⟩ : ∃ c, cmp2 p1 p2 x y = c := ⟨_, rfl⟩
      rw [hcc] at hrest HH1
      have HRest := hide hrest
      have c0' := up_cell hu c0
      have c1' := up_cell hu c1
      have i3 : (0 : Int) ≤ (k : Int) := by omega
      have i4 : (k : Int) < (n : Int) := by omega
      have i5 : (k : Int).toNat = k := by omega
      have hwk : IntKind.i64.wrap ((k : Int) + 1) = (k : Int) + 1 := IntWalk.i64_in _ ⟨by omega, by omega⟩
      clear c0 c1 hrest hcc
      go_upto_region 7 with fail
      have n0 := fun r : UpW wr => up_cell r.up c0'
      have n1 := fun r : UpW wr => up_cell r.up c1'
      have n2 : ∀ r : UpW wr, r.v.cell? ⟨gm, 0, none⟩ = some (.int .i64 x) := fun r => (bx_up bM r.up 0 _ rfl).1
      have n3 : ∀ r : UpW wr, r.v.cell? ⟨gm, 1, none⟩ = some (.int .i64 y) := fun r => (bx_up bM r.up 1 _ rfl).1
      refine wp_upq (by kernel_rfl) (by kernel_rfl) ?_; (repeat (go_big_quiet_step ((go_at_call 148; exact upq (unhide HH1 _))))); refine wpQuiet_nil ?_; intro _ hw'; obtain ⟨pq, hw''⟩ := hw'; subst hw''; have hpq := pq.up
      generalize pq.v = W7 at hpq ⊢
      have bM7 := bx_up bM hpq
      have bR7 := bx_up bR hpq
      have U7 := up_trans hu hpq
      have c0 := up_cell hpq c0'
      have c1 := up_cell hpq c1'
      clear n0 n1 n2 n3 bM bR hu hpq c0' c1' HH1
      by_cases hneg : c < 0
      · have hr := unhide HRest
        rw [if_pos hneg] at hr
        have HR := hide hr
        clear hr
        obtain ⟨f0, f1⟩ := bxf2 bM7
        obtain ⟨g0, g1⟩ := bx2 bM7
        go_wp2_with fail
        have B9 := bx_set (bx_set bM7 0 (.int .i64 p1)) 1 (.int .i64 p2)
        have R9 := bx_far (bx_far bR7 (p := ⟨gm, 0, none⟩) (by simp only; omega) (.int .i64 p1)) (p := ⟨gm, 1, none⟩) (by simp only; omega) (.int .i64 p2)
        have U9 := up_set (up_set U7 (p := ⟨gm, 0, none⟩) (by simp only; omega) (.int .i64 p1)) (p := ⟨gm, 1, none⟩) (by simp only; omega) (.int .i64 p2)
        go_roundw
        case rel => exact ⟨k + 1, p1, p2, by omega, by omega, by go_num, unhide HR, B9, R9, U9⟩
        case measure => simp [intOf]; omega
      · have hr := unhide HRest
        rw [if_neg hneg] at hr
        have HR := hide hr
        clear hr
        go_wp2_with fail
        go_roundw
        case rel => exact ⟨k + 1, x, y, by omega, by omega, by go_num, unhide HR, bM7, bR7, U7⟩
        case measure => simp [intOf]; omega
    · obtain rfl : k = n := by omega
      rw [List.drop_eq_nil_of_le (by rw [unhide HNn]; exact Nat.le_refl _)] at hrest
      have hxe : x = v1 := congrArg Prod.fst (show (x, y) = (v1, v2) from hrest)
      have hye : y = v2 := congrArg Prod.snd (show (x, y) = (v1, v2) from hrest)
      subst hxe hye
      clear hrest
      have i6 : ¬ (k : Int) < (k : Int) := by omega
      obtain ⟨g0, g1⟩ := bx2 bM
      obtain ⟨h0', h1'⟩ := bx2 bR
      obtain ⟨k0, k1⟩ := bxf2 bR
      go_wp2_with fail
      have B9 := bx_set (bx_set bR 0 (.int .i64 x)) 1 (.int .i64 y)
      have U9 := up_set (up_set hu (p := ⟨w.heap.size, 0, none⟩) (by simp only; omega) (.int .i64 x)) (p := ⟨w.heap.size, 1, none⟩) (by simp only; omega) (.int .i64 y)
      generalize (wr.setCell ⟨w.heap.size, 0, none⟩ (.int .i64 x)).setCell ⟨w.heap.size, 1, none⟩ (.int .i64 y) = W9 at B9 U9 ⊢
      have s0 := (B9 0 _ rfl).1
      have s1 := (B9 1 _ rfl).1
      refine bodyPost_ret (v := pt x y) (by simp [results, Tryz.f147, go_sem, s0, s1]) rfl ?_
      exact ⟨rfl, U9⟩
theorem ru_min : mnF (ruL[0]'(by simp [ruL])) (ruL.drop 1) = (-1500, 0) := by decide
end Go.Proofs.YtdehnokcjnbjoaaGreat
