/- Small functions of load's hulls. -/
import Derived.Test.YtdehnokcjnbjoaaGreatPkLdM
import Derived.Test.YtdehnokcjnbjoaaGreatChU
import Derived.Test.YtdehnokcjnbjoaaGreatBx
import Derived.Test.YtdehnokcjnbjoaaGreatUpQ
import Derived.Deep.Cut
import Derived.Deep.DeepCutAuto
namespace Go.Proofs.YtdehnokcjnbjoaaGreat
open Go.RowKit Go.Proofs.Gn
attribute [local go_sem] Oper.semAt_some
set_option linter.unusedVariables false
theorem bxl2 (w : World) (x y : List Value) (T : TypeId) : Bx ((w.alloc (.cells x.toArray T)).alloc (.cells y.toArray T)) w.heap.size x ∧ Bx ((w.alloc (.cells x.toArray T)).alloc (.cells y.toArray T)) (w.heap.size + 1) y := by
  refine ⟨bx_alloc (bx_new w _ _) _, ?_⟩
  have q := bx_new (w.alloc (.cells x.toArray T)) y T
  rw [World.size_alloc] at q
  exact q
theorem bxl3 (w : World) (x y z : List Value) (T : TypeId) : Bx (((w.alloc (.cells x.toArray T)).alloc (.cells y.toArray T)).alloc (.cells z.toArray T)) w.heap.size x ∧ Bx (((w.alloc (.cells x.toArray T)).alloc (.cells y.toArray T)).alloc (.cells z.toArray T)) (w.heap.size + 1) y ∧ Bx (((w.alloc (.cells x.toArray T)).alloc (.cells y.toArray T)).alloc (.cells z.toArray T)) (w.heap.size + 1 + 1) z := by
  refine ⟨bx_alloc (bxl2 w x y T).1 _, bx_alloc (bxl2 w x y T).2 _, ?_⟩
  have q := bx_new ((w.alloc (.cells x.toArray T)).alloc (.cells y.toArray T)) z T
  rw [World.size_alloc, World.size_alloc] at q
  exact q
set_option maxRecDepth 100000 in
theorem p_plusL (x y p q : Int) (w : World) (e1 : IntKind.i64.wrap (x + p) = x + p) (e2 : IntKind.i64.wrap (y + q) = y + q) :
    Calls Tryz.prog 123 #[pt x y, pt p q] w fun e w' => e = .returned (pt (x + p) (y + q)) ∧ Up w w' := by
  go_enter Tryz.func123, Tryz.ntmps123
  go_upto_region 1 with fail
  refine at_wpC (fun W0 hW0 => ?_)
  have U0 : Up w W0 := by rw [hW0]; exact (by repeat' (first | (with_reducible exact up_refl _) | (with_reducible assumption) | (with_reducible refine up_alloc ?_ _) | (with_reducible refine up_drewN ?_ _) | (with_reducible refine up_drew ?_) | (with_reducible refine up_set ?_ (by first | (simp; done) | (simp; omega) | omega) _) | (refine up_trans ?_ (by with_reducible assumption))))
  obtain ⟨bA, bB, bR⟩ : Bx W0 w.heap.size [.int .i64 x, .int .i64 y] ∧ Bx W0 (w.heap.size + 1) [.int .i64 p, .int .i64 q] ∧ Bx W0 (w.heap.size + 1 + 1) [.int .i64 0, .int .i64 0] := by
    rw [hW0]
    exact bxl3 w _ _ _ _
  clear hW0
  have a0 := (bA 0 _ rfl).1
  have a1 := (bA 1 _ rfl).1
  have b0 := (bB 0 _ rfl).1
  have b1 := (bB 1 _ rfl).1
  have r0 := (bR 0 _ rfl).1
  have r1 := (bR 1 _ rfl).1
  have f0 := (bR 0 _ rfl).2
  have f1 := (bR 1 _ rfl).2
  go_wp2_with fail
  have B9 := bx_set (bx_set bR 0 (.int .i64 (x + p))) 1 (.int .i64 (y + q))
  have U9 := up_set (up_set U0 (p := ⟨w.heap.size + 1 + 1, 0, none⟩) (by simp only; omega) (.int .i64 (x + p))) (p := ⟨w.heap.size + 1 + 1, 1, none⟩) (by simp only; omega) (.int .i64 (y + q))
  generalize (W0.setCell ⟨w.heap.size + 1 + 1, 0, none⟩ (.int .i64 (x + p))).setCell ⟨w.heap.size + 1 + 1, 1, none⟩ (.int .i64 (y + q)) = W9 at B9 U9 ⊢
  have z0 := (B9 0 _ rfl).1
  have z1 := (B9 1 _ rfl).1
  refine bodyPost_ret (v := pt (x + p) (y + q)) (by simp [results, Tryz.f123, go_sem, z0, z1]) rfl ?_
  exact ⟨rfl, U9⟩
set_option maxRecDepth 100000 in
theorem p_minusL (x y p q : Int) (w : World) (e1 : IntKind.i64.wrap (x - p) = x - p) (e2 : IntKind.i64.wrap (y - q) = y - q) :
    Calls Tryz.prog 144 #[pt x y, pt p q] w fun e w' => e = .returned (pt (x - p) (y - q)) ∧ Up w w' := by
  go_enter Tryz.func144, Tryz.ntmps144
  go_upto_region 1 with fail
  refine at_wpC (fun W0 hW0 => ?_)
  have U0 : Up w W0 := by rw [hW0]; exact (by repeat' (first | (with_reducible exact up_refl _) | (with_reducible assumption) | (with_reducible refine up_alloc ?_ _) | (with_reducible refine up_drewN ?_ _) | (with_reducible refine up_drew ?_) | (with_reducible refine up_set ?_ (by first | (simp; done) | (simp; omega) | omega) _) | (refine up_trans ?_ (by with_reducible assumption))))
  obtain ⟨bA, bB, bR⟩ : Bx W0 w.heap.size [.int .i64 x, .int .i64 y] ∧ Bx W0 (w.heap.size + 1) [.int .i64 p, .int .i64 q] ∧ Bx W0 (w.heap.size + 1 + 1) [.int .i64 0, .int .i64 0] := by
    rw [hW0]
    exact bxl3 w _ _ _ _
  clear hW0
  have a0 := (bA 0 _ rfl).1
  have a1 := (bA 1 _ rfl).1
  have b0 := (bB 0 _ rfl).1
  have b1 := (bB 1 _ rfl).1
  have r0 := (bR 0 _ rfl).1
  have r1 := (bR 1 _ rfl).1
  have f0 := (bR 0 _ rfl).2
  have f1 := (bR 1 _ rfl).2
  go_wp2_with fail
  have B9 := bx_set (bx_set bR 0 (.int .i64 (x - p))) 1 (.int .i64 (y - q))
  have U9 := up_set (up_set U0 (p := ⟨w.heap.size + 1 + 1, 0, none⟩) (by simp only; omega) (.int .i64 (x - p))) (p := ⟨w.heap.size + 1 + 1, 1, none⟩) (by simp only; omega) (.int .i64 (y - q))
  generalize (W0.setCell ⟨w.heap.size + 1 + 1, 0, none⟩ (.int .i64 (x - p))).setCell ⟨w.heap.size + 1 + 1, 1, none⟩ (.int .i64 (y - q)) = W9 at B9 U9 ⊢
  have z0 := (B9 0 _ rfl).1
  have z1 := (B9 1 _ rfl).1
  refine bodyPost_ret (v := pt (x - p) (y - q)) (by simp [results, Tryz.f144, go_sem, z0, z1]) rfl ?_
  exact ⟨rfl, U9⟩
set_option maxRecDepth 100000 in
theorem p_dotL (x y p q : Int) (w : World) (e1 : IntKind.i64.wrap (x * p) = x * p) (e2 : IntKind.i64.wrap (y * q) = y * q) (e3 : IntKind.i64.wrap (x * p + y * q) = x * p + y * q) :
    Calls Tryz.prog 131 #[pt x y, pt p q] w fun e w' => e = .returned (.int .i64 (x * p + y * q)) ∧ Up w w' := by
  go_enter Tryz.func131, Tryz.ntmps131
  go_upto_region 1 with fail
  refine at_wpC (fun W0 hW0 => ?_)
  have U0 : Up w W0 := by rw [hW0]; exact (by repeat' (first | (with_reducible exact up_refl _) | (with_reducible assumption) | (with_reducible refine up_alloc ?_ _) | (with_reducible refine up_drewN ?_ _) | (with_reducible refine up_drew ?_) | (with_reducible refine up_set ?_ (by first | (simp; done) | (simp; omega) | omega) _) | (refine up_trans ?_ (by with_reducible assumption))))
  obtain ⟨bA, bB⟩ : Bx W0 w.heap.size [.int .i64 x, .int .i64 y] ∧ Bx W0 (w.heap.size + 1) [.int .i64 p, .int .i64 q] := by
    rw [hW0]
    exact bxl2 w _ _ _
  clear hW0
  have a0 := (bA 0 _ rfl).1
  have a1 := (bA 1 _ rfl).1
  have b0 := (bB 0 _ rfl).1
  have b1 := (bB 1 _ rfl).1
  go_wp2_with fail
  go_ret
  exact ⟨rfl, U0⟩
set_option maxRecDepth 100000 in
theorem p_crossL (x y p q : Int) (w : World) (e1 : IntKind.i64.wrap (x * q) = x * q) (e2 : IntKind.i64.wrap (y * p) = y * p) (e3 : IntKind.i64.wrap (x * q - y * p) = x * q - y * p) :
    Calls Tryz.prog 145 #[pt x y, pt p q] w fun e w' => e = .returned (.int .i64 (x * q - y * p)) ∧ Up w w' := by
  go_enter Tryz.func145, Tryz.ntmps145
  go_upto_region 1 with fail
  refine at_wpC (fun W0 hW0 => ?_)
  have U0 : Up w W0 := by rw [hW0]; exact (by repeat' (first | (with_reducible exact up_refl _) | (with_reducible assumption) | (with_reducible refine up_alloc ?_ _) | (with_reducible refine up_drewN ?_ _) | (with_reducible refine up_drew ?_) | (with_reducible refine up_set ?_ (by first | (simp; done) | (simp; omega) | omega) _) | (refine up_trans ?_ (by with_reducible assumption))))
  obtain ⟨bA, bB⟩ : Bx W0 w.heap.size [.int .i64 x, .int .i64 y] ∧ Bx W0 (w.heap.size + 1) [.int .i64 p, .int .i64 q] := by
    rw [hW0]
    exact bxl2 w _ _ _
  clear hW0
  have a0 := (bA 0 _ rfl).1
  have a1 := (bA 1 _ rfl).1
  have b0 := (bB 0 _ rfl).1
  have b1 := (bB 1 _ rfl).1
  go_wp2_with fail
  go_ret
  exact ⟨rfl, U0⟩
/-- Which half a way looks to. -/
def haF (x y : Int) : Int := if 0 < x then 0 else if x = 0 then (if 0 < y then 0 else 1) else 1
set_option maxRecDepth 100000 in
theorem p_halfL (x y : Int) (w : World) :
    Calls Tryz.prog 177 #[pt x y] w fun e w' => e = .returned (.int .i64 (haF x y)) ∧ Up w w' := by
  have bx1L : ∀ W : World, W = w.alloc (.cells #[.int .i64 x, .int .i64 y] 55) → Up w W ∧ Bx W w.heap.size [.int .i64 x, .int .i64 y] := fun W hW => by
    rw [hW]
    exact ⟨(by repeat' (first | (with_reducible exact up_refl _) | (with_reducible assumption) | (with_reducible refine up_alloc ?_ _) | (with_reducible refine up_drewN ?_ _) | (with_reducible refine up_drew ?_) | (with_reducible refine up_set ?_ (by first | (simp; done) | (simp; omega) | omega) _) | (refine up_trans ?_ (by with_reducible assumption)))), bx_new w _ _⟩
  by_cases h1 : 0 < x
  · have e : haF x y = 0 := by unfold haF; rw [if_pos h1]
    rw [e]
    go_enter Tryz.func177, Tryz.ntmps177
    go_upto_region 1 with fail
    refine at_wpC (fun W0 hW0 => ?_)
    obtain ⟨U0, bA⟩ := bx1L W0 hW0
    clear hW0 bx1L
    have a0 := (bA 0 _ rfl).1
    have a1 := (bA 1 _ rfl).1
    go_wp2_with fail
    go_ret
    exact ⟨rfl, U0⟩
  · by_cases h2 : x = 0
    · by_cases h3 : 0 < y
      · have e : haF x y = 0 := by unfold haF; rw [if_neg h1, if_pos h2, if_pos h3]
        rw [e]
        subst h2
        go_enter Tryz.func177, Tryz.ntmps177
        go_upto_region 1 with fail
        refine at_wpC (fun W0 hW0 => ?_)
        obtain ⟨U0, bA⟩ := bx1L W0 hW0
        clear hW0 bx1L
        have a0 := (bA 0 _ rfl).1
        have a1 := (bA 1 _ rfl).1
        go_wp2_with fail
        go_ret
        exact ⟨rfl, U0⟩
      · have e : haF x y = 1 := by unfold haF; rw [if_neg h1, if_pos h2, if_neg h3]
        rw [e]
        subst h2
        go_enter Tryz.func177, Tryz.ntmps177
        go_upto_region 1 with fail
        refine at_wpC (fun W0 hW0 => ?_)
        obtain ⟨U0, bA⟩ := bx1L W0 hW0
        clear hW0 bx1L
        have a0 := (bA 0 _ rfl).1
        have a1 := (bA 1 _ rfl).1
        go_wp2_with fail
        go_ret
        exact ⟨rfl, U0⟩
    · have e : haF x y = 1 := by unfold haF; rw [if_neg h1, if_neg h2]
      have t1 : (x == 0) = false := by simp [h2]
      rw [e]
      go_enter Tryz.func177, Tryz.ntmps177
      go_upto_region 1 with fail
      refine at_wpC (fun W0 hW0 => ?_)
      obtain ⟨U0, bA⟩ := bx1L W0 hW0
      clear hW0 bx1L
      have a0 := (bA 0 _ rfl).1
      have a1 := (bA 1 _ rfl).1
      go_wp2_with fail
      go_ret
      exact ⟨rfl, U0⟩
end Go.Proofs.YtdehnokcjnbjoaaGreat
