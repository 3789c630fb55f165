/- load.Turned of a refused load. -/
import Derived.Test.YtdehnokcjnbjoaaGreatLdTn
namespace Go.Proofs.YtdehnokcjnbjoaaGreat
open Go.RowKit Go.Proofs.Gn
attribute [local go_sem] Oper.semAt_some
set_option linter.unusedVariables false
set_option maxRecDepth 100000 in
set_option maxHeartbeats 4000000 in
theorem p_TurnedE (s : ByteArray) (P : Option Addr) (ps : List Pce) (cp : Nat) (B : Option Addr) (ys : List Eye) (cb : Nat) (f qu : Int) (w : World) (h : Pcs w P ps) (hB : Eyes w B ys) (hn : ps.length ≤ 9223372036854775807) (hm : ys.length ≤ 9223372036854775807) (E : Int) (hE : loE s ps ys f = E) (h0 : E ≠ 0) :
    Calls Tryz.prog 46 #[loV s P ps.length cp B ys.length cb f, .int .i64 qu] w fun e w' => e = .returned (.tuple #[lo0L, .int .i64 E]) ∧ Up w w' := by
  have HC := hide (fun W (hW : Up w W) => p_CheckL s P ps cp B ys cb f W (pcs_up h hW) (eyes_up hB hW) hn hm)
  rw [hE] at HC
  have t0 : (E == 0) = false := by simp [h0]
  have t1 : (E != 0) = true := by simp [h0]
  clear h hE hB
  generalize ps.length = n at *
  generalize ys.length = m at *
  go_enter Tryz.func46, Tryz.ntmps46
  go_upto_region 1 with fail
  refine at_wpC (fun W0 hW0 => ?_)
  have U0 : Up w W0 := by rw [hW0]; exact (by repeat' (first | (with_reducible exact up_refl _) | (with_reducible assumption) | (with_reducible refine up_alloc ?_ _) | (with_reducible refine up_drewN ?_ _) | (with_reducible refine up_drew ?_) | (with_reducible refine up_set ?_ (by first | (simp; done) | (simp; omega) | omega) _) | (refine up_trans ?_ (by with_reducible assumption))))
  have hz : W0.heap.size = w.heap.size + 2 := by rw [hW0]; simp
  obtain ⟨bA, bR⟩ : Bx W0 w.heap.size [.string s, .slice P n cp, .slice B m cb, .int .i64 f] ∧ Bx W0 (w.heap.size + 1) [.string { data := #[] }, .slice none 0 0, .slice none 0 0, .int .i64 0] := by
    rw [hW0]
    refine ⟨bx_alloc (bx_new w _ _) _, ?_⟩
    have q := bx_new (w.alloc (.cells #[.string s, .slice P n cp, .slice B m cb, .int .i64 f] 25)) [.string { data := #[] }, .slice none 0 0, .slice none 0 0, .int .i64 0] 25
    rw [World.size_alloc] at q
    exact q
  clear hW0
  have c0 := (bA 0 _ rfl).1
  have c1 := (bA 1 _ rfl).1
  have c2 := (bA 2 _ rfl).1
  have c3 := (bA 3 _ rfl).1
  go_upto_region 2 with (go_at_call 16; (with_reducible refine (unhide HC _ U0).mono ?_); rintro e w1 ⟨rfl, hb⟩)
  have bA1 := bx_up bA hb
  have bR1 := bx_up bR hb
  have U1 := up_trans U0 hb
  clear c0 c1 c2 c3 bA bR U0 hb HC
  have c0 := (bA1 0 _ rfl).1
  have c1 := (bA1 1 _ rfl).1
  have c2 := (bA1 2 _ rfl).1
  have c3 := (bA1 3 _ rfl).1
  have d0 := (bR1 0 _ rfl).1
  have d1 := (bR1 1 _ rfl).1
  have d2 := (bR1 2 _ rfl).1
  have d3 := (bR1 3 _ rfl).1
  have f0 := (bR1 0 _ rfl).2
  have f1 := (bR1 1 _ rfl).2
  have f2 := (bR1 2 _ rfl).2
  have f3 := (bR1 3 _ rfl).2
  go_wp2_with fail
  have B9 := (bx_set (bx_set (bx_set (bx_set bR1 0 (.string { data := #[] })) 1 (.slice none 0 0)) 2 (.slice none 0 0)) 3 (.int .i64 0))
  have U9 := (up_set (up_set (up_set (up_set U1 (p := ⟨w.heap.size + 1, 0, none⟩) (by simp only; omega) (.string { data := #[] })) (p := ⟨w.heap.size + 1, 1, none⟩) (by simp only; omega) (.slice none 0 0)) (p := ⟨w.heap.size + 1, 2, none⟩) (by simp only; omega) (.slice none 0 0)) (p := ⟨w.heap.size + 1, 3, none⟩) (by simp only; omega) (.int .i64 0))
  generalize ((((w1.setCell ⟨w.heap.size + 1, 0, none⟩ (.string { data := #[] })).setCell ⟨w.heap.size + 1, 1, none⟩ (.slice none 0 0)).setCell ⟨w.heap.size + 1, 2, none⟩ (.slice none 0 0)).setCell ⟨w.heap.size + 1, 3, none⟩ (.int .i64 0)) = W9 at B9 U9 ⊢
  have z0 := (B9 0 _ rfl).1
  have z1 := (B9 1 _ rfl).1
  have z2 := (B9 2 _ rfl).1
  have z3 := (B9 3 _ rfl).1
  refine bodyPost_ret (v := .tuple #[lo0L, .int .i64 E]) (by simp [results, Tryz.f46, go_sem, z0, z1, z2, z3]) rfl ?_
  exact ⟨rfl, U9⟩
end Go.Proofs.YtdehnokcjnbjoaaGreat
