/- The chapter's example of a load, and what the laws know of it. -/
import Derived.Test.YtdehnokcjnbjoaaGreatLdO
import Derived.Test.YtdehnokcjnbjoaaGreatCentre
namespace Go.Proofs.YtdehnokcjnbjoaaGreat
open Go.RowKit Go.Proofs.Gn
attribute [local go_sem] Oper.semAt_some
set_option linter.unusedVariables false
abbrev exN : ByteArray := { data := #[98, 111, 120] }
def exPs : List Pce := [⟨0, 0, 0, 2000, 1000, 1000, 4000⟩, ⟨0, 0, 1000, 1000, 1000, 500, 1000⟩]
def exYs : List Eye := [⟨0, 0, 500, 10000⟩, ⟨2000, 1000, 500, 10000⟩]
theorem ex_E : loE exN exPs exYs 300 = 0 := by
  refine lo0 (by decide) ?_ (by decide) (by decide) (by decide)
  decide
theorem ex_M : mas exPs = 5000 := by decide
theorem ex_C : ceV (mo fX exPs) (mas exPs) = 900 ∧ ceV (mo fY exPs) (mas exPs) = 500 ∧ ceV (mo fZ exPs) (mas exPs) = 650 := by
  have h1 : mo fX exPs = 9000000 := by decide
  have h2 : mo fY exPs = 5000000 := by decide
  have h3 : mo fZ exPs = 6500000 := by decide
  rw [h1, h2, h3, ex_M]
  unfold ceV neV near
  simp [inQ]
theorem pcs_bxP {W : World} {g : Nat} {ps : List Pce} (h : Bx W g (cellsPc ps)) : Pcs W (some ⟨g, 0, none⟩) ps := by
  refine .inr ⟨g, 0, rfl, fun k hk => ?_⟩
  obtain ⟨a0, a1, a2, a3, a4, a5, a6⟩ := cellsPc_at hk
  simp only [Nat.zero_add]
  exact ⟨(h _ _ a0).1, (h _ _ a1).1, (h _ _ a2).1, (h _ _ a3).1, (h _ _ a4).1, (h _ _ a5).1, (h _ _ a6).1⟩
theorem eyes_ex {W : World} {g : Nat} (h : Bx W g [.int .i64 0, .int .i64 0, .int .i64 500, .int .i64 10000, .int .i64 2000, .int .i64 1000, .int .i64 500, .int .i64 10000]) : Eyes W (some ⟨g, 0, none⟩) exYs := by
  refine .inr ⟨g, 0, rfl, fun k hk => ?_⟩
  match k, hk with
  | 0, _ => exact ⟨(h 0 _ rfl).1, (h 1 _ rfl).1, (h 2 _ rfl).1, (h 3 _ rfl).1⟩
  | 1, _ => exact ⟨(h 4 _ rfl).1, (h 5 _ rfl).1, (h 6 _ rfl).1, (h 7 _ rfl).1⟩
  | n + 2, hn => exact absurd (show n + 2 < 2 from hn) (by omega)
set_option maxRecDepth 100000 in
set_option maxHeartbeats 16000000 in
theorem p_ExL (w : World) :
    Calls Tryz.prog 50 #[] w fun e w' => (∃ A B, e = .returned (loV exN A 2 2 B 2 2 300) ∧ Pcs w' A exPs ∧ Eyes w' B exYs) ∧ Up w w' := by
  go_enter Tryz.func50, Tryz.ntmps50
  go_upto_region 1 with fail
  refine at_wpC (fun W0 hW0 => ?_)
  have U0 : Up w W0 := by rw [hW0]; exact (by repeat' (first | (with_reducible exact up_refl _) | (with_reducible assumption) | (with_reducible refine up_alloc ?_ _) | (with_reducible refine up_drewN ?_ _) | (with_reducible refine up_drew ?_) | (with_reducible refine up_set ?_ (by first | (simp; done) | (simp; omega) | omega) _) | (refine up_trans ?_ (by with_reducible assumption))))
  have bR : Bx W0 w.heap.size [.string { data := #[] }, .slice none 0 0, .slice none 0 0, .int .i64 0] := by rw [hW0]; exact bx_new w _ _
  have hz : w.heap.size < W0.heap.size := by rw [hW0]; simp
  clear hW0
  have r0 := bx_cell bR (k := 0) rfl
  have r1 := bx_cell bR (k := 1) rfl
  have r2 := bx_cell bR (k := 2) rfl
  have r3 := bx_cell bR (k := 3) rfl
  have f0 := (bR 0 _ rfl).2
  have f1 := (bR 1 _ rfl).2
  have f2 := (bR 2 _ rfl).2
  have f3 := (bR 3 _ rfl).2
  go_wp2_with fail
  obtain ⟨P, hP⟩ : ∃ P : Value, P = .slice (some ⟨W0.heap.size, 0, none⟩) 2 2 := ⟨_, rfl⟩
  obtain ⟨Y, hY⟩ : ∃ Y : Value, Y = .slice (some ⟨W0.heap.size + 1, 0, none⟩) 2 2 := ⟨_, rfl⟩
  have B9 := bx_set (bx_set (bx_set (bx_set bR 0 (.string exN)) 1 P) 2 Y) 3 (.int .i64 300)
  have UZ := up_set (up_set (up_set (up_set U0 (p := ⟨w.heap.size, 0, none⟩) (by simp only; omega) (.string exN)) (p := ⟨w.heap.size, 1, none⟩) (by simp only; omega) P) (p := ⟨w.heap.size, 2, none⟩) (by simp only; omega) Y) (p := ⟨w.heap.size, 3, none⟩) (by simp only; omega) (.int .i64 300)
  have hs : ((((W0.setCell ⟨w.heap.size, 0, none⟩ (.string exN)).setCell ⟨w.heap.size, 1, none⟩ P).setCell ⟨w.heap.size, 2, none⟩ Y).setCell ⟨w.heap.size, 3, none⟩ (.int .i64 300)).heap.size = W0.heap.size := by simp
  rw [hP, hY] at B9 UZ hs
  generalize (((W0.setCell ⟨w.heap.size, 0, none⟩ (.string exN)).setCell ⟨w.heap.size, 1, none⟩ (.slice (some ⟨W0.heap.size, 0, none⟩) 2 2)).setCell ⟨w.heap.size, 2, none⟩ (.slice (some ⟨W0.heap.size + 1, 0, none⟩) 2 2)).setCell ⟨w.heap.size, 3, none⟩ (.int .i64 300) = W1 at B9 UZ hs ⊢
  have bP := bx_new W1 (cellsPc exPs) 75
  have bY := bx_new (W1.alloc (.cells (cellsPc exPs).toArray 75)) [.int .i64 0, .int .i64 0, .int .i64 500, .int .i64 10000, .int .i64 2000, .int .i64 1000, .int .i64 500, .int .i64 10000] 86
  rw [World.size_alloc] at bY
  rw [hs] at bP bY
  have B8 := bx_alloc (bx_alloc B9 (.cells (cellsPc exPs).toArray 75)) (.cells #[.int .i64 0, .int .i64 0, .int .i64 500, .int .i64 10000, .int .i64 2000, .int .i64 1000, .int .i64 500, .int .i64 10000] 86)
  have q0 := bx_cell B8 (k := 0) rfl
  have q1 := bx_cell B8 (k := 1) rfl
  have q2 := bx_cell B8 (k := 2) rfl
  have q3 := bx_cell B8 (k := 3) rfl
  have cP := pcs_bxP (bx_alloc bP (.cells #[.int .i64 0, .int .i64 0, .int .i64 500, .int .i64 10000, .int .i64 2000, .int .i64 1000, .int .i64 500, .int .i64 10000] 86))
  have cY := eyes_ex bY
  have UY := up_alloc (up_alloc UZ (.cells (cellsPc exPs).toArray 75)) (.cells #[.int .i64 0, .int .i64 0, .int .i64 500, .int .i64 10000, .int .i64 2000, .int .i64 1000, .int .i64 500, .int .i64 10000] 86)
  change bodyPost Tryz.prog Tryz.f50 _ _ _ ((W1.alloc (.cells (cellsPc exPs).toArray 75)).alloc (.cells #[.int .i64 0, .int .i64 0, .int .i64 500, .int .i64 10000, .int .i64 2000, .int .i64 1000, .int .i64 500, .int .i64 10000] 86))
  generalize (W1.alloc (.cells (cellsPc exPs).toArray 75)).alloc (.cells #[.int .i64 0, .int .i64 0, .int .i64 500, .int .i64 10000, .int .i64 2000, .int .i64 1000, .int .i64 500, .int .i64 10000] 86) = W2 at q0 q1 q2 q3 cP cY UY ⊢
  refine bodyPost_ret (v := loV exN (some ⟨W0.heap.size, 0, none⟩) 2 2 (some ⟨W0.heap.size + 1, 0, none⟩) 2 2 300) (by simp [results, Tryz.f50, go_sem, q0, q1, q2, q3]) rfl ?_
  exact ⟨⟨_, _, rfl, cP, cY⟩, UY⟩
end Go.Proofs.YtdehnokcjnbjoaaGreat
