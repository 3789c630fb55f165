/- What a round of a loop over an iterator keeps: every block of cells but some. -/
import Derived.Test.YtooochbfnmmnkaaGreatPkSeqZ
import Derived.Test.YtooochbfnmmnkaaGreatBx
namespace Go.Proofs.YtooochbfnmmnkaaGreat
open Go.RowKit
def KpP (p : Nat → Prop) (W W' : World) : Prop := W.heap.size ≤ W'.heap.size ∧ ∀ k o, ¬ p k → W.heap[k]? = some o → o.isCells = true → W'.heap[k]? = some o
section
variable {p : Nat → Prop} {W W' : World}
theorem kpP_refl (W : World) : KpP p W W := ⟨Nat.le_refl _, fun _ _ _ h _ => h⟩
theorem kpP_trans {X Y Z : World} (h : KpP p X Y) (k : KpP p Y Z) : KpP p X Z := ⟨Nat.le_trans h.1 k.1, fun i o hi ho hc => k.2 i o hi (h.2 i o hi ho hc) hc⟩
theorem kpP_up (h : Up W W') : KpP p W W' := ⟨h.size, fun k _ _ hk _ => (h.block k (Array.getElem?_eq_some_iff.1 hk).1).trans hk⟩
theorem kpP_set {B i : Nat} (W : World) (v : Value) (hB : p B) : KpP p W (W.setCell ⟨B, i, none⟩ v) := ⟨by show W.heap.size ≤ (W.heap.modify _ _).size; rw [Array.size_modify]; exact Nat.le_refl _, fun k _ hk h _ => (Below.heap_setCell W ⟨B, i, none⟩ v k (fun e => hk (e ▸ hB))).trans h⟩
theorem kpP_put (W : World) (j : Nat) (o o' : Obj) (h : W.heap[j]? = some o) (hc : o.isCells = false) : KpP p W (W.putObj j o') :=
  ⟨by simp, fun k ok _ hk hcc => by
    have : k ≠ j := fun e => by subst e; rw [h] at hk; cases hk; rw [hc] at hcc; cases hcc
    exact (World.putObj_heap_other this).trans hk⟩
theorem kpP_cell (h : KpP p W W') {a : Addr} (ha : ¬ p a.block) {v : Value} (hv : W.cell? a = some v) : W'.cell? a = some v := by
  obtain ⟨o, ho, hc⟩ := cells_of_cell hv
  exact (World.cell?_of_block (a := a) ((h.2 _ _ ha ho hc).trans ho.symm)).trans hv
theorem kpP_frozen (h : KpP p W W') {a : Addr} (ha : ¬ p a.block) {v : Value} (hv : W.cell? a = some v) : W'.frozen? a = W.frozen? a := by
  obtain ⟨o, ho, hc⟩ := cells_of_cell hv
  have e := (h.2 _ _ ha ho hc).trans ho.symm
  unfold World.frozen?
  rw [e]
theorem bx_kpP {b : Nat} {vs : List Value} (h : Bx W b vs) (k : KpP p W W') (hb : ¬ p b) : Bx W' b vs := fun i v hi =>
  ⟨kpP_cell k (a := ⟨b, i, none⟩) hb (h i v hi).1, (kpP_frozen k (a := ⟨b, i, none⟩) hb (h i v hi).1).trans (h i v hi).2⟩
theorem bx_ownP {b : Nat} {row : Option Nat} {vs : List Value} (h : Bx W b vs) (hg : W.grownBy W' row) (hr : ∀ r, row = some r → ∃ o : Obj, W.heap[r]? = some o ∧ o.isCells = false) : Bx W' b vs := fun i v hi =>
  ⟨cell_kept (h i v hi).1 hg hr, (frozen_kept (h i v hi).1 hg hr).trans (h i v hi).2⟩
theorem kpP_own {W0 : World} {row : Option Nat} (h : KpP p W0 W) (hg : W.grownBy W' row) (hr : ∀ r, row = some r → ∃ o : Obj, W.heap[r]? = some o ∧ o.isCells = false) : KpP p W0 W' :=
  ⟨Nat.le_trans h.1 hg.size, fun k o hk h0 hc => by
    have hV := h.2 k o hk h0 hc
    refine (hg.block k (Array.getElem?_eq_some_iff.1 hV).1 (fun e => ?_)).trans hV
    obtain ⟨o', ho', hc'⟩ := hr k e.symm
    rw [hV] at ho'; cases ho'; rw [hc] at hc'; cases hc'⟩
theorem up_kfP {B : Nat} (h : Up W W') : KeepsFrom B W W' := ⟨h.size, fun _ _ _ hk _ => (h.block _ (Array.getElem?_eq_some_iff.1 hk).1).trans hk⟩
theorem up_grP (h : Up W W') : W.grownBy W' none := ⟨h.os, h.tape, h.output, h.size, fun k hk _ => h.block k hk⟩
end
/-- Beside the cells: whatever is no cells, from n on. -/
def KpQ (p : Nat → Prop) (n : Nat) (W W' : World) : Prop := KpP p W W' ∧ KeepsFrom n W W'
theorem kpQ_trans {p : Nat → Prop} {n : Nat} {X Y Z : World} (h : KpQ p n X Y) (k : KpQ p n Y Z) : KpQ p n X Z := ⟨kpP_trans h.1 k.1, h.2.trans k.2⟩
theorem kpQ_mono {p : Nat → Prop} {n m : Nat} {W W' : World} (h : KpQ p n W W') (hn : n ≤ m) : KpQ p m W W' := ⟨h.1, kf_mono h.2 hn⟩
theorem kpQ_up {p : Nat → Prop} {n : Nat} {W W' : World} (h : Up W W') : KpQ p n W W' := ⟨kpP_up h, up_kfP h⟩
theorem kpQ_set {p : Nat → Prop} {n B i : Nat} (W : World) (v : Value) (hB : p B) : KpQ p n W (W.setCell ⟨B, i, none⟩ v) := ⟨kpP_set W v hB, (KeepsOthers.setCell _ _ _).from _⟩
theorem kpQ_put {p : Nat → Prop} {n : Nat} (W : World) (j : Nat) (o o' : Obj) (hj : j < n) (h : W.heap[j]? = some o) (hc : o.isCells = false) : KpQ p n W (W.putObj j o') :=
  ⟨kpP_put W j o o' h hc, ⟨by simp, fun k ok hk hh _ => (World.putObj_heap_other (by omega)).trans hh⟩⟩
theorem yield_casesP {e : Ending} {A B : Prop} (h : (e = .returned (.bool true) ∧ A) ∨ (e = .returned (.bool false) ∧ B)) : ∃ bv : Bool, e = .returned (.bool bv) ∧ ((bv = true ∧ A) ∨ (bv = false ∧ B)) := by
  rcases h with ⟨h1, h2⟩ | ⟨h1, h2⟩
  · exact ⟨true, h1, .inl ⟨rfl, h2⟩⟩
  · exact ⟨false, h1, .inr ⟨rfl, h2⟩⟩
end Go.Proofs.YtooochbfnmmnkaaGreat
