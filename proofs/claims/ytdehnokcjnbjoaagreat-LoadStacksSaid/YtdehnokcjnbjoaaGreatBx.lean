/- Blocks of the call's own whose cells are known, as one fact a block. -/
import Derived.Test.YtdehnokcjnbjoaaGreatPt
namespace Go.Proofs.YtdehnokcjnbjoaaGreat
open Go.RowKit
/-- Block b begins with these cells, none of them frozen. -/
def Bx (W : World) (b : Nat) (vs : List Value) : Prop := ∀ j v, vs[j]? = some v → W.cell? ⟨b, j, none⟩ = some v ∧ W.frozen? ⟨b, j, none⟩ = false
section
variable {W W' : World} {b : Nat} {vs : List Value}
theorem bx_up (h : Bx W b vs) (hu : Up W W') : Bx W' b vs := fun j v hj => ⟨up_cell hu (h j v hj).1, up_frozen hu (h j v hj).1 (h j v hj).2⟩
theorem bx_alloc (h : Bx W b vs) (o : Obj) : Bx (W.alloc o) b vs := bx_up h (up_alloc (up_refl W) o)
theorem bx_drew (h : Bx W b vs) : Bx W.drew b vs := h
theorem bx_drewN (h : Bx W b vs) (n : Nat) : Bx (W.drewN n) b vs := h
theorem bx_lt (h : Bx W b vs) (h0 : 0 < vs.length) : b < W.heap.size := World.block_lt_of_cell? _ _ (h 0 vs[0] (List.getElem?_eq_getElem h0)).1
theorem bx_new (W : World) (vs : List Value) (t : TypeId) : Bx (W.alloc (.cells vs.toArray t)) W.heap.size vs := fun j v hj => by
  have hn : (W.alloc (.cells vs.toArray t)).heap[W.heap.size]? = some (.cells vs.toArray t) := heap_alloc_new W _
  constructor
  · unfold World.cell?
    rw [hn]
    simpa using hj
  · unfold World.frozen?
    rw [hn]
    simp
theorem bx_far (h : Bx W b vs) {p : Addr} (hp : p.block ≠ b) (u : Value) : Bx (W.setCell p u) b vs := fun j v hj => by
  obtain ⟨h1, h2⟩ := h j v hj
  have e : (W.setCell p u).heap[b]? = W.heap[b]? := Below.heap_setCell W p u b (fun e => hp e.symm)
  constructor
  · exact (World.cell?_of_block (a := ⟨b, j, none⟩) e).trans h1
  · have : (W.setCell p u).frozen? ⟨b, j, none⟩ = W.frozen? ⟨b, j, none⟩ := by simp [World.frozen?, e]
    exact this.trans h2
theorem bx_set (h : Bx W b vs) (i : Nat) (u : Value) : Bx (W.setCell ⟨b, i, none⟩ u) b (vs.set i u) := fun j v hj => by
  rw [List.getElem?_set] at hj
  have hold : ∀ v', vs[j]? = some v' → (W.setCell ⟨b, i, none⟩ u).frozen? ⟨b, j, none⟩ = false := fun v' hv' => by
    have := (h j v' hv').2
    rw [World.frozen?_setCell]
    exact this
  split at hj
  · rename_i hij
    subst hij
    split at hj
    · rename_i hlt
      have hc := h i _ (List.getElem?_eq_getElem hlt)
      injection hj with hj
      subst hj
      exact ⟨by go_cell, hold _ (List.getElem?_eq_getElem hlt)⟩
    · cases hj
  · rename_i hij
    have hc := h j v hj
    refine ⟨?_, hold _ hj⟩
    rw [World.cell?_setCell_other]
    · exact hc.1
    · intro e; injection e with _ e _; exact hij e
theorem bx1 {v0 : Value} (h : Bx W b [v0]) : W.cell? ⟨b, 0, none⟩ = some v0 := (h 0 v0 rfl).1
theorem bx2 {v0 v1 : Value} (h : Bx W b [v0, v1]) : W.cell? ⟨b, 0, none⟩ = some v0 ∧ W.cell? ⟨b, 1, none⟩ = some v1 := ⟨(h 0 v0 rfl).1, (h 1 v1 rfl).1⟩
theorem bx3 {v0 v1 v2 : Value} (h : Bx W b [v0, v1, v2]) : W.cell? ⟨b, 0, none⟩ = some v0 ∧ W.cell? ⟨b, 1, none⟩ = some v1 ∧ W.cell? ⟨b, 2, none⟩ = some v2 := ⟨(h 0 v0 rfl).1, (h 1 v1 rfl).1, (h 2 v2 rfl).1⟩
theorem bxf2 {v0 v1 : Value} (h : Bx W b [v0, v1]) : W.frozen? ⟨b, 0, none⟩ = false ∧ W.frozen? ⟨b, 1, none⟩ = false := ⟨(h 0 v0 rfl).2, (h 1 v1 rfl).2⟩
theorem bxf3 {v0 v1 v2 : Value} (h : Bx W b [v0, v1, v2]) : W.frozen? ⟨b, 0, none⟩ = false ∧ W.frozen? ⟨b, 1, none⟩ = false ∧ W.frozen? ⟨b, 2, none⟩ = false := ⟨(h 0 v0 rfl).2, (h 1 v1 rfl).2, (h 2 v2 rfl).2⟩
theorem mk_bx2 {v0 v1 : Value} (c0 : W.cell? ⟨b, 0, none⟩ = some v0) (c1 : W.cell? ⟨b, 1, none⟩ = some v1) (f0 : W.frozen? ⟨b, 0, none⟩ = false) (f1 : W.frozen? ⟨b, 1, none⟩ = false) : Bx W b [v0, v1] := fun j v hj => by
  match j, hj with
  | 0, hj => injection hj with hj; subst hj; exact ⟨c0, f0⟩
  | 1, hj => injection hj with hj; subst hj; exact ⟨c1, f1⟩
theorem mk_bx3 {v0 v1 v2 : Value} (c0 : W.cell? ⟨b, 0, none⟩ = some v0) (c1 : W.cell? ⟨b, 1, none⟩ = some v1) (c2 : W.cell? ⟨b, 2, none⟩ = some v2) (f0 : W.frozen? ⟨b, 0, none⟩ = false) (f1 : W.frozen? ⟨b, 1, none⟩ = false) (f2 : W.frozen? ⟨b, 2, none⟩ = false) : Bx W b [v0, v1, v2] := fun j v hj => by
  match j, hj with
  | 0, hj => injection hj with hj; subst hj; exact ⟨c0, f0⟩
  | 1, hj => injection hj with hj; subst hj; exact ⟨c1, f1⟩
  | 2, hj => injection hj with hj; subst hj; exact ⟨c2, f2⟩
/-- Three stores, one behind the other, into a block of three cells. -/
theorem bx_set3 {u0 u1 u2 v0 v1 v2 : Value} (h : Bx W b [u0, u1, u2]) : Bx (((W.setCell ⟨b, 0, none⟩ v0).setCell ⟨b, 1, none⟩ v1).setCell ⟨b, 2, none⟩ v2) b [v0, v1, v2] := bx_set (bx_set (bx_set h 0 v0) 1 v1) 2 v2
theorem bx_far3 {g : Nat} {v0 v1 v2 : Value} (h : Bx W b vs) (hg : g ≠ b) : Bx (((W.setCell ⟨g, 0, none⟩ v0).setCell ⟨g, 1, none⟩ v1).setCell ⟨g, 2, none⟩ v2) b vs := bx_far (bx_far (bx_far h (p := ⟨g, 0, none⟩) hg _) (p := ⟨g, 1, none⟩) hg _) (p := ⟨g, 2, none⟩) hg _
theorem st_bx (b : Nat) (vs : List Value) : Stays fun w => Bx w b vs := fun _ _ hb h => bx_up h hb
end
end Go.Proofs.YtdehnokcjnbjoaaGreat
