/- Lists of pieces and of eyes of which the first have been shifted. -/
import Derived.Test.YtdehnokcjnbjoaaGreatLdX
namespace Go.Proofs.YtdehnokcjnbjoaaGreat
open Go.RowKit Go.Proofs.Gn
set_option linter.unusedVariables false
/-- A piece, and an eye, that is shifted. -/
def shP (a b c : Int) (p : Pce) : Pce := ⟨p.x + a, p.y + b, p.z + c, p.l, p.w, p.h, p.m⟩
def shY (a b c : Int) (p : Eye) : Eye := ⟨p.x + a, p.y + b, p.z + c, p.s⟩
/-- A list of which the first k have been changed. -/
def mdL {α : Type} (f : α → α) (L : List α) (k : Nat) : List α := (L.take k).map f ++ L.drop k
theorem md_0 {α : Type} (f : α → α) (L : List α) : mdL f L 0 = L := by simp [mdL]
theorem md_n {α : Type} (f : α → α) (L : List α) {k : Nat} (h : L.length ≤ k) : mdL f L k = L.map f := by
  unfold mdL
  rw [List.take_of_length_le h, List.drop_eq_nil_of_le h, List.append_nil]
theorem md_at {α : Type} (f : α → α) (L : List α) {k : Nat} (h : k < L.length) : mdL f L k = (L.take k).map f ++ L[k] :: L.drop (k + 1) ∧ mdL f L (k + 1) = (L.take k).map f ++ f L[k] :: L.drop (k + 1) := by
  unfold mdL
  rw [List.drop_eq_getElem_cons h]
  refine ⟨rfl, ?_⟩
  rw [List.take_succ_eq_append_getElem h, List.map_append, List.append_assoc]
  rfl
theorem set3 (y0 y1 y2 v0 v1 v2 : Value) (xs zs : List Value) :
    (((xs ++ y0 :: y1 :: y2 :: zs).set xs.length v0).set (xs.length + 1) v1).set (xs.length + 2) v2 = xs ++ v0 :: v1 :: v2 :: zs := by
  induction xs with
  | nil => rfl
  | cons x xs ih =>
    simp only [List.length_cons, List.cons_append]
    simp only [Nat.add_right_comm _ 1, List.set_cons_succ]
    rw [ih]
theorem cellsEy_split (A B : List Eye) (p : Eye) : cellsEy (A ++ p :: B) = cellsEy A ++ .int .i64 p.x :: .int .i64 p.y :: .int .i64 p.z :: .int .i64 p.s :: cellsEy B := by simp [cellsEy]
theorem cellsPc_split' (A B : List Pce) (p : Pce) : cellsPc (A ++ p :: B) = cellsPc A ++ .int .i64 p.x :: .int .i64 p.y :: .int .i64 p.z :: .int .i64 p.l :: .int .i64 p.w :: .int .i64 p.h :: .int .i64 p.m :: cellsPc B := by simp [cellsPc]
theorem bx_shP {W : World} {g : Nat} {L : List Pce} {k : Nat} (a b c : Int) (h : k < L.length) (hb : Bx W g (cellsPc (mdL (shP a b c) L k))) :
    (W.cell? ⟨g, k * 7, none⟩ = some (.int .i64 L[k].x) ∧ W.cell? ⟨g, k * 7 + 1, none⟩ = some (.int .i64 L[k].y) ∧ W.cell? ⟨g, k * 7 + 2, none⟩ = some (.int .i64 L[k].z)) ∧ (∀ j, j < 3 → W.frozen? ⟨g, k * 7 + j, none⟩ = false) ∧ Bx (((W.setCell ⟨g, k * 7, none⟩ (.int .i64 (L[k].x + a))).setCell ⟨g, k * 7 + 1, none⟩ (.int .i64 (L[k].y + b))).setCell ⟨g, k * 7 + 2, none⟩ (.int .i64 (L[k].z + c))) g (cellsPc (mdL (shP a b c) L (k + 1))) := by
  obtain ⟨e1, e2⟩ := md_at (shP a b c) L h
  have hl : (cellsPc ((L.take k).map (shP a b c))).length = k * 7 := by rw [cellsPc_len, List.length_map, List.length_take, Nat.min_eq_left (Nat.le_of_lt h)]
  rw [e1, cellsPc_split'] at hb
  have at' : ∀ j v, (Value.int .i64 L[k].x :: .int .i64 L[k].y :: .int .i64 L[k].z :: .int .i64 L[k].l :: .int .i64 L[k].w :: .int .i64 L[k].h :: .int .i64 L[k].m :: cellsPc (L.drop (k + 1)))[j]? = some v → W.cell? ⟨g, k * 7 + j, none⟩ = some v ∧ W.frozen? ⟨g, k * 7 + j, none⟩ = false := fun j v hj => hb (k * 7 + j) v (by rw [List.getElem?_append_right (by omega), hl, Nat.add_sub_cancel_left]; exact hj)
  refine ⟨⟨(at' 0 _ rfl).1, (at' 1 _ rfl).1, (at' 2 _ rfl).1⟩, ?_, ?_⟩
  · intro j hj
    match j, hj with
    | 0, _ => exact (at' 0 _ rfl).2
    | 1, _ => exact (at' 1 _ rfl).2
    | 2, _ => exact (at' 2 _ rfl).2
  · have q := bx_set (bx_set (bx_set hb (k * 7) (.int .i64 (L[k].x + a))) (k * 7 + 1) (.int .i64 (L[k].y + b))) (k * 7 + 2) (.int .i64 (L[k].z + c))
    rw [← hl, set3, hl] at q
    rw [e2, cellsPc_split']
    exact q
theorem bx_shY {W : World} {g : Nat} {L : List Eye} {k : Nat} (a b c : Int) (h : k < L.length) (hb : Bx W g (cellsEy (mdL (shY a b c) L k))) :
    (W.cell? ⟨g, k * 4, none⟩ = some (.int .i64 L[k].x) ∧ W.cell? ⟨g, k * 4 + 1, none⟩ = some (.int .i64 L[k].y) ∧ W.cell? ⟨g, k * 4 + 2, none⟩ = some (.int .i64 L[k].z)) ∧ (∀ j, j < 3 → W.frozen? ⟨g, k * 4 + j, none⟩ = false) ∧ Bx (((W.setCell ⟨g, k * 4, none⟩ (.int .i64 (L[k].x + a))).setCell ⟨g, k * 4 + 1, none⟩ (.int .i64 (L[k].y + b))).setCell ⟨g, k * 4 + 2, none⟩ (.int .i64 (L[k].z + c))) g (cellsEy (mdL (shY a b c) L (k + 1))) := by
  obtain ⟨e1, e2⟩ := md_at (shY a b c) L h
  have hl : (cellsEy ((L.take k).map (shY a b c))).length = k * 4 := by rw [cellsEy_len, List.length_map, List.length_take, Nat.min_eq_left (Nat.le_of_lt h)]
  rw [e1, cellsEy_split] at hb
  have at' : ∀ j v, (Value.int .i64 L[k].x :: .int .i64 L[k].y :: .int .i64 L[k].z :: .int .i64 L[k].s :: cellsEy (L.drop (k + 1)))[j]? = some v → W.cell? ⟨g, k * 4 + j, none⟩ = some v ∧ W.frozen? ⟨g, k * 4 + j, none⟩ = false := fun j v hj => hb (k * 4 + j) v (by rw [List.getElem?_append_right (by omega), hl, Nat.add_sub_cancel_left]; exact hj)
  refine ⟨⟨(at' 0 _ rfl).1, (at' 1 _ rfl).1, (at' 2 _ rfl).1⟩, ?_, ?_⟩
  · intro j hj
    match j, hj with
    | 0, _ => exact (at' 0 _ rfl).2
    | 1, _ => exact (at' 1 _ rfl).2
    | 2, _ => exact (at' 2 _ rfl).2
  · have q := bx_set (bx_set (bx_set hb (k * 4) (.int .i64 (L[k].x + a))) (k * 4 + 1) (.int .i64 (L[k].y + b))) (k * 4 + 2) (.int .i64 (L[k].z + c))
    rw [← hl, set3, hl] at q
    rw [e2, cellsEy_split]
    exact q
end Go.Proofs.YtdehnokcjnbjoaaGreat
