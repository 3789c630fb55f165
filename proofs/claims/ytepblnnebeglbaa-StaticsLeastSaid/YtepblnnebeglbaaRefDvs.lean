/- All divisions: what the document's Divisions returns. -/
import Derived.Test.YtepblnnebeglbaaRefOrd
namespace Go.Proofs.Ytepblnnebeglbaa
open Go.RowKit Go.Proofs.Gn
def dvsK (ps : List Gs.Sup) (l : List Nat) (k : Nat) : List (List Int) := (List.range k).flatMap fun i => [dvI ps (l.drop (i + 1)), dvI ps (l.take (ps.length - (i + 1)))]
theorem dvsK_succ (ps : List Gs.Sup) (l : List Nat) (k : Nat) : dvsK ps l (k + 1) = dvsK ps l k ++ [dvI ps (l.drop (k + 1)), dvI ps (l.take (ps.length - (k + 1)))] := by
  unfold dvsK; rw [List.range_succ, List.flatMap_append]; rfl
theorem dvsK_len (ps : List Gs.Sup) (l : List Nat) (k : Nat) : (dvsK ps l k).length = 2 * k := by
  induction k with
  | zero => rfl
  | succ k ih => rw [dvsK_succ, List.length_append, ih]; simp; omega
theorem dvs_K (ps : List Gs.Sup) (l : List Nat) : dvs ps l = dvsK ps l (ps.length - 2) := rfl
theorem gL_dvI (ps : List Gs.Sup) (is : List Nat) : gL ps.length (dvG ps is) = cellsI (dvI ps is) := by unfold gL cellsI dvI; rw [List.map_map]; rfl
theorem gL_rdI (ps : List Gs.Sup) (fs : List Nat) : gL ps.length (rdG ps fs) = cellsI (rdI ps fs) := by unfold gL cellsI rdI; rw [List.map_map]; rfl
theorem info_slI : (Try.prog.info? 26).map (fun i => (i.zero, i.size, i.bytes)) = some (some (.slice none 0 0), 1, 24) := by kernel_rfl
def slV (n : Nat) (g : Nat) : Value := .slice (some ⟨g, 0, none⟩) n n
/-- The lists lie in these blocks. -/
def InBl (W : World) (gs : List Nat) (D : List (List Int)) : Prop := gs.length = D.length ∧ ∀ i (h : i < gs.length) (h2 : i < D.length), Bx W gs[i] (cellsI D[i])
theorem inBl_up {W W' : World} {gs : List Nat} {D : List (List Int)} (h : InBl W gs D) (hu : Up W W') : InBl W' gs D := ⟨h.1, fun i h1 h2 => bx_up (h.2 i h1 h2) hu⟩
theorem bx_grownS {W W' : World} {row : Option Nat} {b : Nat} {vs : List Value} (h : Bx W b vs) (h0 : 0 < vs.length) (hg : W.grownBy W' row) (hne : some b ≠ row) : Bx W' b vs := by
  have hlt : b < W.heap.size := bx_lt h h0
  have e := hg.block b hlt hne
  intro i v hi
  obtain ⟨h1, h2⟩ := h i v hi
  unfold World.cell? at h1 ⊢
  unfold World.frozen? at h2 ⊢
  rw [e]
  exact ⟨h1, h2⟩
theorem row_ne {W : World} {B e n m g : Nat} {v : Value} {gs : List Nat} {D : List Int} (ho : W.ownsRow B e 1 v m (gs.map (slV n))) (hnil : gs = [] → v = .slice none 0 0) (hb : Bx W g (cellsI D)) (h0 : 0 < D.length) : some g ≠ v.ownBlock := by
  cases gs with
  | nil => rw [hnil rfl]; exact fun h => by cases h
  | cons a gs =>
    have hl : ((a :: gs).map (slV n)).length = m * 1 := ho.1
    have hm : 0 < m := by simp at hl; omega
    obtain ⟨gr, c, rfl, _⟩ := own_someO ho hm
    intro h
    obtain rfl : g = gr := Option.some.inj h
    have c1 := ho.cellAt 0 (by omega)
    have c2 := (hb 0 _ (List.getElem?_eq_getElem (by rw [cellsI_length]; exact h0))).1
    rw [c1] at c2
    simp [cellsI, slV] at c2
theorem inBl_app {W : World} {gs : List Nat} {D : List (List Int)} {g1 g2 : Nat} {d1 d2 : List Int} (h : InBl W gs D) (h1 : Bx W g1 (cellsI d1)) (h2 : Bx W g2 (cellsI d2)) : InBl W (gs ++ [g1, g2]) (D ++ [d1, d2]) := by
  refine ⟨by simp [h.1], fun i hi hj => ?_⟩
  have hl := h.1
  by_cases c : i < gs.length
  · rw [List.getElem_append_left c, List.getElem_append_left (by omega)]
    exact h.2 i c (by omega)
  · rw [List.getElem_append_right (by omega), List.getElem_append_right (by omega)]
    simp only [List.length_append, List.length_cons, List.length_nil] at hi hj
    rcases (show i = gs.length ∨ i = gs.length + 1 by omega) with rfl | rfl
    · simp [hl]; exact h1
    · simp [hl]; exact h2
theorem inBl_grown {W W' : World} {B e n m : Nat} {v : Value} {gs gs' : List Nat} {D : List (List Int)} (ho : W.ownsRow B e 1 v m (gs.map (slV n))) (hnil : gs = [] → v = .slice none 0 0) (hg : W.grownBy W' v.ownBlock) (h : InBl W gs' D) (h0 : ∀ d ∈ D, 0 < d.length) : InBl W' gs' D :=
  ⟨h.1, fun i h1 h2 => bx_grownS (h.2 i h1 h2) (by rw [cellsI_length]; exact h0 _ (List.getElem_mem h2)) hg (row_ne ho hnil (h.2 i h1 h2) (h0 _ (List.getElem_mem h2)))⟩
theorem dvsK_ne {ps : List Gs.Sup} (h0 : 0 < ps.length) (l : List Nat) (k : Nat) : ∀ d ∈ dvsK ps l k, 0 < d.length := by
  intro d hd
  unfold dvsK at hd
  obtain ⟨i, _, hi⟩ := List.mem_flatMap.1 hd
  simp at hi
  rcases hi with rfl | rfl <;> simp [dvI] <;> exact h0
theorem take_ints {W : World} {g : Nat} {s : List Nat} (h : ∀ i (h : i < s.length), W.cell? ⟨g, i, none⟩ = some (.int .i64 (s[i] : Int))) (j : Nat) : Ints W (some ⟨g, 0, none⟩) (ixs (s.take j)) := by
  refine .inr ⟨g, 0, rfl, fun k hk => ?_⟩
  have hk' := hk
  rw [ixs_len, List.length_take] at hk'
  rw [ixs_at (by rw [ixs_len] at hk; exact hk), List.getElem_take, Nat.zero_add]
  exact h k (by omega)
theorem drop_ints {W : World} {g : Nat} {s : List Nat} (h : ∀ i (h : i < s.length), W.cell? ⟨g, i, none⟩ = some (.int .i64 (s[i] : Int))) (j : Nat) : Ints W (some ⟨g, j, none⟩) (ixs (s.drop j)) := by
  refine .inr ⟨g, j, rfl, fun k hk => ?_⟩
  have hk' := hk
  rw [ixs_len, List.length_drop] at hk'
  rw [ixs_at (by rw [ixs_len] at hk; exact hk), List.getElem_drop]
  exact h (j + k) (by omega)
end Go.Proofs.Ytepblnnebeglbaa
