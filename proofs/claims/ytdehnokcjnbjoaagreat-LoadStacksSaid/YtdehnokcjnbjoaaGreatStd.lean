/- Whether a piece stands. -/
import Derived.Test.YtdehnokcjnbjoaaGreatBalP
import Derived.Test.YtdehnokcjnbjoaaGreatPkCtc
namespace Go.Proofs.YtdehnokcjnbjoaaGreat
open Go.RowKit Go.Proofs.Gn
attribute [local go_sem] Oper.semAt_some
set_option linter.unusedVariables false
/-- Where piece i touches what it rests on. -/
def ctL (ps : List Pce) (i : Nat) : List Pce := (rsL ps i).map fun k => ctP (ps.getD i pc0) (ps.getD k.toNat pc0)
noncomputable def stB (ps : List Pce) (i : Nat) : Bool := if (ps.getD i pc0).z = 0 then true else if cnA (ctL ps i) = [] then false else blB (hlL (cnA (ctL ps i))) (mo fX (hpL ps i)) (mo fY (hpL ps i)) (2 * mas (hpL ps i))
theorem rsT_mem {ps : List Pce} {i : Nat} : ∀ {k : Nat} {x : Int}, x ∈ rsT ps i k → ∃ j : Nat, j < k ∧ x = j
  | 0, x, h => by simp [rsT] at h
  | k + 1, x, h => by
    rcases List.mem_append.1 (show x ∈ rsT ps i k ++ _ from h) with h | h
    · obtain ⟨j, hj, e⟩ := rsT_mem h
      exact ⟨j, by omega, e⟩
    · split at h
      · simp at h
        exact ⟨k, by omega, h⟩
      · simp at h
theorem rsL_len (ps : List Pce) (i : Nat) : (rsL ps i).length ≤ ps.length := rsT_len ps i ps.length
theorem rsL_at {ps : List Pce} {i k : Nat} (h : k < (rsL ps i).length) : ∃ j : Nat, j < ps.length ∧ (rsL ps i)[k] = (j : Int) := rsT_mem (List.getElem_mem h)
theorem ctL_wd {ps : List Pce} (ho : okPs ps = true) {i : Nat} (hi : i < ps.length) : ∀ p ∈ ctL ps i, wdP p := by
  intro p hp
  unfold ctL at hp
  obtain ⟨k, hk, rfl⟩ := List.mem_map.1 hp
  obtain ⟨j, hj, rfl⟩ := rsT_mem (show k ∈ rsT ps i ps.length from hk)
  have e1 : ps.getD i pc0 = ps[i] := by rw [List.getD_eq_getElem?_getD, List.getElem?_eq_getElem hi]; rfl
  have e2 : ps.getD ((j : Int).toNat) pc0 = ps[j] := by rw [show (j : Int).toNat = j by omega, List.getD_eq_getElem?_getD, List.getElem?_eq_getElem hj]; rfl
  rw [e1, e2]
  exact ct_wd ((okP_iff _).1 (okPs_get ho hi)) ((okP_iff _).1 (okPs_get ho hj))
theorem ct_nr {a b : Pce} (ha : okPp a) (hb : okPp b) : ∀ q ∈ cnP (ctP a b), Nr 131072 q := by
  unfold okPp at ha hb
  intro q hq
  simp only [cnP, ctP, List.mem_cons, List.not_mem_nil, or_false] at hq
  unfold Nr
  rcases hq with rfl | rfl | rfl | rfl <;> (dsimp only; omega)
theorem ctL_nr {ps : List Pce} (ho : okPs ps = true) {i : Nat} (hi : i < ps.length) : ∀ q ∈ cnA (ctL ps i), Nr 131072 q := by
  intro q hq
  unfold cnA at hq
  obtain ⟨p, hp, hq⟩ := List.mem_flatMap.1 hq
  unfold ctL at hp
  obtain ⟨k, hk, rfl⟩ := List.mem_map.1 hp
  obtain ⟨j, hj, rfl⟩ := rsT_mem (show k ∈ rsT ps i ps.length from hk)
  have e1 : ps.getD i pc0 = ps[i] := by rw [List.getD_eq_getElem?_getD, List.getElem?_eq_getElem hi]; rfl
  have e2 : ps.getD ((j : Int).toNat) pc0 = ps[j] := by rw [show (j : Int).toNat = j by omega, List.getD_eq_getElem?_getD, List.getElem?_eq_getElem hj]; rfl
  rw [e1, e2] at hq
  exact ct_nr ((okP_iff _).1 (okPs_get ho hi)) ((okP_iff _).1 (okPs_get ho hj)) q hq
theorem mas_nn {ps : List Pce} (h : okPs ps = true) : 0 ≤ mas ps := by
  have q := mas_bd h ps.length (Nat.le_refl _)
  rw [List.take_length] at q
  exact q.1
theorem mas_filter (f : Nat → Pce) (p : Nat → Bool) : ∀ L : List Nat, (∀ k ∈ L, 0 ≤ (f k).m) → mas ((L.filter p).map f) ≤ mas (L.map f)
  | [], _ => Int.le_refl _
  | k :: L, h => by
    have q := mas_filter f p L (fun j hj => h j (List.mem_cons_of_mem _ hj))
    have h0 := h k (by simp)
    rw [List.filter_cons]
    split
    · show (f k).m + mas _ ≤ (f k).m + mas _
      omega
    · show mas _ ≤ (f k).m + mas _
      omega
theorem map_getD (ps : List Pce) : (List.range ps.length).map (fun k => ps.getD k pc0) = ps := by
  apply List.ext_getElem
  · simp
  · intro k h1 h2
    simp [h2]
theorem hpL_ok {ps : List Pce} (ho : okPs ps = true) {i : Nat} (hi : i < ps.length) : okPs (hpL ps i) = true := by
  unfold hpL
  split
  · have e1 : ps.getD i pc0 = ps[i] := by rw [List.getD_eq_getElem?_getD, List.getElem?_eq_getElem hi]; rfl
    rw [e1]
    have h := (okP_iff _).1 (okPs_get ho hi)
    unfold okPs
    rw [List.all_cons, List.all_nil, Bool.and_true]
    rw [okP_iff]
    unfold okPp at h ⊢
    dsimp only
    omega
  · exact cpL_ok ho i
theorem hpL_mas {ps : List Pce} (ho : okPs ps = true) (hm : mas ps ≤ 16777216) (i : Nat) : mas (hpL ps i) ≤ 16777216 := by
  unfold hpL
  split
  · show (1 : Int) + 0 ≤ _
    omega
  · have q := mas_filter (fun k => ps.getD k pc0) (fun k => @decide (Rch ps i k) (Classical.propDecidable _)) (List.range ps.length) (fun k hk => by
      have hl := List.mem_range.1 hk
      have e1 : ps.getD k pc0 = ps[k] := by rw [List.getD_eq_getElem?_getD, List.getElem?_eq_getElem hl]; rfl
      have h := (okP_iff _).1 (okPs_get ho hl)
      unfold okPp at h
      show 0 ≤ (ps.getD k pc0).m
      rw [e1]
      omega)
    rw [map_getD] at q
    exact Int.le_trans q hm
theorem hpL_len {ps : List Pce} (i : Nat) (h : 1 ≤ ps.length) : (hpL ps i).length ≤ ps.length := by
  unfold hpL
  split
  · exact h
  · unfold cpL
    rw [List.length_map]
    exact cdN_len ps i
end Go.Proofs.YtdehnokcjnbjoaaGreat
