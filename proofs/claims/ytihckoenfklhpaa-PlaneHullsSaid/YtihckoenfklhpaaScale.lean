/- A list of the call's own whose first coordinates are scaled in place. -/
import Derived.Test.YtihckoenfklhpaaFew
import Derived.Laws.OwnMore
namespace Go.Proofs.Ytihckoenfklhpaa
open Go.RowKit Go.Proofs.Gn
theorem cellsPl_length (ps : Pl) : (cellsPl ps).length = ps.length * 2 := by
  induction ps with
  | nil => rfl
  | cons p ps ih => simp only [cellsPl, List.flatMap_cons, List.length_append, List.length_cons, List.length_nil] at ih ⊢; omega
theorem cellsPl_at {ps : Pl} {k : Nat} (h : k < ps.length) : (cellsPl ps)[k * 2]? = some (.int .i64 ps[k].1) ∧ (cellsPl ps)[k * 2 + 1]? = some (.int .i64 ps[k].2) := by
  induction ps generalizing k with
  | nil => simp at h
  | cons p ps ih =>
    cases k with
    | zero => exact ⟨rfl, rfl⟩
    | succ k =>
      have := ih (k := k) (by simpa using h)
      rw [show (k + 1) * 2 = k * 2 + 2 by omega, show k * 2 + 2 + 1 = k * 2 + 1 + 2 by omega]
      exact this
theorem cellsPl_set {ps : Pl} {k : Nat} (h : k < ps.length) (z : Int) : (cellsPl ps).set (k * 2) (.int .i64 z) = cellsPl (ps.set k (z, ps[k].2)) := by
  induction ps generalizing k with
  | nil => simp at h
  | cons p ps ih =>
    cases k with
    | zero => rfl
    | succ k =>
      have := ih (k := k) (by simpa using h)
      rw [show (k + 1) * 2 = k * 2 + 2 by omega]
      show .int .i64 p.1 :: .int .i64 p.2 :: (cellsPl ps).set (k * 2) (.int .i64 z) = _
      rw [this]
      rfl
theorem pts_bx {W : World} {g : Nat} {ps : Pl} (h : Bx W g (cellsPl ps)) : Pts W (some ⟨g, 0, none⟩) ps := .inr ⟨g, 0, rfl, fun k hk => by
  have c := cellsPl_at hk
  simp only [Nat.zero_add]
  exact ⟨(h _ _ c.1).1, (h _ _ c.2).1⟩⟩
theorem bx_own {W : World} {base n : Nat} {v : Value} {e : TypeId} {ps : Pl} (h : W.ownsRow base e 2 v n (cellsPl ps)) (h0 : 0 < n) : ∃ g cap, v = .slice (some ⟨g, 0, none⟩) n cap ∧ base ≤ g ∧ Bx W g (cellsPl ps) := by
  rcases h.2 with ⟨_, h1⟩ | ⟨g, cap, cur, rfl, hb, hg, _⟩
  · omega
  · refine ⟨g, cap, rfl, hb, fun j u hj => ⟨?_, frozen_of_row W g j cur e hg⟩⟩
    have := h.cells (g := g) rfl j u hj
    have e : (⟨g, 0, none⟩ : Addr).add j = ⟨g, j, none⟩ := by unfold Addr.add; split <;> simp_all
    rwa [e] at this
/-- The first k of them are scaled. -/
def scl (c : Int) (k : Nat) (ps : Pl) : Pl := (ps.take k).map (fun p => (p.1 * c, p.2)) ++ ps.drop k
theorem scl_length (c : Int) (k : Nat) (ps : Pl) : (scl c k ps).length = ps.length := by simp [scl]; omega
theorem scl_zero (c : Int) (ps : Pl) : scl c 0 ps = ps := by simp [scl]
theorem scl_here {c : Int} {k : Nat} {ps : Pl} (h : k < ps.length) (h2 : k < (scl c k ps).length) : (scl c k ps)[k] = ps[k] := by
  have e : (scl c k ps)[k]? = some ps[k] := by
    unfold scl
    rw [List.getElem?_append_right (by simp; omega)]
    simp [Nat.min_eq_left (Nat.le_of_lt h)]
  obtain ⟨_, e⟩ := List.getElem?_eq_some_iff.1 e
  exact e
theorem scl_step {c : Int} {k : Nat} {ps : Pl} (h : k < ps.length) : (scl c k ps).set k (ps[k].1 * c, ps[k].2) = scl c (k + 1) ps := by
  unfold scl
  have hl : ((ps.take k).map (fun p => (p.1 * c, p.2))).length = k := by simp; omega
  rw [List.set_append_right _ _ (by omega), hl, Nat.sub_self, List.drop_eq_getElem_cons h, List.take_succ_eq_append_getElem h]
  simp only [List.set_cons_zero, List.map_append, List.map_cons, List.map_nil, List.append_assoc, List.cons_append, List.nil_append]
theorem bx_scl {W : World} {g k : Nat} {c : Int} {ps : Pl} (hk : k < ps.length) (h : Bx W g (cellsPl (scl c k ps))) : Bx (W.setCell ⟨g, k * 2, none⟩ (.int .i64 (ps[k].1 * c))) g (cellsPl (scl c (k + 1) ps)) := by
  have hl : k < (scl c k ps).length := by rw [scl_length]; exact hk
  have := bx_set h (k * 2) (.int .i64 (ps[k].1 * c))
  rw [cellsPl_set hl, scl_here hk hl, scl_step hk] at this
  exact this
theorem bx_scl_at {W : World} {g k : Nat} {c : Int} {ps : Pl} (hk : k < ps.length) (h : Bx W g (cellsPl (scl c k ps))) : W.cell? ⟨g, k * 2, none⟩ = some (.int .i64 ps[k].1) ∧ W.frozen? ⟨g, k * 2, none⟩ = false := by
  have hl : k < (scl c k ps).length := by rw [scl_length]; exact hk
  have c := cellsPl_at hl
  rw [scl_here hk hl] at c
  exact h _ _ c.1
theorem okL_scl {c : Int} {ps : Pl} (hc : 1 ≤ c) (hc2 : c ≤ 256) (h : ∀ p ∈ ps, (-128 ≤ p.1 ∧ p.1 ≤ 127) ∧ (-128 ≤ p.2 ∧ p.2 ≤ 127)) : okL (scl c ps.length ps) = true := by
  unfold okL scl
  rw [List.take_length, List.drop_length, List.append_nil, List.all_eq_true]
  intro q hq
  obtain ⟨p, hp, rfl⟩ := List.mem_map.1 hq
  have b := h p hp
  have m1 := Int.mul_le_mul_of_nonneg_right (c := c) b.1.2 (by omega)
  have m2 := Int.mul_le_mul_of_nonneg_right (c := c) b.1.1 (by omega)
  have u1 : okc (p.1 * c) = true := by unfold okc; simp only [decide_eq_true_eq]; omega
  have u2 : okc p.2 = true := by unfold okc; simp only [decide_eq_true_eq]; omega
  simp only [okp, u1, u2, Bool.and_self]
end Go.Proofs.Ytihckoenfklhpaa
