/- A list of supports as cells. -/
import Derived.Test.YtepblnnebeglbaaOwnI
namespace Go.Proofs.Ytepblnnebeglbaa
open Go.RowKit Go.Proofs.Gn
def cellsS (ps : List Gs.Sup) : List Value := ps.flatMap fun s => [.int .i64 s.x, .int .i64 s.y, .int .i64 s.g, .int .i64 s.lim, .int .i64 s.lo, .int .i64 s.hi]
theorem cellsS_length (ps : List Gs.Sup) : (cellsS ps).length = ps.length * 6 := by
  induction ps with
  | nil => rfl
  | cons s l ih => simp only [cellsS, List.flatMap_cons, List.length_append, List.length_cons, List.length_nil] at ih ⊢; omega
theorem cellsS_at {ps : List Gs.Sup} {k : Nat} (h : k < ps.length) : (cellsS ps)[k * 6]? = some (.int .i64 ps[k].x) ∧ (cellsS ps)[k * 6 + 1]? = some (.int .i64 ps[k].y) ∧ (cellsS ps)[k * 6 + 2]? = some (.int .i64 ps[k].g) ∧ (cellsS ps)[k * 6 + 3]? = some (.int .i64 ps[k].lim) ∧ (cellsS ps)[k * 6 + 4]? = some (.int .i64 ps[k].lo) ∧ (cellsS ps)[k * 6 + 5]? = some (.int .i64 ps[k].hi) := by
  induction ps generalizing k with
  | nil => simp at h
  | cons s l ih =>
    cases k with
    | zero => simp [cellsS]
    | succ k =>
      have t := ih (k := k) (by simpa using h)
      have e : ∀ i, (cellsS (s :: l))[(k + 1) * 6 + i]? = (cellsS l)[k * 6 + i]? := by
        intro i
        rw [show (k + 1) * 6 + i = 6 + (k * 6 + i) by omega]
        unfold cellsS
        rw [List.flatMap_cons, List.getElem?_append_right (by simp)]
        simp
      have e0 := e 0
      simp only [Nat.add_zero] at e0
      rw [e0, e 1, e 2, e 3, e 4, e 5]
      simpa using t
theorem cellsS_news {W : World} {b off : Nat} {ps : List Gs.Sup} (hc : ∀ k (h : k < ps.length), SupAt W b (off + k * 6) ps[k]) : ∀ j u, (cellsS ps)[j]? = some u → W.cell? ((⟨b, off, none⟩ : Addr).add j) = some u := by
  intro j u hj
  have hl : j < (cellsS ps).length := (List.getElem?_eq_some_iff.1 hj).1
  rw [cellsS_length] at hl
  have hk : j / 6 < ps.length := by omega
  obtain ⟨c0, c1, c2, c3, c4, c5⟩ := hc (j / 6) hk
  obtain ⟨d0, d1, d2, d3, d4, d5⟩ := cellsS_at hk
  have ea : (⟨b, off, none⟩ : Addr).add j = ⟨b, off + j, none⟩ := by
    unfold Addr.add
    split
    · rename_i h0; subst h0; rfl
    · rfl
  rw [ea]
  have hm : j % 6 = 0 ∨ j % 6 = 1 ∨ j % 6 = 2 ∨ j % 6 = 3 ∨ j % 6 = 4 ∨ j % 6 = 5 := by omega
  rcases hm with m | m | m | m | m | m
  · have ej : j / 6 * 6 = j := by omega
    rw [ej] at c0 d0; rw [d0] at hj; rw [← hj]; exact c0
  · have ej : j / 6 * 6 + 1 = j := by omega
    rw [Nat.add_assoc, ej] at c1; rw [ej] at d1; rw [d1] at hj; rw [← hj]; exact c1
  · have ej : j / 6 * 6 + 2 = j := by omega
    rw [Nat.add_assoc, ej] at c2; rw [ej] at d2; rw [d2] at hj; rw [← hj]; exact c2
  · have ej : j / 6 * 6 + 3 = j := by omega
    rw [Nat.add_assoc, ej] at c3; rw [ej] at d3; rw [d3] at hj; rw [← hj]; exact c3
  · have ej : j / 6 * 6 + 4 = j := by omega
    rw [Nat.add_assoc, ej] at c4; rw [ej] at d4; rw [d4] at hj; rw [← hj]; exact c4
  · have ej : j / 6 * 6 + 5 = j := by omega
    rw [Nat.add_assoc, ej] at c5; rw [ej] at d5; rw [d5] at hj; rw [← hj]; exact c5
theorem info_sup : (Try.prog.info? 33).map (fun i => (i.zero, i.size, i.bytes)) = some (some (.agg #[.int .i64 0, .int .i64 0, .int .i64 0, .int .i64 0, .int .i64 0, .int .i64 0]), 6, 48) := by kernel_rfl
theorem cellsS_one (ps : List Gs.Sup) : ∀ u ∈ cellsS ps, u.oneCell' = true := by
  intro u hu
  unfold cellsS at hu
  obtain ⟨s, _, hs⟩ := List.mem_flatMap.1 hu
  simp at hs
  rcases hs with rfl | rfl | rfl | rfl | rfl | rfl <;> rfl
end Go.Proofs.Ytepblnnebeglbaa
