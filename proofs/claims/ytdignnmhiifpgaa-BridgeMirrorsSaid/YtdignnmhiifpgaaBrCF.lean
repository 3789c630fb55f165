/- A list of forces as cells. -/
import Derived.Test.YtdignnmhiifpgaaBrMm
import Derived.Test.YtdignnmhiifpgaaBrZ
import Derived.Maps.AppendAt
import Derived.Deep.AppendLies
namespace Go.Proofs.Ytdignnmhiifpgaa
open Go.RowKit Go.Proofs.Gn
set_option linter.unusedVariables false
def cellsF (ts : List (Int × Int)) : List Value := ts.flatMap fun t => [.int .i64 t.1, .int .i64 t.2]
theorem cellsF_length (ts : List (Int × Int)) : (cellsF ts).length = ts.length * 2 := by
  induction ts with
  | nil => rfl
  | cons s l ih => simp only [cellsF, List.flatMap_cons, List.length_append, List.length_cons, List.length_nil] at ih ⊢; omega
theorem cellsF_at {ts : List (Int × Int)} {k : Nat} (h : k < ts.length) : (cellsF ts)[k * 2]? = some (.int .i64 ts[k].1) ∧ (cellsF ts)[k * 2 + 1]? = some (.int .i64 ts[k].2) := by
  induction ts generalizing k with
  | nil => simp at h
  | cons s l ih =>
    cases k with
    | zero => simp [cellsF]
    | succ k =>
      have t := ih (k := k) (by simpa using h)
      have e : ∀ i, (cellsF (s :: l))[(k + 1) * 2 + i]? = (cellsF l)[k * 2 + i]? := by
        intro i
        rw [show (k + 1) * 2 + i = 2 + (k * 2 + i) by omega]
        unfold cellsF
        rw [List.flatMap_cons, List.getElem?_append_right (by simp)]
        simp
      have e0 := e 0
      simp only [Nat.add_zero] at e0
      rw [e0, e 1]
      simpa using t
theorem cellsF_news {W : World} {b off : Nat} {ts : List (Int × Int)} (hc : ∀ k (h : k < ts.length), W.cell? ⟨b, off + k * 2, none⟩ = some (.int .i64 ts[k].1) ∧ W.cell? ⟨b, off + k * 2 + 1, none⟩ = some (.int .i64 ts[k].2)) : ∀ j u, (cellsF ts)[j]? = some u → W.cell? ((⟨b, off, none⟩ : Addr).add j) = some u := by
  intro j u hj
  have hl : j < (cellsF ts).length := (List.getElem?_eq_some_iff.1 hj).1
  rw [cellsF_length] at hl
  have hk : j / 2 < ts.length := by omega
  obtain ⟨c0, c1⟩ := hc (j / 2) hk
  obtain ⟨d0, d1⟩ := cellsF_at hk
  have ea : (⟨b, off, none⟩ : Addr).add j = ⟨b, off + j, none⟩ := by
    unfold Addr.add
    split
    · rename_i h0; subst h0; rfl
    · rfl
  rw [ea]
  have hm : j % 2 = 0 ∨ j % 2 = 1 := by omega
  rcases hm with m | m
  · have ej : j / 2 * 2 = j := by omega
    rw [ej] at c0 d0; rw [d0] at hj; rw [← hj]; exact c0
  · have ej : j / 2 * 2 + 1 = j := by omega
    rw [Nat.add_assoc, ej] at c1; rw [ej] at d1; rw [d1] at hj; rw [← hj]; exact c1
theorem info_frc : (Try.prog.info? 58).map (fun i => (i.zero, i.size, i.bytes)) = some (some (.agg #[.int .i64 0, .int .i64 0]), 2, 16) := by kernel_rfl
theorem cellsF_one (ts : List (Int × Int)) : ∀ u ∈ cellsF ts, u.oneCell' = true := by
  intro u hu
  unfold cellsF at hu
  obtain ⟨s, _, hs⟩ := List.mem_flatMap.1 hu
  simp at hs
  rcases hs with rfl | rfl <;> rfl
/-- The copy lies as a whole at its block. -/
theorem bx_cellsF {W : World} {base e n g cap : Nat} {ts : List (Int × Int)} (h : W.ownsRow base e 2 (.slice (some ⟨g, 0, none⟩) n cap) n (cellsF ts)) : Bx W g (cellsF ts) := by
  intro i v hi
  have hl := (List.getElem?_eq_some_iff.1 hi).1
  have hlen := h.1
  have c := h.cellAt i (by rw [cellsF_length] at hl hlen; omega)
  refine ⟨c.trans hi, ?_⟩
  rcases h.2 with ⟨hx, _⟩ | ⟨g', cap', cur, e1, _, hg, _⟩
  · simp at hx
  · simp only [Value.slice.injEq, Option.some.injEq, Addr.mk.injEq, and_true, true_and] at e1
    obtain ⟨rfl, _⟩ := e1
    simp [World.frozen?, hg]
theorem frs_cellsF {W : World} {g : Nat} {ts : List (Int × Int)} (h : Bx W g (cellsF ts)) : Frs W (some ⟨g, 0, none⟩) ts := .inr ⟨g, 0, rfl, fun k hk => by
  obtain ⟨a, b⟩ := cellsF_at hk
  rw [Nat.zero_add]
  exact ⟨(h _ _ a).1, (h _ _ b).1⟩⟩
theorem cellsF_set : ∀ {ts : List (Int × Int)} {k : Nat} (h : k < ts.length) (x : Int), cellsF (ts.set k (ts[k].1, x)) = (cellsF ts).set (k * 2 + 1) (.int .i64 x)
  | t :: ts, 0, _, x => by simp [cellsF]
  | t :: ts, k + 1, h, x => by
    have ih := cellsF_set (ts := ts) (k := k) (by simpa using h) x
    rw [show (k + 1) * 2 + 1 = (k * 2 + 1) + 1 + 1 by omega]
    simp only [List.set_cons_succ, List.getElem_cons_succ]
    unfold cellsF at ih ⊢
    rw [List.flatMap_cons, List.flatMap_cons, ih]
    simp
end Go.Proofs.Ytdignnmhiifpgaa
