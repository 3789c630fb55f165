/- A parameter that is a list of points: its capacity. -/
import Derived.Test.YtihckoenfklhpaaOpenPts
namespace Go.Proofs.Ytihckoenfklhpaa
open Go.RowKit Go.Proofs.Gn Go.ChangeShapes Go.WideShapes Go.Deep
theorem pts_cap {H : Type} {enc : TypeId × Value → H} {W : World} {base : Nat} {A : Option Addr} {k c : Nat} {d : DataW H} {p : List MemPlace} (h : DataW.Trod enc Try.prog W base (fun _ => true) true 22 (.slice A k c) d p) :
    k ≤ c ∧ c ≤ 9223372036854775807 := by
  obtain ⟨fuel, hf⟩ := h
  simp only [Value.cells] at hf
  rcases open_slice_pairs Try.underlying22 Try.underlying24 Try.cellsPt rfl rfl Try.cellsI64 Try.cellsI64 hf with ⟨hc, _⟩ | ⟨a, len, cap, m, n, V0, V1, D0, D1, P0, P1, hc, hb, hl, hm, hmm, hx, hi⟩
  · simp only [List.cons.injEq, and_true, Value.slice.injEq] at hc
    omega
  · simp only [List.cons.injEq, and_true, Value.slice.injEq] at hc
    simp [maxLen] at hm
    omega
end Go.Proofs.Ytihckoenfklhpaa
