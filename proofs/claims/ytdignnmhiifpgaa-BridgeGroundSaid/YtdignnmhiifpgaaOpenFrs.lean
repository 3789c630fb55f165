/- A parameter that is a list of forces, opened. -/
import Derived.Test.YtdignnmhiifpgaaBrM
import Derived.Deep.SlicePairs
import Derived.WideKeyArgs
import Derived.ProofKit
import Derived.OpenShut
namespace Go.Proofs.Ytdignnmhiifpgaa
open Go.RowKit Go.Proofs.Gn Go.ChangeShapes Go.WideShapes Go.Deep
theorem Try.laidOutS : laidOutB Try.prog = true := by kernel_rfl
theorem Try.readFrs : Try.prog.readableRec 30 = true := by kernel_rfl
theorem Try.cellsFrc : Try.prog.cellsOf 58 = 2 := by kernel_rfl
theorem Try.cellsI64 : Try.prog.cellsOf 2 = 1 := by kernel_rfl
theorem add_at {a : Addr} (h : a.spot = none) (n : Nat) : a.add n = ⟨a.block, a.off + n, none⟩ := by
  obtain ⟨b, o, s⟩ := a
  subst h
  unfold Addr.add
  split
  · subst n; rfl
  · rfl
theorem frs_open {H : Type} {enc : TypeId × Value → H} {W : World} {base : Nat} {v : Value} {d : DataW H} {p : List MemPlace} (h : DataW.Trod enc Try.prog W base (fun _ => true) true 30 v d p) (hv : ∃ a len cap, v = .slice a len cap) :
    ∃ A ps cap, v = .slice A ps.length cap ∧ Frs W A ps ∧ ps.length ≤ 9223372036854775807 := by
  obtain ⟨a0, len0, cap0, rfl⟩ := hv
  obtain ⟨fuel, hf⟩ := h
  simp only [Value.cells] at hf
  rcases open_slice_pairs Try.underlying30 Try.underlying58 Try.cellsFrc rfl rfl Try.cellsI64 Try.cellsI64 hf with ⟨hc, _⟩ | ⟨a, len, cap, m, n, V0, V1, D0, D1, P0, P1, hc, hb, hl, hm, hmm, hx, hi⟩
  · simp only [List.cons.injEq, and_true] at hc
    exact ⟨none, [], 0, hc, .inl rfl, by simp⟩
  · simp only [List.cons.injEq, and_true] at hc
    have hlm : len ≤ m := by rw [hmm]; split <;> omega
    refine ⟨some a, (List.range len).map fun i => (intOf (V0 i), intOf (V1 i)), cap, by simpa using hc, ?_, by simp [maxLen] at hm ⊢; omega⟩
    by_cases h0 : len = 0
    · exact .inl (by simp [h0])
    · have hsp := World.cell?_spot (hi 0 (by omega)).1
      have hs : a.spot = none := by simpa [Addr.add] using hsp
      refine .inr ⟨a.block, a.off, by obtain ⟨_, _, _⟩ := a; subst hs; rfl, fun k hk => ?_⟩
      have hk2 : k < len := by simpa using hk
      obtain ⟨c0, c1, t0, t1⟩ := hi k (by omega)
      obtain ⟨x, ex, _, _⟩ := DataW.trod_int Try.underlying2 t0
      obtain ⟨y, ey, _, _⟩ := DataW.trod_int Try.underlying2 t1
      simp only [List.cons.injEq, and_true] at ex ey
      rw [add_at hs, ex] at c0
      rw [add_at hs, ey] at c1
      refine ⟨?_, ?_⟩
      · rw [c0]; simp [ex, intOf]
      · rw [← Nat.add_assoc] at c1
        rw [c1]; simp [ey, intOf]
theorem frs_cap {H : Type} {enc : TypeId × Value → H} {W : World} {base : Nat} {A : Option Addr} {k c : Nat} {d : DataW H} {p : List MemPlace} (h : DataW.Trod enc Try.prog W base (fun _ => true) true 30 (.slice A k c) d p) :
    k ≤ c ∧ c ≤ 9223372036854775807 := by
  obtain ⟨fuel, hf⟩ := h
  simp only [Value.cells] at hf
  rcases open_slice_pairs Try.underlying30 Try.underlying58 Try.cellsFrc rfl rfl Try.cellsI64 Try.cellsI64 hf with ⟨hc, _⟩ | ⟨a, len, cap, m, n, V0, V1, D0, D1, P0, P1, hc, hb, hl, hm, hmm, hx, hi⟩
  · simp only [List.cons.injEq, and_true, Value.slice.injEq] at hc
    omega
  · simp only [List.cons.injEq, and_true, Value.slice.injEq] at hc
    simp [maxLen] at hm
    omega
/-- A list reads as it did. -/
theorem frs_shut {H : Type} {enc : TypeId × Value → H} {W W' : World} {sp : Nat → Bool} {v : Value} {d : DataW H} {p : List MemPlace} (h : DataW.Trod enc Try.prog W 0 (fun _ => true) true 30 v d p) (hb : Below W.heap.size W W') (hlt : ∀ x ∈ p, x.block < W.heap.size) (hsp : ∀ x ∈ p, sp x.block = true) :
    DataW.Trod enc Try.prog W' 0 sp true 30 v d p :=
  WideElems.Trod_stays Try.laidOutS Try.readFrs (of_decide_eq_true (by kernel_rfl)) h (fun x hx => hb.same (hlt x hx)) hsp
end Go.Proofs.Ytdignnmhiifpgaa
