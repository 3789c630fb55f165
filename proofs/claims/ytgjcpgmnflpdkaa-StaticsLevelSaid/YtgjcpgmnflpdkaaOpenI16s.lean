/- A parameter that is a list of small numbers, opened. -/
import Derived.Test.YtgjcpgmnflpdkaaGrM
import Derived.Test.YtgjcpgmnflpdkaaOpenSup
namespace Go.Proofs.Ytgjcpgmnflpdkaa
open Go.RowKit Go.Proofs.Gn Go.ChangeShapes Go.WideShapes Go.Deep
/-- The slice at A holds these small numbers. -/
def Shorts (w : World) (A : Option Addr) (gs : List Int) : Prop :=
  gs = [] ∨ ∃ b off, A = some ⟨b, off, none⟩ ∧ ∀ k (h : k < gs.length), w.cell? ⟨b, off + k, none⟩ = some (.int .i16 gs[k]) ∧ -32768 ≤ gs[k] ∧ gs[k] ≤ 32767
theorem shorts_up {w w' : World} {A : Option Addr} {gs : List Int} (h : Shorts w A gs) (hu : Up w w') : Shorts w' A gs := by
  rcases h with h | ⟨b, off, hA, hc⟩
  · exact .inl h
  · exact .inr ⟨b, off, hA, fun k hk => ⟨up_cell hu (hc k hk).1, (hc k hk).2⟩⟩
theorem Try.readI16s : Try.prog.readableRec 59 = true := by kernel_rfl
theorem Try.cellsI16 : Try.prog.cellsOf 62 = 1 := by kernel_rfl
set_option maxRecDepth 100000 in
theorem i16s_open {H : Type} {enc : TypeId × Value → H} {W : World} {base : Nat} {v : Value} {d : DataW H} {p : List MemPlace} (h : DataW.Trod enc Try.prog W base (fun _ => true) true 59 v d p) (hv : ∃ a len cap, v = .slice a len cap) :
    ∃ A ps cap, v = .slice A (List.length ps) cap ∧ Shorts W A ps ∧ ps.length ≤ 9223372036854775807 := by
  obtain ⟨a0, len0, cap0, rfl⟩ := hv
  obtain ⟨fuel, hf⟩ := h
  simp only [Value.cells] at hf
  rcases open_slice Try.underlying59 hf with ⟨hc, _⟩ | ⟨a, len, cap, m, n, D, Pl, hc, hb, hl, hm, hmm, hx, hi⟩
  · simp only [List.cons.injEq, and_true] at hc
    exact ⟨none, [], 0, hc, .inl rfl, by simp⟩
  · simp only [List.cons.injEq, and_true] at hc
    have hlm : len ≤ m := by rw [hmm]; split <;> omega
    by_cases h0 : len = 0
    · subst h0
      exact ⟨some a, [], cap, by simpa using hc, .inl rfl, by simp⟩
    have hs : a.spot = none := by
      obtain ⟨cs', h1, h2⟩ := hi 0 (by omega)
      rw [Try.cellsI16] at h1
      obtain ⟨_, hlen, hcell⟩ := World.cells?_some h1
      match cs', hlen with
      | [v0], _ =>
        have c0 := hcell 0 (by omega)
        simpa [Addr.add] using World.cell?_spot c0
    have each : ∀ i, i < len → ∃ s : Int, W.cell? ⟨a.block, a.off + i, none⟩ = some (.int .i16 s) ∧ -32768 ≤ s ∧ s ≤ 32767 := by
      intro i hlt
      obtain ⟨cs', h1, h2⟩ := hi i (by omega)
      rw [Try.cellsI16] at h1
      obtain ⟨_, hlen, hcell⟩ := World.cells?_some h1
      match cs', hlen with
      | [v0], _ =>
        obtain ⟨x0, e0, _, wx⟩ := DataW.trod_int Try.underlying62 h2
        simp only [List.cons.injEq, and_true] at e0
        subst e0
        have c0 := hcell 0 (by omega)
        rw [add_add, add_at hs] at c0
        have b := bounds_i16 wx
        exact ⟨x0, by simpa using c0, b.1, b.2⟩
    obtain ⟨q, hq⟩ := choose_lt each
    refine ⟨some a, (List.range len).map q, cap, by simpa using hc, ?_, by simp [maxLen] at hm ⊢; omega⟩
    refine .inr ⟨a.block, a.off, by obtain ⟨_, _, _⟩ := a; subst hs; rfl, fun k hk => ?_⟩
    have hk2 : k < len := by simpa using hk
    have := hq k hk2
    simpa using this
theorem i16s_shut {H : Type} {enc : TypeId × Value → H} {W W' : World} {sp : Nat → Bool} {v : Value} {d : DataW H} {p : List MemPlace} (h : DataW.Trod enc Try.prog W 0 (fun _ => true) true 59 v d p) (hb : Below W.heap.size W W') (hlt : ∀ x ∈ p, x.block < W.heap.size) (hsp : ∀ x ∈ p, sp x.block = true) :
    DataW.Trod enc Try.prog W' 0 sp true 59 v d p :=
  WideElems.Trod_stays Try.laidOutS Try.readI16s (of_decide_eq_true (by kernel_rfl)) h (fun x hx => hb.same (hlt x hx)) hsp
end Go.Proofs.Ytgjcpgmnflpdkaa
