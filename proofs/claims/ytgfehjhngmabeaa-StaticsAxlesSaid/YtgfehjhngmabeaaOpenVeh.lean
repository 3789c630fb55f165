/- A parameter that is a vehicle, opened. -/
import Derived.Test.YtgfehjhngmabeaaVeh
import Derived.Deep.SlicePairs
import Derived.WideKeyArgs
import Derived.ProofKit
import Derived.OpenShut
import Derived.Lib.SmallJoins
namespace Go.Proofs.Ytgfehjhngmabeaa
open Go.RowKit Go.Proofs.Gn Go.ChangeShapes Go.WideShapes Go.Deep Go.Joins Go.ChangeAt
theorem Try.laidOutV : laidOutB Try.prog = true := by kernel_rfl
theorem Try.readVeh : Try.prog.readableRec 43 = true := by kernel_rfl
theorem Try.cellsAxle : Try.prog.cellsOf 110 = 3 := by kernel_rfl
theorem Try.cellsUnit : Try.prog.cellsOf 96 = 11 := by kernel_rfl
theorem Try.cellsVeh : Try.prog.cellsOf 43 = 4 := by kernel_rfl
theorem Try.cellsI64V : Try.prog.cellsOf 2 = 1 := by kernel_rfl
theorem Try.cellsIntV : Try.prog.cellsOf 3 = 1 := by kernel_rfl
theorem Try.cellsAxs : Try.prog.cellsOf 94 = 1 := by kernel_rfl
theorem add_atV {a : Addr} (h : a.spot = none) (n : Nat) : a.add n = ⟨a.block, a.off + n, none⟩ := by
  obtain ⟨b, o, s⟩ := a
  subst h
  unfold Addr.add
  split
  · subst n; rfl
  · rfl
set_option maxRecDepth 100000 in
set_option maxHeartbeats 2000000 in
theorem axls_open {H : Type} {enc : TypeId × Value → H} {W : World} {base fuel : Nat} {v : Value} {x : DataW H × List MemPlace} (hf : DataW.trod enc Try.prog W base (fun _ => true) true fuel 94 [v] = some x) :
    ∃ A ps cap, v = .slice A (List.length ps) cap ∧ Axls W A ps ∧ ps.length ≤ 9223372036854775807 := by
  rcases open_slice Try.underlying94 hf with ⟨hc, _⟩ | ⟨a, len, cap, m, n, D, Pl, hc, hb, hl, hm, hmm, hx, hi⟩
  · simp only [List.cons.injEq, and_true] at hc
    exact ⟨none, [], 0, hc, .inl rfl, by simp⟩
  · simp only [List.cons.injEq, and_true] at hc
    have hlm : len ≤ m := by rw [hmm]; split <;> omega
    by_cases h0 : len = 0
    · subst h0
      exact ⟨some a, [], cap, by simpa using hc, .inl rfl, by simp⟩
    have hs : a.spot = none := by
      obtain ⟨cs', h1, h2⟩ := hi 0 (by omega)
      rw [Try.cellsAxle] at h1
      obtain ⟨_, hlen, hcell⟩ := World.cells?_some h1
      match cs', hlen with
      | [v0, v1, v2], _ =>
        have c0 := hcell 0 (by omega)
        simpa [Addr.add] using World.cell?_spot c0
    have each : ∀ i, i < len → ∃ s : Axl, AxlAt W a.block (a.off + i * 3) s := by
      intro i hlt
      obtain ⟨cs', h1, h2⟩ := hi i (by omega)
      rw [Try.cellsAxle] at h1
      obtain ⟨_, hlen, hcell⟩ := World.cells?_some h1
      obtain ⟨xs, k, hk, hxy, _, hxl, hg⟩ := DataW.trod_struct Try.underlying110 h2
      match xs, hxl, cs', hlen with
      | [y0, y1, y2], _, [v0, v1, v2], _ =>
        have g0 := hg 0 _ rfl
        have g1 := hg 1 _ rfl
        have g2 := hg 2 _ rfl
        simp [Try.cellsI64V, Try.cellsIntV] at g0 g1 g2
        obtain ⟨x0, e0, _, _⟩ := DataW.trod_int Try.underlying2 g0
        obtain ⟨x1, e1, _, _⟩ := DataW.trod_int Try.underlying2 g1
        obtain ⟨x2, e2, _, _⟩ := DataW.trod_int Try.underlying3 g2
        simp only [List.cons.injEq, and_true] at e0 e1 e2
        subst e0 e1 e2
        have c0 := hcell 0 (by omega)
        have c1 := hcell 1 (by omega)
        have c2 := hcell 2 (by omega)
        rw [add_add, add_atV hs] at c0 c1 c2
        exact ⟨⟨x0, x1, x2⟩, by simpa using c0, by simpa [Nat.add_assoc] using c1, by simpa [Nat.add_assoc] using c2⟩
    obtain ⟨q, hq⟩ := choose_lt each
    refine ⟨some a, (List.range len).map q, cap, by simpa using hc, ?_, by simp [maxLen] at hm ⊢; omega⟩
    refine .inr ⟨a.block, a.off, by obtain ⟨_, _, _⟩ := a; subst hs; rfl, fun k hk => ?_⟩
    have hk2 : k < len := by simpa using hk
    have := hq k hk2
    simpa using this
set_option maxRecDepth 100000 in
set_option maxHeartbeats 2000000 in
theorem unts_open {H : Type} {enc : TypeId × Value → H} {W : World} {base fuel : Nat} {v : Value} {x : DataW H × List MemPlace} (hf : DataW.trod enc Try.prog W base (fun _ => true) true fuel 41 [v] = some x) :
    ∃ A ps cap, v = .slice A (List.length ps) cap ∧ Unts W A ps ∧ ps.length ≤ 9223372036854775807 := by
  rcases open_slice Try.underlying41 hf with ⟨hc, _⟩ | ⟨a, len, cap, m, n, D, Pl, hc, hb, hl, hm, hmm, hx, hi⟩
  · simp only [List.cons.injEq, and_true] at hc
    exact ⟨none, [], 0, hc, .inl rfl, by simp⟩
  · simp only [List.cons.injEq, and_true] at hc
    have hlm : len ≤ m := by rw [hmm]; split <;> omega
    by_cases h0 : len = 0
    · subst h0
      exact ⟨some a, [], cap, by simpa using hc, .inl rfl, by simp⟩
    have hs : a.spot = none := by
      obtain ⟨cs', h1, h2⟩ := hi 0 (by omega)
      rw [Try.cellsUnit] at h1
      obtain ⟨_, hlen, hcell⟩ := World.cells?_some h1
      match cs', hlen with
      | [v0, v1, v2, v3, v4, v5, v6, v7, v8, v9, v10], _ =>
        have c0 := hcell 0 (by omega)
        simpa [Addr.add] using World.cell?_spot c0
    have each : ∀ i, i < len → ∃ s : Unt, UntAt W a.block (a.off + i * 11) s := by
      intro i hlt
      obtain ⟨cs', h1, h2⟩ := hi i (by omega)
      rw [Try.cellsUnit] at h1
      obtain ⟨_, hlen, hcell⟩ := World.cells?_some h1
      obtain ⟨xs, k, hk, hxy, _, hxl, hg⟩ := DataW.trod_struct Try.underlying96 h2
      match xs, hxl, cs', hlen with
      | [y0, y1, y2, y3, y4, y5, y6, y7, y8, y9, y10], _, [v0, v1, v2, v3, v4, v5, v6, v7, v8, v9, v10], _ =>
        have g0 := hg 0 _ rfl
        have g1 := hg 1 _ rfl
        have g2 := hg 2 _ rfl
        have g3 := hg 3 _ rfl
        have g4 := hg 4 _ rfl
        have g5 := hg 5 _ rfl
        have g6 := hg 6 _ rfl
        have g7 := hg 7 _ rfl
        have g8 := hg 8 _ rfl
        have g9 := hg 9 _ rfl
        have g10 := hg 10 _ rfl
        simp [Try.cellsI64V, Try.cellsIntV, Try.cellsAxs] at g0 g1 g2 g3 g4 g5 g6 g7 g8 g9 g10
        obtain ⟨x0, e0, _, _⟩ := DataW.trod_int Try.underlying3 g0
        obtain ⟨x1, e1, _, _⟩ := DataW.trod_int Try.underlying2 g1
        obtain ⟨x2, e2, _, _⟩ := DataW.trod_int Try.underlying2 g2
        obtain ⟨x3, e3, _, _⟩ := DataW.trod_int Try.underlying2 g3
        obtain ⟨x4, e4, _, _⟩ := DataW.trod_int Try.underlying2 g4
        obtain ⟨x5, e5, _, _⟩ := DataW.trod_int Try.underlying2 g5
        obtain ⟨x6, e6, _, _⟩ := DataW.trod_int Try.underlying2 g6
        obtain ⟨x7, e7, _, _⟩ := DataW.trod_int Try.underlying2 g7
        obtain ⟨x8, e8, _, _⟩ := DataW.trod_int Try.underlying2 g8
        obtain ⟨x9, e9, _, _⟩ := DataW.trod_int Try.underlying3 g9
        obtain ⟨xA, xs', xc, e10, hX, hXn⟩ := axls_open g10
        simp only [List.cons.injEq, and_true] at e0 e1 e2 e3 e4 e5 e6 e7 e8 e9
        subst e0 e1 e2 e3 e4 e5 e6 e7 e8 e9 e10
        have c0 := hcell 0 (by omega)
        have c1 := hcell 1 (by omega)
        have c2 := hcell 2 (by omega)
        have c3 := hcell 3 (by omega)
        have c4 := hcell 4 (by omega)
        have c5 := hcell 5 (by omega)
        have c6 := hcell 6 (by omega)
        have c7 := hcell 7 (by omega)
        have c8 := hcell 8 (by omega)
        have c9 := hcell 9 (by omega)
        have c10 := hcell 10 (by omega)
        rw [add_add, add_atV hs] at c0 c1 c2 c3 c4 c5 c6 c7 c8 c9 c10
        exact ⟨⟨x0, x1, x2, x3, x4, x5, x6, x7, x8, x9, xA, xs', xc⟩, by simpa using c0, by simpa [Nat.add_assoc] using c1, by simpa [Nat.add_assoc] using c2, by simpa [Nat.add_assoc] using c3, by simpa [Nat.add_assoc] using c4, by simpa [Nat.add_assoc] using c5, by simpa [Nat.add_assoc] using c6, by simpa [Nat.add_assoc] using c7, by simpa [Nat.add_assoc] using c8, by simpa [Nat.add_assoc] using c9, by simpa [Nat.add_assoc] using c10, hX, hXn⟩
    obtain ⟨q, hq⟩ := choose_lt each
    refine ⟨some a, (List.range len).map q, cap, by simpa using hc, ?_, by simp [maxLen] at hm ⊢; omega⟩
    refine .inr ⟨a.block, a.off, by obtain ⟨_, _, _⟩ := a; subst hs; rfl, fun k hk => ?_⟩
    have hk2 : k < len := by simpa using hk
    have := hq k hk2
    simpa using this
set_option maxRecDepth 100000 in
theorem veh_open {H : Type} {enc : TypeId × Value → H} {W : World} {base b0 : Nat} {r : Reach} {v : Value} {d : DataW H} {p : List MemPlace} (hv : Value.okWide Try.prog W r b0 43 v) (h : DataW.Trod enc Try.prog W base (fun _ => true) true 43 v d p) :
    ∃ s A us cap f t, v = veV s A (List.length us) cap f t ∧ Unts W A us ∧ us.length ≤ 9223372036854775807 ∧ s.size ≤ maxLen ∧ (Lit.int .i64 f).wf = true ∧ (Lit.int .i64 t).wf = true := by
  obtain ⟨v0, v1, v2, v3, y0, y1, y2, y3, n, rfl, rfl, rfl, h0, h1, h2, h3⟩ := open_agg4 Try.underlying43 (by kernel_rfl) Try.cellsVeh hv h
  obtain ⟨s, e0, _, hs⟩ := DataW.trod_string Try.underlying9 h0
  simp only [List.cons.injEq, and_true] at e0
  subst e0
  obtain ⟨A, us, cap, rfl, hA, hn⟩ := unts_open h1
  obtain ⟨f, e2, _, wf⟩ := DataW.trod_int Try.underlying3 h2
  obtain ⟨t, e3, _, wt⟩ := DataW.trod_int Try.underlying3 h3
  simp only [List.cons.injEq, and_true] at e2 e3
  subst e2 e3
  exact ⟨s, A, us, cap, f, t, rfl, hA, hn, hs, wf, wt⟩
/-- A vehicle reads as it did. -/
theorem veh_shut {H : Type} {enc : TypeId × Value → H} {W W' : World} {sp : Nat → Bool} {v : Value} {d : DataW H} {p : List MemPlace} (h : DataW.Trod enc Try.prog W 0 (fun _ => true) true 43 v d p) (hb : Below W.heap.size W W') (hlt : ∀ x ∈ p, x.block < W.heap.size) (hsp : ∀ x ∈ p, sp x.block = true) :
    DataW.Trod enc Try.prog W' 0 sp true 43 v d p :=
  WideElems.Trod_stays Try.laidOutV Try.readVeh (of_decide_eq_true (by kernel_rfl)) h (fun x hx => hb.same (hlt x hx)) hsp
end Go.Proofs.Ytgfehjhngmabeaa
