/- A parameter that is a load, opened. -/
import Derived.Test.YtgfehjhngmabeaaChkL
import Derived.Deep.SlicePairs
import Derived.WideKeyArgs
import Derived.ProofKit
import Derived.OpenShut
import Derived.Lib.SmallJoins
namespace Go.Proofs.Ytgfehjhngmabeaa
open Go.RowKit Go.Proofs.Gn Go.ChangeShapes Go.WideShapes Go.Deep Go.Joins Go.ChangeAt
instance : Inhabited Pce := ⟨⟨0, 0, 0, 0, 0, 0, 0⟩⟩
instance : Inhabited Eye := ⟨⟨0, 0, 0, 0⟩⟩
theorem Try.laidOutL : laidOutB Try.prog = true := by kernel_rfl
theorem Try.readLoad : Try.prog.readableRec 25 = true := by kernel_rfl
theorem Try.cellsPiece : Try.prog.cellsOf 83 = 7 := by kernel_rfl
theorem Try.cellsEye : Try.prog.cellsOf 86 = 4 := by kernel_rfl
theorem Try.cellsLoad : Try.prog.cellsOf 25 = 4 := by kernel_rfl
theorem Try.cellsI64L : Try.prog.cellsOf 2 = 1 := by kernel_rfl
theorem add_atL {a : Addr} (h : a.spot = none) (n : Nat) : a.add n = ⟨a.block, a.off + n, none⟩ := by
  obtain ⟨b, o, s⟩ := a
  subst h
  unfold Addr.add
  split
  · subst n; rfl
  · rfl
set_option maxRecDepth 100000 in
theorem pcs_open {H : Type} {enc : TypeId × Value → H} {W : World} {base fuel : Nat} {v : Value} {x : DataW H × List MemPlace} (hf : DataW.trod enc Try.prog W base (fun _ => true) true fuel 22 [v] = some x) :
    ∃ A ps cap, v = .slice A (List.length ps) cap ∧ Pcs W A ps ∧ ps.length ≤ 9223372036854775807 := by
  rcases open_slice Try.underlying22 hf with ⟨hc, _⟩ | ⟨a, len, cap, m, n, D, Pl, hc, hb, hl, hm, hmm, hx, hi⟩
  · simp only [List.cons.injEq, and_true] at hc
    exact ⟨none, [], 0, hc, .inl rfl, by simp⟩
  · simp only [List.cons.injEq, and_true] at hc
    have hlm : len ≤ m := by rw [hmm]; split <;> omega
    by_cases h0 : len = 0
    · subst h0
      exact ⟨some a, [], cap, by simpa using hc, .inl rfl, by simp⟩
    have hs : a.spot = none := by
      obtain ⟨cs', h1, h2⟩ := hi 0 (by omega)
      rw [Try.cellsPiece] at h1
      obtain ⟨_, hlen, hcell⟩ := World.cells?_some h1
      match cs', hlen with
      | [v0, v1, v2, v3, v4, v5, v6], _ =>
        have c0 := hcell 0 (by omega)
        simpa [Addr.add] using World.cell?_spot c0
    have each : ∀ i, i < len → ∃ s : Pce, PceAt W a.block (a.off + i * 7) s := by
      intro i hlt
      obtain ⟨cs', h1, h2⟩ := hi i (by omega)
      rw [Try.cellsPiece] at h1
      obtain ⟨_, hlen, hcell⟩ := World.cells?_some h1
      obtain ⟨xs, k, hk, hxy, _, hxl, hg⟩ := DataW.trod_struct Try.underlying83 h2
      match xs, hxl, cs', hlen with
      | [y0, y1, y2, y3, y4, y5, y6], _, [v0, v1, v2, v3, v4, v5, v6], _ =>
        have g0 := hg 0 _ rfl
        have g1 := hg 1 _ rfl
        have g2 := hg 2 _ rfl
        have g3 := hg 3 _ rfl
        have g4 := hg 4 _ rfl
        have g5 := hg 5 _ rfl
        have g6 := hg 6 _ rfl
        simp [Try.cellsI64L] at g0 g1 g2 g3 g4 g5 g6
        obtain ⟨x0, e0, _, _⟩ := DataW.trod_int Try.underlying2 g0
        obtain ⟨x1, e1, _, _⟩ := DataW.trod_int Try.underlying2 g1
        obtain ⟨x2, e2, _, _⟩ := DataW.trod_int Try.underlying2 g2
        obtain ⟨x3, e3, _, _⟩ := DataW.trod_int Try.underlying2 g3
        obtain ⟨x4, e4, _, _⟩ := DataW.trod_int Try.underlying2 g4
        obtain ⟨x5, e5, _, _⟩ := DataW.trod_int Try.underlying2 g5
        obtain ⟨x6, e6, _, _⟩ := DataW.trod_int Try.underlying2 g6
        simp only [List.cons.injEq, and_true] at e0 e1 e2 e3 e4 e5 e6
        subst e0 e1 e2 e3 e4 e5 e6
        have c0 := hcell 0 (by omega)
        have c1 := hcell 1 (by omega)
        have c2 := hcell 2 (by omega)
        have c3 := hcell 3 (by omega)
        have c4 := hcell 4 (by omega)
        have c5 := hcell 5 (by omega)
        have c6 := hcell 6 (by omega)
        rw [add_add, add_atL hs] at c0 c1 c2 c3 c4 c5 c6
        exact ⟨⟨x0, x1, x2, x3, x4, x5, x6⟩, by simpa using c0, by simpa [Nat.add_assoc] using c1, by simpa [Nat.add_assoc] using c2, by simpa [Nat.add_assoc] using c3, by simpa [Nat.add_assoc] using c4, by simpa [Nat.add_assoc] using c5, by simpa [Nat.add_assoc] using c6⟩
    obtain ⟨q, hq⟩ := choose_lt each
    refine ⟨some a, (List.range len).map q, cap, by simpa using hc, ?_, by simp [maxLen] at hm ⊢; omega⟩
    refine .inr ⟨a.block, a.off, by obtain ⟨_, _, _⟩ := a; subst hs; rfl, fun k hk => ?_⟩
    have hk2 : k < len := by simpa using hk
    have := hq k hk2
    simpa using this
set_option maxRecDepth 100000 in
theorem eyes_open {H : Type} {enc : TypeId × Value → H} {W : World} {base fuel : Nat} {v : Value} {x : DataW H × List MemPlace} (hf : DataW.trod enc Try.prog W base (fun _ => true) true fuel 23 [v] = some x) :
    ∃ A ps cap, v = .slice A (List.length ps) cap ∧ Eyes W A ps ∧ ps.length ≤ 9223372036854775807 := by
  rcases open_slice Try.underlying23 hf with ⟨hc, _⟩ | ⟨a, len, cap, m, n, D, Pl, hc, hb, hl, hm, hmm, hx, hi⟩
  · simp only [List.cons.injEq, and_true] at hc
    exact ⟨none, [], 0, hc, .inl rfl, by simp⟩
  · simp only [List.cons.injEq, and_true] at hc
    have hlm : len ≤ m := by rw [hmm]; split <;> omega
    by_cases h0 : len = 0
    · subst h0
      exact ⟨some a, [], cap, by simpa using hc, .inl rfl, by simp⟩
    have hs : a.spot = none := by
      obtain ⟨cs', h1, h2⟩ := hi 0 (by omega)
      rw [Try.cellsEye] at h1
      obtain ⟨_, hlen, hcell⟩ := World.cells?_some h1
      match cs', hlen with
      | [v0, v1, v2, v3], _ =>
        have c0 := hcell 0 (by omega)
        simpa [Addr.add] using World.cell?_spot c0
    have each : ∀ i, i < len → ∃ s : Eye, EyeAt W a.block (a.off + i * 4) s := by
      intro i hlt
      obtain ⟨cs', h1, h2⟩ := hi i (by omega)
      rw [Try.cellsEye] at h1
      obtain ⟨_, hlen, hcell⟩ := World.cells?_some h1
      obtain ⟨xs, k, hk, hxy, _, hxl, hg⟩ := DataW.trod_struct Try.underlying86 h2
      match xs, hxl, cs', hlen with
      | [y0, y1, y2, y3], _, [v0, v1, v2, v3], _ =>
        have g0 := hg 0 _ rfl
        have g1 := hg 1 _ rfl
        have g2 := hg 2 _ rfl
        have g3 := hg 3 _ rfl
        simp [Try.cellsI64L] at g0 g1 g2 g3
        obtain ⟨x0, e0, _, _⟩ := DataW.trod_int Try.underlying2 g0
        obtain ⟨x1, e1, _, _⟩ := DataW.trod_int Try.underlying2 g1
        obtain ⟨x2, e2, _, _⟩ := DataW.trod_int Try.underlying2 g2
        obtain ⟨x3, e3, _, _⟩ := DataW.trod_int Try.underlying2 g3
        simp only [List.cons.injEq, and_true] at e0 e1 e2 e3
        subst e0 e1 e2 e3
        have c0 := hcell 0 (by omega)
        have c1 := hcell 1 (by omega)
        have c2 := hcell 2 (by omega)
        have c3 := hcell 3 (by omega)
        rw [add_add, add_atL hs] at c0 c1 c2 c3
        exact ⟨⟨x0, x1, x2, x3⟩, by simpa using c0, by simpa [Nat.add_assoc] using c1, by simpa [Nat.add_assoc] using c2, by simpa [Nat.add_assoc] using c3⟩
    obtain ⟨q, hq⟩ := choose_lt each
    refine ⟨some a, (List.range len).map q, cap, by simpa using hc, ?_, by simp [maxLen] at hm ⊢; omega⟩
    refine .inr ⟨a.block, a.off, by obtain ⟨_, _, _⟩ := a; subst hs; rfl, fun k hk => ?_⟩
    have hk2 : k < len := by simpa using hk
    have := hq k hk2
    simpa using this
set_option maxRecDepth 100000 in
theorem load_open {H : Type} {enc : TypeId × Value → H} {W : World} {base b0 : Nat} {r : Reach} {v : Value} {d : DataW H} {p : List MemPlace} (hv : Value.okWide Try.prog W r b0 25 v) (h : DataW.Trod enc Try.prog W base (fun _ => true) true 25 v d p) :
    ∃ s A ps capA B ys capB f, v = loV s A (List.length ps) capA B (List.length ys) capB f ∧ Pcs W A ps ∧ Eyes W B ys ∧ ps.length ≤ 9223372036854775807 ∧ ys.length ≤ 9223372036854775807 ∧ s.size ≤ maxLen := by
  obtain ⟨v0, v1, v2, v3, y0, y1, y2, y3, n, rfl, rfl, rfl, h0, h1, h2, h3⟩ := open_agg4 Try.underlying25 (by kernel_rfl) Try.cellsLoad hv h
  obtain ⟨s, e0, _, hs⟩ := DataW.trod_string Try.underlying9 h0
  simp only [List.cons.injEq, and_true] at e0
  subst e0
  obtain ⟨A, ps, capA, rfl, hA, hn⟩ := pcs_open h1
  obtain ⟨B, ys, capB, rfl, hB, hm⟩ := eyes_open h2
  obtain ⟨f, e3, _, _⟩ := DataW.trod_int Try.underlying2 h3
  simp only [List.cons.injEq, and_true] at e3
  subst e3
  exact ⟨s, A, ps, capA, B, ys, capB, f, rfl, hA, hB, hn, hm, hs⟩
/-- A load reads as it did. -/
theorem load_shut {H : Type} {enc : TypeId × Value → H} {W W' : World} {sp : Nat → Bool} {v : Value} {d : DataW H} {p : List MemPlace} (h : DataW.Trod enc Try.prog W 0 (fun _ => true) true 25 v d p) (hb : Below W.heap.size W W') (hlt : ∀ x ∈ p, x.block < W.heap.size) (hsp : ∀ x ∈ p, sp x.block = true) :
    DataW.Trod enc Try.prog W' 0 sp true 25 v d p :=
  WideElems.Trod_stays Try.laidOutL Try.readLoad (of_decide_eq_true (by kernel_rfl)) h (fun x hx => hb.same (hlt x hx)) hsp
end Go.Proofs.Ytgfehjhngmabeaa
