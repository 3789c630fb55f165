/- A parameter that is a bridge, opened. -/
import Derived.Test.YtdignnmhiifpgaaBrK
import Derived.Deep.SlicePairs
import Derived.WideKeyArgs
import Derived.ProofKit
import Derived.OpenShut
import Derived.Lib.SmallJoins
namespace Go.Proofs.Ytdignnmhiifpgaa
open Go.RowKit Go.Proofs.Gn Go.ChangeShapes Go.WideShapes Go.Deep Go.Joins Go.ChangeAt
theorem Try.laidOutB : laidOutB Try.prog = true := by kernel_rfl
theorem Try.readBrg : Try.prog.readableRec 44 = true := by kernel_rfl
theorem Try.cellsBrg : Try.prog.cellsOf 44 = 6 := by kernel_rfl
theorem Try.cellsI64B : Try.prog.cellsOf 2 = 1 := by kernel_rfl
theorem add_atB {a : Addr} (h : a.spot = none) (n : Nat) : a.add n = ⟨a.block, a.off + n, none⟩ := by
  obtain ⟨b, o, s⟩ := a
  subst h
  unfold Addr.add
  split
  · subst n; rfl
  · rfl
set_option maxRecDepth 100000 in
theorem i6_open {H : Type} {enc : TypeId × Value → H} {W : World} {base fuel : Nat} {v : Value} {x : DataW H × List MemPlace} (hf : DataW.trod enc Try.prog W base (fun _ => true) true fuel 25 [v] = some x) :
    ∃ A ps cap, v = .slice A (List.length ps) cap ∧ I6 W A ps ∧ ps.length ≤ 9223372036854775807 ∧ ps.length ≤ cap := by
  rcases open_slice Try.underlying25 hf with ⟨hc, _⟩ | ⟨a, len, cap, m, n, D, Pl, hc, hb, hl, hm, hmm, hx, hi⟩
  · simp only [List.cons.injEq, and_true] at hc
    exact ⟨none, [], 0, hc, .inl rfl, by simp, by simp⟩
  · simp only [List.cons.injEq, and_true] at hc
    have hlm : len ≤ m := by rw [hmm]; split <;> omega
    by_cases h0 : len = 0
    · subst h0
      exact ⟨some a, [], cap, by simpa using hc, .inl rfl, by simp, by simp⟩
    have hs : a.spot = none := by
      obtain ⟨cs', h1, h2⟩ := hi 0 (by omega)
      rw [Try.cellsI64B] at h1
      obtain ⟨_, hlen, hcell⟩ := World.cells?_some h1
      match cs', hlen with
      | [v0], _ =>
        have c0 := hcell 0 (by omega)
        simpa [Addr.add] using World.cell?_spot c0
    have each : ∀ i, i < len → ∃ s : Int, W.cell? ⟨a.block, a.off + i, none⟩ = some (.int .i64 s) := by
      intro i hlt
      obtain ⟨cs', h1, h2⟩ := hi i (by omega)
      rw [Try.cellsI64B] at h1
      obtain ⟨_, hlen, hcell⟩ := World.cells?_some h1
      match cs', hlen with
      | [v0], _ =>
        obtain ⟨x0, e0, _, _⟩ := DataW.trod_int Try.underlying2 h2
        simp only [List.cons.injEq, and_true] at e0
        subst e0
        have c0 := hcell 0 (by omega)
        rw [add_add, add_atB hs] at c0
        exact ⟨x0, by simpa using c0⟩
    obtain ⟨q, hq⟩ := choose_lt each
    refine ⟨some a, (List.range len).map q, cap, by simpa using hc, ?_, by simp [maxLen] at hm ⊢; omega, by simpa using hl⟩
    refine .inr ⟨a.block, a.off, by obtain ⟨_, _, _⟩ := a; subst hs; rfl, fun k hk => ?_⟩
    have hk2 : k < len := by simpa using hk
    have := hq k hk2
    simpa using this
theorem array6 {α : Type} {cs : Array α} (h : cs.size = 6) : ∃ c0 c1 c2 c3 c4 c5, cs = #[c0, c1, c2, c3, c4, c5] := by
  obtain ⟨l⟩ := cs
  match l, h with
  | [c0, c1, c2, c3, c4, c5], _ => exact ⟨c0, c1, c2, c3, c4, c5, rfl⟩
set_option maxRecDepth 100000 in
theorem brg_open {H : Type} {enc : TypeId × Value → H} {W : World} {base b0 : Nat} {r : Reach} {v : Value} {d : DataW H} {p : List MemPlace} (hv : Value.okWide Try.prog W r b0 44 v) (h : DataW.Trod enc Try.prog W base (fun _ => true) true 44 v d p) :
    ∃ b : Brg, v = bgV b ∧ BgAt W b ∧ (b.sp.length ≤ 9223372036854775807 ∧ b.mo.length ≤ 9223372036854775807 ∧ b.sh.length ≤ 9223372036854775807) ∧ b.sp.length ≤ b.k0 := by
  obtain ⟨cs, rfl, hsz⟩ := okWide_struct Try.underlying44 hv
  obtain ⟨v0, v1, v2, v3, v4, v5, rfl⟩ := array6 (hsz.trans Try.cellsBrg)
  obtain ⟨fuel, hf⟩ := h
  obtain ⟨xs, n, _, _, _, hxl, hg⟩ := DataW.trod_struct Try.underlying44 hf
  match xs, hxl with
  | [y0, y1, y2, y3, y4, y5], _ =>
    have g0 := hg 0 _ rfl
    have g1 := hg 1 _ rfl
    have g2 := hg 2 _ rfl
    have g3 := hg 3 _ rfl
    have g4 := hg 4 _ rfl
    have g5 := hg 5 _ rfl
    have q0 : Try.prog.cellsOf 25 = 1 := by kernel_rfl
    have q1 : Try.prog.cellsOf 3 = 1 := by kernel_rfl
    simp [Value.cells, Try.cellsI64B, q0, q1] at g0 g1 g2 g3 g4 g5
    obtain ⟨A0, sp, k0, rfl, hA0, hn0, hc0⟩ := i6_open g0
    obtain ⟨A1, mo, k1, rfl, hA1, hn1, hc1⟩ := i6_open g1
    obtain ⟨A2, sh, k2, rfl, hA2, hn2, hc2⟩ := i6_open g2
    obtain ⟨dy, e3, _, _⟩ := DataW.trod_int Try.underlying2 g3
    obtain ⟨la, e4, _, _⟩ := DataW.trod_int Try.underlying3 g4
    obtain ⟨tr, e5, _, _⟩ := DataW.trod_int Try.underlying2 g5
    simp only [List.cons.injEq, and_true] at e3 e4 e5
    subst e3 e4 e5
    exact ⟨⟨sp, mo, sh, A0, A1, A2, k0, k1, k2, dy, la, tr⟩, rfl, ⟨hA0, hA1, hA2⟩, ⟨hn0, hn1, hn2⟩, hc0⟩
/-- A bridge reads as it did. -/
theorem brg_shut {H : Type} {enc : TypeId × Value → H} {W W' : World} {sp : Nat → Bool} {v : Value} {d : DataW H} {p : List MemPlace} (h : DataW.Trod enc Try.prog W 0 (fun _ => true) true 44 v d p) (hb : Below W.heap.size W W') (hlt : ∀ x ∈ p, x.block < W.heap.size) (hsp : ∀ x ∈ p, sp x.block = true) :
    DataW.Trod enc Try.prog W' 0 sp true 44 v d p :=
  WideElems.Trod_stays Try.laidOutB Try.readBrg (of_decide_eq_true (by kernel_rfl)) h (fun x hx => hb.same (hlt x hx)) hsp
end Go.Proofs.Ytdignnmhiifpgaa
