/- A region of open order inside a fence: all operations but a late one stay in a class of worlds; the late one, and what waits for it, come behind: walked once. -/
import Derived.Test.YtdignnmhiifpgaaLate
namespace Go.Proofs.Hin
open Go
section
variable {F : Fence} {n : Nat} {P : Program} {ops : Array Oper} {Q : Exit → Act → World → Prop} {md : Region.Mode} {S : World → Prop} {L : Nat}
/-- In the text's order each may come first, up to L, which is alone then; LF: what is listed behind it. -/
def lexM (md : Region.Mode) (ops : Array Oper) (L : Nat) (LF : Array Bool) : Nat → Nat → Array Bool → Bool
  | 0, k, listed => decide (k = L) && decide (Region.ready md ops listed = [L]) && decide (listed.setIfInBounds L true = LF)
  | f + 1, k, listed => decide (k < L) && (Region.ready md ops listed).contains k && Region.free md ops listed k && closedB md ops listed && lexM md ops L LF f (k + 1) (listed.setIfInBounds k true)
theorem AnyC.lexM {oL : Oper} {LF : Array Bool} (m : Nat) (hn : Region.noSelect ops = true) (hs : lastB md ops L = true) (hsz : L < ops.size) (hL : ops[L]? = some oL) : ∀ (l : List Oper) (k : Nat) (listed : Array Bool) (a : Act), (∀ j, j < l.length → l[j]? = ops[k + j]?) →
    Hin.lexM md ops L LF l.length k listed = true → wpQuiet P ops S (fun b => Region.wanted oL (yielded ops b.tmps) = true ∧ ∀ w, S w → oL.wpIn F n P b w (fun c u => wpAnyIn F n P md ops Q m LF c u) Q) l a → AnyC F n P md ops Q S L (l.length + 1 + m) listed a
  | [], k, listed, a, _, hB, h => by
    simp only [List.length_nil, Hin.lexM, Bool.and_eq_true, decide_eq_true_eq] at hB
    obtain ⟨⟨rfl, h1⟩, rfl⟩ := hB
    show AnyC F n P md ops Q S k ([].length + 1 + m) listed a
    rw [show ([] : List Oper).length + 1 + m = m + 1 by simp; omega]
    refine ⟨fun e => by rw [h1] at e; simp at e, fun i hi => ?_⟩
    rw [h1] at hi
    obtain rfl : i = k := by simpa using hi
    refine ⟨fun _ w hw => ?_, fun e => absurd rfl e⟩
    unfold wpOpIn
    rw [hL]
    dsimp only
    rw [if_pos h.1]
    exact h.2 w hw
  | o :: l, k, listed, a, hl, hB, h => by
    have h0 : ops[k]? = some o := by simpa using (hl 0 (by simp)).symm
    simp only [List.length_cons, Hin.lexM, Bool.and_eq_true, decide_eq_true_eq] at hB
    obtain ⟨⟨⟨⟨hk, hr⟩, hf⟩, hc⟩, hB'⟩ := hB
    have hst : qOp P ops S k (wpQuiet P ops S (fun b => Region.wanted oL (yielded ops b.tmps) = true ∧ ∀ w, S w → oL.wpIn F n P b w (fun c u => wpAnyIn F n P md ops Q m LF c u) Q) l) a := by unfold qOp; simp only [h0]; exact h
    obtain ⟨v, hy, hK⟩ := yieldsIn_of_qOp h0 hst
    rw [show (o :: l).length + 1 + m = (l.length + 1 + m) + 1 by simp; omega]
    exact AnyC.first h0 (Region.noSelect_spec hn) hs hsz hk (l.length + 1 + m) listed a (Region.free_spec h0 hf) (closed_of hc) (by simpa using hr) hy
      (AnyC.lexM m hn hs hsz hL l (k + 1) _ _ (fun j hj => by have := hl (j + 1) (by simp; omega); simpa [Nat.add_assoc, Nat.add_comm 1 j] using this) hB' hK)
/-- All checks of the region's form at once. -/
def lateMB (md : Region.Mode) (ops : Array Oper) (L m : Nat) (LF : Array Bool) : Bool := noDefer ops && Region.noSelect ops && lastB md ops L && decide (L + 1 + m = ops.size) && Hin.lexM md ops L LF L 0 (Array.replicate ops.size false)
theorem wpIn_region_lateM {id : Nat} {a : Act} {w : World} {ops l : List Oper} {oL : Oper} (L m : Nat) (LF : Array Bool) (hF : Open F) (hm : P.follows .mixedOrders = true) (hB : lateMB .any ops.toArray L m LF = true) (hl : ops.take L = l) (hL : ops[L]? = some oL) (hC : S w.drew)
    (h : wpQuiet P ops.toArray S (fun b => Region.wanted oL (yielded ops.toArray b.tmps) = true ∧ ∀ w, S w → oL.wpIn F n P b w (fun c u => wpAnyIn F n P .any ops.toArray Q m LF c u) Q) l a) : (Code.region id ops.toArray true).wpIn F n P Q a w := by
  simp only [lateMB, Bool.and_eq_true, decide_eq_true_eq] at hB
  obtain ⟨⟨⟨⟨h1, h2⟩, h3⟩, h4⟩, h5⟩ := hB
  subst hl
  have e0 : ops.length = L + 1 + m := by have := h4; simp at this; omega
  have e1 : (ops.take L).length = L := by rw [List.length_take]; omega
  have e : ops.toArray.size = L + 1 + m := h4.symm
  refine wpIn_region_any hm ?_
  rw [e] at h5 ⊢
  have k := AnyC.lexM (F := F) (n := n) (Q := Q) (S := S) (md := .any) (P := P) (ops := ops.toArray) (L := L) (oL := oL) (LF := LF) m h2 h3 (by rw [e]; omega) (by simpa using hL) (ops.take L) 0 (Array.replicate (L + 1 + m) false) a
    (fun j hj => by rw [e1] at hj; rw [Nat.zero_add, List.getElem?_toArray, List.getElem?_take, if_pos hj]) (by rw [e1]; exact h5) h
  rw [e1] at k
  exact AnyC.plain hF h1 _ _ _ _ hC k
end
end Go.Proofs.Hin
