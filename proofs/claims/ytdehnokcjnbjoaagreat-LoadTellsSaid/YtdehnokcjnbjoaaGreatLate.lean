/- A region of open order, in which all operations but the last one yield one value in every world of a class and stay in it, and the last one waits for all others: it is walked once, in the text's order; inside a round, too. -/
import Derived.BigQuiet
import Derived.RangeFuncNested
import Derived.RangeFuncCalls
import Derived.Test.YtdehnokcjnbjoaaGreatHeldIn
import Derived.Test.YtdehnokcjnbjoaaGreatUpQ
namespace Go.Proofs.Hin
open Go
/-- A fence that lets in what runs without one. -/
structure Open (F : Fence) : Prop where
  fn : ∀ f, F.fn f
  depth : F.depth = none
  call : ∀ {n : Nat} {P : Program} {f : FuncId} {args : Array Value} {w : World} {R : Ending → World → Prop}, Calls P f args w R → CallsIn F n P f args w R
theorem open_wide : Open Fence.wide := ⟨fun _ => trivial, rfl, fun h => callsIn_wide.2 h⟩
theorem open_round (l : Nat) : Open (Fence.wide.inRound l) := ⟨fun _ => trivial, rfl, fun h => CallsIn.inRound l (callsIn_wide.2 h)⟩
section
variable {F : Fence} {n : Nat} {P : Program} {ops : Array Oper} {Q : Exit → Act → World → Prop} {md : Region.Mode} {S : World → Prop} {L : Nat}
theorem opIn {o : Oper} {a : Act} {w : World} {K : Act → Prop} {K' : Act → World → Prop} (hF : Open F) (hd : ∀ c, o.op ≠ .defer c) (hw : S w) (h : ∀ a w', S w' → K a → K' a w') (hq : o.quiet P a S K) : o.wpIn F n P a w K' Q := by
  obtain ⟨v, h1, h2⟩ := hq
  have h3 := h1 w hw
  unfold Oper.quietAt at h3
  unfold Oper.wpIn
  refine ⟨fun f _ => hF.fn f, ?_⟩
  rw [Oper.semAt_eq _ _ _ hd]
  generalize (execOp a.eval o).run P w = r at *
  cases r with
  | ok x w' =>
    cases x <;> simp only [Oper.quietUpon] at h3 <;> simp only [Oper.uponIn]
    case value u =>
      obtain ⟨e1, e2⟩ := h3
      rw [e1, e2]
      exact h _ _ hw h2
    case skip =>
      obtain ⟨e1, e2⟩ := h3
      rw [e1, ← e2]
      exact h _ _ hw h2
    case enter f args =>
      obtain ⟨e1, hc⟩ := h3
      rw [e1]
      refine ⟨fun e => by rw [hF.depth] at e; simp at e, (hF.call hc).mono fun e w'' ⟨he, hw''⟩ => by subst he; exact h _ _ hw'' h2⟩
  | halt x w' => simp only [Oper.quietUpon] at h3
/-- Every order; operation L in whatever world of the class. -/
def AnyC (F : Fence) (n : Nat) (P : Program) (md : Region.Mode) (ops : Array Oper) (Q : Exit → Act → World → Prop) (S : World → Prop) (L : Nat) : Nat → Array Bool → Act → Prop
  | 0, listed, a => Region.ready md ops listed = [] ∧ ∀ w, S w → Q .normal a w
  | k + 1, listed, a => (Region.ready md ops listed = [] → ∀ w, S w → Q .normal a w) ∧ ∀ i ∈ Region.ready md ops listed,
      (i = L → ∀ w, S w → wpOpIn F n P ops Q i (wpAnyIn F n P md ops Q k (listed.setIfInBounds i true)) a w) ∧ (i ≠ L → qOp P ops S i (AnyC F n P md ops Q S L k (listed.setIfInBounds i true)) a)
/-- No operation defers. -/
def noDefer (ops : Array Oper) : Bool := ops.all fun o => match o.op with | .defer _ => false | _ => true
theorem noDefer_spec (h : noDefer ops = true) {i : Nat} {o : Oper} (ho : ops[i]? = some o) (c : Call) : o.op ≠ .defer c := by
  intro e
  have := Array.all_eq_true_iff_forall_mem.1 h o (Array.mem_of_getElem? ho)
  simp [e] at this
theorem opOf {i : Nat} {a : Act} {w : World} {K : Act → Prop} {K' : Act → World → Prop} (hF : Open F) (hd : noDefer ops = true) (hw : S w) (h : ∀ a w', S w' → K a → K' a w') (hq : qOp P ops S i K a) : wpOpIn F n P ops Q i K' a w := by
  unfold qOp at hq
  unfold wpOpIn
  cases ho : ops[i]? with
  | none => rw [ho] at hq; exact h _ _ hw hq
  | some o =>
    rw [ho] at hq
    dsimp only at hq ⊢
    by_cases hwn : Region.wanted o (yielded ops a.tmps) = true
    · rw [if_pos hwn] at hq ⊢
      exact opIn hF (noDefer_spec hd ho) hw h hq
    · rw [if_neg hwn] at hq ⊢
      exact ⟨fun f _ => hF.fn f, h _ _ hw hq⟩
theorem AnyC.plain (hF : Open F) (hd : noDefer ops = true) (k : Nat) : ∀ (listed : Array Bool) (a : Act) (w : World), S w → AnyC F n P md ops Q S L k listed a → wpAnyIn F n P md ops Q k listed a w := by
  induction k with
  | zero => exact fun _ _ w hw h => ⟨h.1, h.2 w hw⟩
  | succ k ih =>
    refine fun listed a w hw h => ⟨fun e => h.1 e w hw, fun i hi => ?_⟩
    by_cases e : i = L
    · exact (h.2 i hi).1 e w hw
    · exact opOf hF hd hw (fun b u hu hb => ih _ b u hu hb) ((h.2 i hi).2 e)
/-- j waits for i. -/
def waitB (md : Region.Mode) (ops : Array Oper) (j i : Nat) : Bool := ((ops[j]?).map fun o => o.after.any fun e => Region.binds md e && e.on == i).getD false
theorem waitB_spec {i j : Nat} (h : waitB md ops j i = true) {o : Oper} (ho : ops[j]? = some o) {listed : Array Bool} (hall : ∀ e ∈ o.after, Region.binds md e = true → listed.getD e.on false = true) : listed.getD i false = true := by
  unfold waitB at h
  rw [ho] at h
  simp only [Option.map_some, Option.getD_some, Array.any_eq_true, Bool.and_eq_true, beq_iff_eq] at h
  obtain ⟨k, hk, hb, e⟩ := h
  rw [← e]
  exact hall _ (Array.getElem_mem hk) hb
/-- Each of them is waited for by a later one, up to L. -/
def lastB (md : Region.Mode) (ops : Array Oper) (L : Nat) : Bool := (List.range L).all fun i => (List.range (L + 1)).any fun j => decide (i < j) && waitB md ops j i
theorem last_waits {listed : Array Bool} (hs : lastB md ops L = true) (hc : Closed md ops listed) (hL : L ∈ Region.ready md ops listed) (hsz : L < ops.size) : ∀ (d i : Nat), L - i = d → i < L → listed.getD i false = true := by
  obtain ⟨_, oL, hoL, hall⟩ := mem_ready.1 hL
  intro d
  induction d using Nat.strongRecOn with
  | ind d ih =>
    intro i hd hi
    obtain ⟨j, hj, hj2⟩ := List.any_eq_true.1 (List.all_eq_true.1 hs i (List.mem_range.2 hi))
    simp only [Bool.and_eq_true, decide_eq_true_eq] at hj2
    have hjL := List.mem_range.1 hj
    by_cases e : j = L
    · subst e; exact waitB_spec hj2.2 hoL hall
    · have h1 := ih (L - j) (by omega) j rfl (by omega)
      have hjs : j < ops.size := by omega
      exact waitB_spec hj2.2 (Array.getElem?_eq_getElem hjs) (hc j _ (Array.getElem?_eq_getElem hjs) h1)
theorem AnyC.first {i : Nat} {oi : Oper} {v : Value} (hi : ops[i]? = some oi) (hn : ∀ (j : Nat) (o : Oper) cs b, ops[j]? = some o → o.op ≠ .select cs b) (hs : lastB md ops L = true) (hsz : L < ops.size) (hiL : i < L) (k : Nat) : ∀ (listed : Array Bool) (a : Act),
      (∀ j oj, ops[j]? = some oj → j ≠ i → listed.getD j true = false → (∀ e ∈ oj.after, Region.binds md e = true → e.on ≠ i) → oi.apart ops oj = true) →
      Closed md ops listed → i ∈ Region.ready md ops listed → YieldsIn P ops S oi v a → AnyC F n P md ops Q S L k (listed.setIfInBounds i true) (a.put oi.dst v) → AnyC F n P md ops Q S L (k + 1) listed a := by
  induction k with
  | zero =>
    intro listed a _ _ hr hy H
    refine ⟨fun e => absurd (e ▸ hr) (by simp), fun j hj => ?_⟩
    by_cases e : j = i
    · subst e; exact ⟨fun e => absurd e (by omega), fun _ => hy.qOp hi H⟩
    · exact absurd (H.1 ▸ ready_mono hj e) (by simp)
  | succ k ih =>
    intro listed a far hc hr hy H
    refine ⟨fun e => absurd (e ▸ hr) (by simp), fun j hj => ?_⟩
    by_cases e : j = i
    · subst e; exact ⟨fun e => absurd e (by omega), fun _ => hy.qOp hi H⟩
    · obtain ⟨hun, oj, hoj, hall⟩ := mem_ready.1 hj
      have hni := getD_tf (mem_ready.1 hr).1
      have hnot : ∀ e ∈ oj.after, Region.binds md e = true → e.on ≠ i := fun e he hb heq => by
        have h1 := hall e he hb
        rw [heq, hni.2] at h1
        cases h1
      have hjL : j ≠ L := fun e => by
        subst e
        have := last_waits hs hc hj hsz _ i rfl hiL
        rw [hni.2] at this
        cases this
      refine ⟨fun e => absurd e hjL, fun _ => ?_⟩
      refine qOp_mono (fun b q => ih (listed.setIfInBounds j true) b (fun m om hm hmi hun' hno => far m om hm hmi ?_ hno) (closed_set hc hj) (ready_mono hr (Ne.symm e)) q.1 ?_)
        (qOp_put hoj (far j oj hoj e hun hnot) (fun cs b => hn i oi cs b hi) (fun cs b => hn j oj cs b hoj) hy ((H.2 j (ready_mono hj e)).2 hjL))
      · by_cases hjm : j = m
        · subst hjm; exact hun
        · rwa [getD_set_ne true hjm] at hun'
      · rw [Array.setIfInBounds_comm _ _ e]
        exact q.2
/-- In the text's order each may come first, up to L, which is alone then. -/
def lexL (md : Region.Mode) (ops : Array Oper) (L : Nat) : Nat → Nat → Array Bool → Bool
  | 0, k, listed => decide (k = L) && decide (Region.ready md ops listed = [L]) && decide (Region.ready md ops (listed.setIfInBounds L true) = [])
  | f + 1, k, listed => decide (k < L) && (Region.ready md ops listed).contains k && Region.free md ops listed k && closedB md ops listed && lexL md ops L f (k + 1) (listed.setIfInBounds k true)
theorem AnyC.lex {oL : Oper} (hn : Region.noSelect ops = true) (hs : lastB md ops L = true) (hsz : L < ops.size) (hL : ops[L]? = some oL) : ∀ (l : List Oper) (k : Nat) (listed : Array Bool) (a : Act), (∀ j, j < l.length → l[j]? = ops[k + j]?) →
    lexL md ops L l.length k listed = true → wpQuiet P ops S (fun b => Region.wanted oL (yielded ops b.tmps) = true ∧ ∀ w, S w → oL.wpIn F n P b w (fun c u => Q .normal c u) Q) l a → AnyC F n P md ops Q S L (l.length + 1) listed a
  | [], k, listed, a, _, hB, h => by
    simp only [List.length_nil, lexL, Bool.and_eq_true, decide_eq_true_eq] at hB
    obtain ⟨⟨rfl, h1⟩, h2⟩ := hB
    refine ⟨fun e => by rw [h1] at e; simp at e, fun i hi => ?_⟩
    rw [h1] at hi
    obtain rfl : i = k := by simpa using hi
    refine ⟨fun _ w hw => ?_, fun e => absurd rfl e⟩
    unfold wpOpIn
    rw [hL]
    dsimp only
    rw [if_pos h.1]
    exact Oper.wpIn_mono (fun c u q => ⟨h2, q⟩) (h.2 w hw)
  | o :: l, k, listed, a, hl, hB, h => by
    have h0 : ops[k]? = some o := by simpa using (hl 0 (by simp)).symm
    simp only [List.length_cons, lexL, Bool.and_eq_true, decide_eq_true_eq] at hB
    obtain ⟨⟨⟨⟨hk, hr⟩, hf⟩, hc⟩, hB'⟩ := hB
    have hst : qOp P ops S k (wpQuiet P ops S (fun b => Region.wanted oL (yielded ops b.tmps) = true ∧ ∀ w, S w → oL.wpIn F n P b w (fun c u => Q .normal c u) Q) l) a := by unfold qOp; simp only [h0]; exact h
    obtain ⟨v, hy, hK⟩ := yieldsIn_of_qOp h0 hst
    exact AnyC.first h0 (Region.noSelect_spec hn) hs hsz hk (l.length + 1) listed a (Region.free_spec h0 hf) (closed_of hc) (by simpa using hr) hy
      (AnyC.lex hn hs hsz hL l (k + 1) _ _ (fun j hj => by have := hl (j + 1) (by simp; omega); simpa [Nat.add_assoc, Nat.add_comm 1 j] using this) hB' hK)
/-- All checks of the region's form at once. -/
def lateB (md : Region.Mode) (ops : Array Oper) (L : Nat) : Bool := noDefer ops && Region.noSelect ops && lastB md ops L && decide (L + 1 = ops.size) && lexL md ops L L 0 (Array.replicate ops.size false)
theorem wpIn_region_late {id : Nat} {a : Act} {w : World} {ops l : List Oper} {oL : Oper} (L : Nat) (hF : Open F) (hm : P.follows .mixedOrders = true) (hB : lateB .any ops.toArray L = true) (hl : ops.take L = l) (hL : ops[L]? = some oL) (hC : S w.drew)
    (h : wpQuiet P ops.toArray S (fun b => Region.wanted oL (yielded ops.toArray b.tmps) = true ∧ ∀ w, S w → oL.wpIn F n P b w (fun c u => Q .normal c u) Q) l a) : (Code.region id ops.toArray true).wpIn F n P Q a w := by
  simp only [lateB, Bool.and_eq_true, decide_eq_true_eq] at hB
  obtain ⟨⟨⟨⟨h1, h2⟩, h3⟩, h4⟩, h5⟩ := hB
  subst hl
  have e0 : ops.length = L + 1 := by have := h4; simp at this; omega
  have e1 : (ops.take L).length = L := by rw [List.length_take]; omega
  have e : ops.toArray.size = L + 1 := h4.symm
  refine wpIn_region_any hm ?_
  rw [e] at h5 ⊢
  have k := AnyC.lex (F := F) (n := n) (Q := Q) (S := S) (md := .any) (P := P) (ops := ops.toArray) (L := L) (oL := oL) h2 h3 (by rw [e]; omega) (by simpa using hL) (ops.take L) 0 (Array.replicate (L + 1) false) a
    (fun j hj => by rw [e1] at hj; rw [Nat.zero_add, List.getElem?_toArray, List.getElem?_take, if_pos hj]) (by rw [e1]; exact h5) h
  rw [e1] at k
  exact AnyC.plain hF h1 _ _ _ _ hC k
end
end Go.Proofs.Hin
