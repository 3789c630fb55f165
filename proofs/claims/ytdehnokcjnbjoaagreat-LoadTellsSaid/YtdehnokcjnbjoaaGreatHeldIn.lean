/- Inside a fence: an operation of a region of open order may come first if it yields the same value in all worlds with a property that every operation of the region keeps. -/
import Derived.OrdersHeld
import Derived.OrdersIn
import Derived.RegionIn
namespace Go.Proofs.Hin
open Go
section
variable {F : Fence} {n : Nat} {P : Program} {ops : Array Oper} {Q : Exit → Act → World → Prop} {md : Region.Mode} {S : World → Prop} {L : Nat}
/-- It yields v in the worlds of S, and calls nothing. -/
def Sure (P : Program) (ops : Array Oper) (S : World → Prop) (o : Oper) (v : Value) (a : Act) : Prop := YieldsIf P ops S o v a ∧ ∀ w, o.about P w a.eval = none
theorem Sure.now {i : Nat} {o : Oper} {v : Value} {a : Act} {w : World} {K : Act → World → Prop} (hro : F.round = none) (hi : ops[i]? = some o) (s : Sure P ops S o v a) (hS : S w) (h : K (a.put o.dst v) w) :
    wpOpIn F n P ops Q i K a w := by
  have free : ∀ f, o.about P w a.eval = some f → F.fn f := fun f e => absurd ((s.2 w).symm.trans e) (by simp)
  rw [show wpOpIn F n P ops Q i K a w = (if Region.wanted o (yielded ops a.tmps) then o.wpIn F n P a w K Q else (∀ f, o.about P w a.eval = some f → F.fn f) ∧ K (a.put o.dst undef) w) by unfold wpOpIn; rw [hi]]
  rcases s.1 with ⟨e, r⟩ | ⟨e, rfl⟩
  · rw [if_pos e]
    unfold Oper.wpIn
    rw [hro, Oper.semAt_none, r w hS]
    exact ⟨free, h⟩
  · rw [if_neg (by rw [e]; simp)]
    exact ⟨free, h⟩
/-- Every order, and S behind each operation but L, behind which nothing is asked. -/
def AnyS (F : Fence) (n : Nat) (P : Program) (md : Region.Mode) (ops : Array Oper) (Q : Exit → Act → World → Prop) (S : World → Prop) (L : Nat) : Nat → Array Bool → Act → World → Prop
  | 0, listed, a, w => Region.ready md ops listed = [] ∧ Q .normal a w
  | k + 1, listed, a, w => (Region.ready md ops listed = [] → Q .normal a w) ∧ ∀ i ∈ Region.ready md ops listed, wpOpIn F n P ops Q i (fun b u => (i = L → wpAnyIn F n P md ops Q k (listed.setIfInBounds i true) b u) ∧ (i ≠ L → S u ∧ AnyS F n P md ops Q S L k (listed.setIfInBounds i true) b u)) a w
theorem AnyS.plain (k : Nat) : ∀ (listed : Array Bool) (a : Act) (w : World), AnyS F n P md ops Q S L k listed a w → wpAnyIn F n P md ops Q k listed a w := by
  induction k with
  | zero => exact fun _ _ _ h => h
  | succ k ih => exact fun _ _ _ h => ⟨h.1, fun i hi => wpOpIn_mono (fun b u q => if e : i = L then q.1 e else ih _ b u (q.2 e).2) (h.2 i hi)⟩
/-- What is listed, is listed with all that it waits for. -/
def Closed (md : Region.Mode) (ops : Array Oper) (listed : Array Bool) : Prop := ∀ j oj, ops[j]? = some oj → listed.getD j false = true → ∀ e ∈ oj.after, Region.binds md e = true → listed.getD e.on false = true
theorem closed_none (k : Nat) : Closed md ops (Array.replicate k false) := fun j _ _ h => by
  by_cases c : j < k <;> simp [c] at h
theorem getD_tf {listed : Array Bool} {j : Nat} (h : listed.getD j true = false) : j < listed.size ∧ listed.getD j false = false := by
  rcases Nat.lt_or_ge j listed.size with c | c
  · simp [c] at h ⊢; exact h
  · simp [Array.getElem?_eq_none c] at h
theorem closed_set {listed : Array Bool} {j : Nat} (h : Closed md ops listed) (hj : j ∈ Region.ready md ops listed) : Closed md ops (listed.setIfInBounds j true) := by
  obtain ⟨_, oj, hoj, hall⟩ := mem_ready.1 hj
  intro m om hm hl e he hb
  by_cases c : j = m
  · subst c
    obtain rfl : oj = om := Option.some.inj (hoj.symm.trans hm)
    exact getD_set_true (hall e he hb)
  · rw [getD_set_ne false c] at hl
    exact getD_set_true (h m om hm hl e he hb)
def closedB (md : Region.Mode) (ops : Array Oper) (listed : Array Bool) : Bool := (List.range ops.size).all fun j => ((ops[j]?).map fun o => !listed.getD j false || o.after.all fun e => !Region.binds md e || listed.getD e.on false).getD true
theorem closed_of {listed : Array Bool} (h : closedB md ops listed = true) : Closed md ops listed := fun j oj hj hl e he hb => by
  have := List.all_eq_true.1 h j (List.mem_range.2 (Array.getElem?_eq_some_iff.1 hj).1)
  rw [hj] at this
  simp only [Option.map_some, Option.getD_some, Bool.or_eq_true, Bool.not_eq_true', Array.all_eq_true_iff_forall_mem] at this
  rcases this with c | c
  · rw [hl] at c; cases c
  · rcases c e he with c | c
    · rw [hb] at c; cases c
    · exact c
/-- Each of these waits for the next one. -/
def waits (md : Region.Mode) (ops : Array Oper) : List Nat → Bool
  | a :: b :: t => ((ops[a]?).map fun o => o.after.any fun e => Region.binds md e && e.on == b).getD false && waits md ops (b :: t)
  | _ => true
theorem waits_listed {listed : Array Bool} (h : Closed md ops listed) : ∀ (t : List Nat) (a : Nat), waits md ops (a :: t) = true → listed.getD a false = true → listed.getD ((a :: t).getLastD 0) false = true
  | [], _, _, hl => hl
  | b :: t, a, hw, hl => by
    simp only [waits, Bool.and_eq_true] at hw
    obtain ⟨h1, h2⟩ := hw
    cases ho : ops[a]? with
    | none => rw [ho] at h1; simp at h1
    | some o =>
      rw [ho] at h1
      simp only [Option.map_some, Option.getD_some, Array.any_eq_true, Bool.and_eq_true, beq_iff_eq] at h1
      obtain ⟨k, hk, hb, rfl⟩ := h1
      have := waits_listed h t (o.after[k].on) h2 (h a o ho hl _ (Array.getElem_mem hk) hb)
      simpa using this
theorem not_ready {listed : Array Bool} (h : Closed md ops listed) {i : Nat} {p : List Nat} (hp : waits md ops (L :: p) = true) (he : (L :: p).getLastD 0 = i) (hne : i ≠ L) (hi : listed.getD i true = false) : L ∉ Region.ready md ops listed := fun hL => by
  have h1 := getD_tf (mem_ready.1 hL).1
  have h2 := waits_listed (closed_set h hL) p L hp (by simp [h1.1])
  rw [he, getD_set_ne false (Ne.symm hne), (getD_tf hi).2] at h2
  cases h2
theorem AnyS.start {id : Nat} {a : Act} {w : World} (hm : P.follows .mixedOrders = true) (S : World → Prop) (L : Nat) (h : AnyS F n P .any ops Q S L ops.size (Array.replicate ops.size false) a { w with drawn := w.drawn + 1 }) :
    (Code.region id ops true).wpIn F n P Q a w := wpIn_region_any hm (h.plain _ _ _ _)
theorem AnyS.done {listed : Array Bool} {a : Act} {w : World} (hr : Region.ready md ops listed = []) (h : Q .normal a w) (k : Nat) : AnyS F n P md ops Q S L k listed a w := by
  cases k with
  | zero => exact ⟨hr, h⟩
  | succ k => exact ⟨fun _ => h, fun i hi => absurd (hr ▸ hi) (by simp)⟩
/-- Another operation than i, behind i's value or ahead of it. -/
theorem swap {j : Nat} {oi oj : Oper} {v : Value} (hro : F.round = none) (hj : ops[j]? = some oj) (hap : oi.apart ops oj = true) (ni : ∀ cs b, oi.op ≠ .select cs b) (nj : ∀ cs b, oj.op ≠ .select cs b)
    (hQ : ∀ c a w, Q (.panic c) (a.put oi.dst v) w → Q (.panic c) a w) {K : Act → World → Prop} {a : Act} {w : World} (s : Sure P ops S oi v a) (h : wpOpIn F n P ops Q j K (a.put oi.dst v) w) :
    wpOpIn F n P ops Q j (fun b u => Sure P ops S oi v b ∧ K (b.put oi.dst v) u) a w := by
  obtain ⟨q1, q2, q3⟩ := Oper.apart_spec hap
  have put : ∀ b : Act, Sure P ops S oi v b → ∀ u, Sure P ops S oi v (b.put oj.dst u) := fun b hb u =>
    ⟨hb.1.of_same (execOp_put oi ni b oj.dst u q3) (wanted_put oi b oj.dst u q3), fun w => by rw [about_put oi w b oj.dst u q3]; exact hb.2 w⟩
  have dfr : ∀ d, Sure P ops S oi v { a with defers := d :: a.defers } := fun d => ⟨s.1.of_same rfl rfl, s.2⟩
  have swp : ∀ u, (a.put oj.dst u).put oi.dst v = (a.put oi.dst v).put oj.dst u := fun u => (Act.put_comm a v u q2).symm
  unfold wpOpIn at h ⊢
  rw [hj] at h ⊢
  dsimp only at h ⊢
  rw [wanted_put oj a oi.dst v q1, about_put oj w a oi.dst v q1] at h
  by_cases hw : Region.wanted oj (yielded ops a.tmps) = true
  · rw [if_pos hw] at h ⊢
    unfold Oper.wpIn at h ⊢
    rw [about_put oj w a oi.dst v q1, hro, Oper.semAt_none, execOp_put oj nj a oi.dst v q1] at h
    rw [hro, Oper.semAt_none]
    refine ⟨h.1, ?_⟩
    replace h := h.2
    cases hr : (execOp a.eval oj).run P w with
    | halt x u =>
      rw [hr] at h
      cases x <;> simp only [Oper.uponIn] at h ⊢
      exact hQ _ _ _ h
    | ok x u =>
      rw [hr] at h
      cases x <;> simp only [Oper.uponIn] at h ⊢
      case value y => exact ⟨put a s y, by rw [swp]; exact h⟩
      case skip => exact ⟨put a s _, by rw [swp]; exact h⟩
      case defer d =>
        refine ⟨⟨(dfr d).1.of_same (execOp_put oi ni _ oj.dst undef q3) (wanted_put oi _ oj.dst undef q3), fun w => by rw [about_put oi w _ oj.dst undef q3]; exact (dfr d).2 w⟩, ?_⟩
        rw [← Act.put_comm _ v undef q2, ← Act.put_defers]
        exact h
      case enter f args =>
        refine ⟨h.1, CallsIn.mono h.2 fun e u' he => ?_⟩
        cases e with
        | returned y => exact ⟨put a s y, by rw [swp]; exact he⟩
        | panicked c => exact hQ _ _ _ he
        | outgrown => exact he
      case row row args => exact ⟨h.1, RowsIn.mono h.2 fun y u' he => ⟨put a s y, by rw [swp]; exact he⟩⟩
      case round l f tmps assign body =>
        refine ⟨h.1, RoundIn.mono h.2 fun e u' he => ?_⟩
        cases e with
        | returned y => exact ⟨put a s y, by rw [swp]; exact he⟩
        | panicked c => exact hQ _ _ _ he
        | outgrown => exact he
  · rw [if_neg hw] at h ⊢
    exact ⟨h.1, put a s _, by rw [swp]; exact h.2⟩
theorem AnyS.first {i : Nat} {oi : Oper} {v : Value} (hro : F.round = none) (hi : ops[i]? = some oi) (hn : ∀ (j : Nat) (o : Oper) cs b, ops[j]? = some o → o.op ≠ .select cs b)
    (hQ : ∀ c a w, Q (.panic c) (a.put oi.dst v) w → Q (.panic c) a w) (hiL : i ≠ L) {p : List Nat} (hp : waits md ops (L :: p) = true) (he : (L :: p).getLastD 0 = i) (k : Nat) : ∀ (listed : Array Bool) (a : Act) (w : World),
      (∀ j oj, ops[j]? = some oj → j ≠ i → listed.getD j true = false → (∀ e ∈ oj.after, Region.binds md e = true → e.on ≠ i) → oi.apart ops oj = true) →
      Closed md ops listed → i ∈ Region.ready md ops listed → Sure P ops S oi v a → S w → AnyS F n P md ops Q S L k (listed.setIfInBounds i true) (a.put oi.dst v) w → AnyS F n P md ops Q S L (k + 1) listed a w := by
  induction k with
  | zero =>
    intro listed a w _ _ hr s hS H
    refine ⟨fun e => absurd (e ▸ hr) (by simp), fun j hj => ?_⟩
    by_cases e : j = i
    · subst e; exact s.now hro hi hS ⟨fun e => absurd e hiL, fun _ => ⟨hS, H⟩⟩
    · exact absurd (H.1 ▸ ready_mono hj e) (by simp)
  | succ k ih =>
    intro listed a w far hc hr s hS H
    refine ⟨fun e => absurd (e ▸ hr) (by simp), fun j hj => ?_⟩
    by_cases e : j = i
    · subst e; exact s.now hro hi hS ⟨fun e => absurd e hiL, fun _ => ⟨hS, H⟩⟩
    · obtain ⟨hun, oj, hoj, hall⟩ := mem_ready.1 hj
      have hni : listed.getD i true = false := (mem_ready.1 hr).1
      have hnot : ∀ e ∈ oj.after, Region.binds md e = true → e.on ≠ i := fun e he hb heq => by
        have h1 := hall e he hb
        rw [heq] at h1
        rcases Nat.lt_or_ge i listed.size with h' | h'
        · simp [h'] at hni h1
          rw [hni] at h1
          cases h1
        · simp [Array.getElem?_eq_none h'] at h1
      have hjL : j ≠ L := fun e => not_ready hc hp he hiL hni (e ▸ hj)
      refine wpOpIn_mono (fun b u q => ⟨fun e => absurd e hjL, fun _ => ⟨(q.2.2 hjL).1, ih (listed.setIfInBounds j true) b u (fun m om hm hmi hun' hno => far m om hm hmi ?_ hno) (closed_set hc hj) (ready_mono hr (Ne.symm e)) q.1 (q.2.2 hjL).1 ?_⟩⟩)
        (swap hro hoj (far j oj hoj e hun hnot) (fun cs b => hn i oi cs b hi) (fun cs b => hn j oj cs b hoj) hQ s (H.2 j (ready_mono hj e)))
      · by_cases hjm : j = m
        · subst hjm; exact hun
        · rwa [getD_set_ne true hjm] at hun'
      · rw [Array.setIfInBounds_comm _ _ e]
        exact (q.2.2 hjL).2
/-- Take operation i now; p: the way from L to i along what waits. -/
theorem AnyS.take {i : Nat} {oi : Oper} {v : Value} {k : Nat} {listed : Array Bool} {a : Act} {w : World} (p : List Nat) (hro : F.round = none) (hi : ops[i]? = some oi) (hs : Region.noSelect ops = true) (hf : Region.free md ops listed i = true)
    (hr : (Region.ready md ops listed).contains i = true) (hiL : Nat.beq i L = false) (hp : waits md ops (L :: p) = true) (he : (L :: p).getLastD 0 = i) (hc : closedB md ops listed = true)
    (hQ : ∀ c a w, Q (.panic c) (a.put oi.dst v) w → Q (.panic c) a w) (hy : YieldsIf P ops S oi v a) (hab : ∀ w, oi.about P w a.eval = none) (hS : S w)
    (h : AnyS F n P md ops Q S L k (listed.setIfInBounds i true) (a.put oi.dst v) w) : AnyS F n P md ops Q S L (k + 1) listed a w :=
  AnyS.first hro hi (Region.noSelect_spec hs) hQ (fun e => by subst e; simp at hiL) hp he k listed a w (Region.free_spec hi hf) (closed_of hc) (by simpa using hr) ⟨hy, hab⟩ hS h
/-- The late operation: from here on any order. -/
theorem AnyS.late {i : Nat} {o : Oper} {k : Nat} {listed : Array Bool} {a : Act} {w : World} (hr : Region.ready md ops listed = [i]) (ho : ops[i]? = some o) (hw : Region.wanted o (yielded ops a.tmps) = true) (hL : i = L)
    (h : ∀ K : Act → World → Prop, (∀ b u, wpAnyIn F n P md ops Q k (listed.setIfInBounds i true) b u → K b u) → o.wpIn F n P a w K Q) : AnyS F n P md ops Q S L (k + 1) listed a w := by
  refine ⟨fun e => absurd (hr.symm.trans e) (by simp), fun j hj => ?_⟩
  rw [hr] at hj
  obtain rfl : j = i := by simpa using hj
  unfold wpOpIn
  rw [ho]
  dsimp only
  rw [if_pos hw]
  exact h _ fun b u h1 => ⟨fun _ => h1, fun e => absurd hL e⟩
end
end Go.Proofs.Hin
