/- Mathematics. A range over a function whose iterator keeps boxes of its own: what holds where it yields must abide whatever lies above. A range over a function that yields what lies in memory that it has made: the contract says, too, what is true where it yields. Inside a fence: an operation of a region of open order may come first if it yields the same value in all worlds with a property that every operation of the region keeps. -/
import Derived.OrdersHeld
import Derived.OrdersIn
import Derived.RegionIn
import Derived.RangeFuncNested
import Derived.RangeFuncLeaves
namespace Go.Proofs.Hin
open Go
section
variable {F : Fence} {n : Nat} {P : Program} {ops : Array Oper} {Q : Exit → Act → World → Prop} {md : Region.Mode} {S : World → Prop} {L : Nat}
/-- It yields v in the worlds of S, and calls nothing. -/
def Sure (P : Program) (ops : Array Oper) (S : World → Prop) (o : Oper) (v : Value) (a : Act) : Prop := YieldsIf P ops S o v a ∧ ∀ w, o.about P w a.eval = none
theorem Sure.now {i : Nat} {o : Oper} {v : Value} {a : Act} {w : World} {K : Act → World → Prop} (hro : F.round = none) (hi : ops[i]? = some o) (s : Sure P ops S o v a) (hS : S w) (h : K (a.put o.dst v) w) :
    wpOpIn F n P ops Q i K a w := by
  have free : ∀ f, o.about P w a.eval = some f → F.fn f := fun f e => absurd ((s.2 w).symm.trans e) (by simp)
  rw [show wpOpIn F n P ops Q i K a w = (if Region.wanted o (yielded ops a.tmps) then o.wpIn F n P a w K Q else (∀ f, o.about P w a.eval = some f → F.fn f) ∧ K (a.put o.dst undef) w) by unfold wpOpIn; rw [hi]]
  rcases s.1 with ⟨e, r⟩ | ⟨e, rfl⟩
  · rw [if_pos e]
    unfold Oper.wpIn
    rw [hro, Oper.semAt_none, r w hS]
    exact ⟨free, h⟩
  · rw [if_neg (by rw [e]; simp)]
    exact ⟨free, h⟩
/-- Every order, and S behind each operation but L, behind which nothing is asked. -/
def AnyS (F : Fence) (n : Nat) (P : Program) (md : Region.Mode) (ops : Array Oper) (Q : Exit → Act → World → Prop) (S : World → Prop) (L : Nat) : Nat → Array Bool → Act → World → Prop
  | 0, listed, a, w => Region.ready md ops listed = [] ∧ Q .normal a w
  | k + 1, listed, a, w => (Region.ready md ops listed = [] → Q .normal a w) ∧ ∀ i ∈ Region.ready md ops listed, wpOpIn F n P ops Q i (fun b u => (i = L → wpAnyIn F n P md ops Q k (listed.setIfInBounds i true) b u) ∧ (i ≠ L → S u ∧ AnyS F n P md ops Q S L k (listed.setIfInBounds i true) b u)) a w
theorem AnyS.plain (k : Nat) : ∀ (listed : Array Bool) (a : Act) (w : World), AnyS F n P md ops Q S L k listed a w → wpAnyIn F n P md ops Q k listed a w := by
  induction k with
  | zero => exact fun _ _ _ h => h
  | succ k ih => exact fun _ _ _ h => ⟨h.1, fun i hi => wpOpIn_mono (fun b u q => if e : i = L then q.1 e else ih _ b u (q.2 e).2) (h.2 i hi)⟩
/-- What is listed, is listed with all that it waits for. -/
def Closed (md : Region.Mode) (ops : Array Oper) (listed : Array Bool) : Prop := ∀ j oj, ops[j]? = some oj → listed.getD j false = true → ∀ e ∈ oj.after, Region.binds md e = true → listed.getD e.on false = true
theorem closed_none (k : Nat) : Closed md ops (Array.replicate k false) := fun j _ _ h => by
  by_cases c : j < k <;> simp [c] at h
theorem getD_tf {listed : Array Bool} {j : Nat} (h : listed.getD j true = false) : j < listed.size ∧ listed.getD j false = false := by
  rcases Nat.lt_or_ge j listed.size with c | c
  · simp [c] at h ⊢; exact h
  · simp [Array.getElem?_eq_none c] at h
theorem closed_set {listed : Array Bool} {j : Nat} (h : Closed md ops listed) (hj : j ∈ Region.ready md ops listed) : Closed md ops (listed.setIfInBounds j true) := by
  obtain ⟨_, oj, hoj, hall⟩ := mem_ready.1 hj
  intro m om hm hl e he hb
  by_cases c : j = m
  · subst c
    obtain rfl : oj = om := Option.some.inj (hoj.symm.trans hm)
    exact getD_set_true (hall e he hb)
  · rw [getD_set_ne false c] at hl
    exact getD_set_true (h m om hm hl e he hb)
def closedB (md : Region.Mode) (ops : Array Oper) (listed : Array Bool) : Bool := (List.range ops.size).all fun j => ((ops[j]?).map fun o => !listed.getD j false || o.after.all fun e => !Region.binds md e || listed.getD e.on false).getD true
theorem closed_of {listed : Array Bool} (h : closedB md ops listed = true) : Closed md ops listed := fun j oj hj hl e he hb => by
  have := List.all_eq_true.1 h j (List.mem_range.2 (Array.getElem?_eq_some_iff.1 hj).1)
  rw [hj] at this
  simp only [Option.map_some, Option.getD_some, Bool.or_eq_true, Bool.not_eq_true', Array.all_eq_true_iff_forall_mem] at this
  rcases this with c | c
  · rw [hl] at c; cases c
  · rcases c e he with c | c
    · rw [hb] at c; cases c
    · exact c
/-- Each of these waits for the next one. -/
def waits (md : Region.Mode) (ops : Array Oper) : List Nat → Bool
  | a :: b :: t => ((ops[a]?).map fun o => o.after.any fun e => Region.binds md e && e.on == b).getD false && waits md ops (b :: t)
  | _ => true
theorem waits_listed {listed : Array Bool} (h : Closed md ops listed) : ∀ (t : List Nat) (a : Nat), waits md ops (a :: t) = true → listed.getD a false = true → listed.getD ((a :: t).getLastD 0) false = true
  | [], _, _, hl => hl
  | b :: t, a, hw, hl => by
    simp only [waits, Bool.and_eq_true] at hw
    obtain ⟨h1, h2⟩ := hw
    cases ho : ops[a]? with
    | none => rw [ho] at h1; simp at h1
    | some o =>
      rw [ho] at h1
      simp only [Option.map_some, Option.getD_some, Array.any_eq_true, Bool.and_eq_true, beq_iff_eq] at h1
      obtain ⟨k, hk, hb, rfl⟩ := h1
      have := waits_listed h t (o.after[k].on) h2 (h a o ho hl _ (Array.getElem_mem hk) hb)
      simpa using this
theorem not_ready {listed : Array Bool} (h : Closed md ops listed) {i : Nat} {p : List Nat} (hp : waits md ops (L :: p) = true) (he : (L :: p).getLastD 0 = i) (hne : i ≠ L) (hi : listed.getD i true = false) : L ∉ Region.ready md ops listed := fun hL => by
  have h1 := getD_tf (mem_ready.1 hL).1
  have h2 := waits_listed (closed_set h hL) p L hp (by simp [h1.1])
  rw [he, getD_set_ne false (Ne.symm hne), (getD_tf hi).2] at h2
  cases h2
theorem AnyS.start {id : Nat} {a : Act} {w : World} (hm : P.follows .mixedOrders = true) (S : World → Prop) (L : Nat) (h : AnyS F n P .any ops Q S L ops.size (Array.replicate ops.size false) a { w with drawn := w.drawn + 1 }) :
    (Code.region id ops true).wpIn F n P Q a w := wpIn_region_any hm (h.plain _ _ _ _)
theorem AnyS.done {listed : Array Bool} {a : Act} {w : World} (hr : Region.ready md ops listed = []) (h : Q .normal a w) (k : Nat) : AnyS F n P md ops Q S L k listed a w := by
  cases k with
  | zero => exact ⟨hr, h⟩
  | succ k => exact ⟨fun _ => h, fun i hi => absurd (hr ▸ hi) (by simp)⟩
/-- Another operation than i, behind i's value or ahead of it. -/
theorem swap {j : Nat} {oi oj : Oper} {v : Value} (hro : F.round = none) (hj : ops[j]? = some oj) (hap : oi.apart ops oj = true) (ni : ∀ cs b, oi.op ≠ .select cs b) (nj : ∀ cs b, oj.op ≠ .select cs b)
    (hQ : ∀ c a w, Q (.panic c) (a.put oi.dst v) w → Q (.panic c) a w) {K : Act → World → Prop} {a : Act} {w : World} (s : Sure P ops S oi v a) (h : wpOpIn F n P ops Q j K (a.put oi.dst v) w) :
    wpOpIn F n P ops Q j (fun b u => Sure P ops S oi v b ∧ K (b.put oi.dst v) u) a w := by
  obtain ⟨q1, q2, q3⟩ := Oper.apart_spec hap
  have put : ∀ b : Act, Sure P ops S oi v b → ∀ u, Sure P ops S oi v (b.put oj.dst u) := fun b hb u =>
    ⟨hb.1.of_same (execOp_put oi ni b oj.dst u q3) (wanted_put oi b oj.dst u q3), fun w => by rw [about_put oi w b oj.dst u q3]; exact hb.2 w⟩
  have dfr : ∀ d, Sure P ops S oi v { a with defers := d :: a.defers } := fun d => ⟨s.1.of_same rfl rfl, s.2⟩
  have swp : ∀ u, (a.put oj.dst u).put oi.dst v = (a.put oi.dst v).put oj.dst u := fun u => (Act.put_comm a v u q2).symm
  unfold wpOpIn at h ⊢
  rw [hj] at h ⊢
  dsimp only at h ⊢
  rw [wanted_put oj a oi.dst v q1, about_put oj w a oi.dst v q1] at h
  by_cases hw : Region.wanted oj (yielded ops a.tmps) = true
  · rw [if_pos hw] at h ⊢
    unfold Oper.wpIn at h ⊢
    rw [about_put oj w a oi.dst v q1, hro, Oper.semAt_none, execOp_put oj nj a oi.dst v q1] at h
    rw [hro, Oper.semAt_none]
    refine ⟨h.1, ?_⟩
    replace h := h.2
    cases hr : (execOp a.eval oj).run P w with
    | halt x u =>
      rw [hr] at h
      cases x <;> simp only [Oper.uponIn] at h ⊢
      exact hQ _ _ _ h
    | ok x u =>
      rw [hr] at h
      cases x <;> simp only [Oper.uponIn] at h ⊢
      case value y => exact ⟨put a s y, by rw [swp]; exact h⟩
      case skip => exact ⟨put a s _, by rw [swp]; exact h⟩
      case defer d =>
        refine ⟨⟨(dfr d).1.of_same (execOp_put oi ni _ oj.dst undef q3) (wanted_put oi _ oj.dst undef q3), fun w => by rw [about_put oi w _ oj.dst undef q3]; exact (dfr d).2 w⟩, ?_⟩
        rw [← Act.put_comm _ v undef q2, ← Act.put_defers]
        exact h
      case enter f args =>
        refine ⟨h.1, CallsIn.mono h.2 fun e u' he => ?_⟩
        cases e with
        | returned y => exact ⟨put a s y, by rw [swp]; exact he⟩
        | panicked c => exact hQ _ _ _ he
        | outgrown => exact he
      case row row args => exact ⟨h.1, RowsIn.mono h.2 fun y u' he => ⟨put a s y, by rw [swp]; exact he⟩⟩
      case round l f tmps assign body =>
        refine ⟨h.1, RoundIn.mono h.2 fun e u' he => ?_⟩
        cases e with
        | returned y => exact ⟨put a s y, by rw [swp]; exact he⟩
        | panicked c => exact hQ _ _ _ he
        | outgrown => exact he
  · rw [if_neg hw] at h ⊢
    exact ⟨h.1, put a s _, by rw [swp]; exact h.2⟩
theorem AnyS.first {i : Nat} {oi : Oper} {v : Value} (hro : F.round = none) (hi : ops[i]? = some oi) (hn : ∀ (j : Nat) (o : Oper) cs b, ops[j]? = some o → o.op ≠ .select cs b)
    (hQ : ∀ c a w, Q (.panic c) (a.put oi.dst v) w → Q (.panic c) a w) (hiL : i ≠ L) {p : List Nat} (hp : waits md ops (L :: p) = true) (he : (L :: p).getLastD 0 = i) (k : Nat) : ∀ (listed : Array Bool) (a : Act) (w : World),
      (∀ j oj, ops[j]? = some oj → j ≠ i → listed.getD j true = false → (∀ e ∈ oj.after, Region.binds md e = true → e.on ≠ i) → oi.apart ops oj = true) →
      Closed md ops listed → i ∈ Region.ready md ops listed → Sure P ops S oi v a → S w → AnyS F n P md ops Q S L k (listed.setIfInBounds i true) (a.put oi.dst v) w → AnyS F n P md ops Q S L (k + 1) listed a w := by
  induction k with
  | zero =>
    intro listed a w _ _ hr s hS H
    refine ⟨fun e => absurd (e ▸ hr) (by simp), fun j hj => ?_⟩
    by_cases e : j = i
    · subst e; exact s.now hro hi hS ⟨fun e => absurd e hiL, fun _ => ⟨hS, H⟩⟩
    · exact absurd (H.1 ▸ ready_mono hj e) (by simp)
  | succ k ih =>
    intro listed a w far hc hr s hS H
    refine ⟨fun e => absurd (e ▸ hr) (by simp), fun j hj => ?_⟩
    by_cases e : j = i
    · subst e; exact s.now hro hi hS ⟨fun e => absurd e hiL, fun _ => ⟨hS, H⟩⟩
    · obtain ⟨hun, oj, hoj, hall⟩ := mem_ready.1 hj
      have hni : listed.getD i true = false := (mem_ready.1 hr).1
      have hnot : ∀ e ∈ oj.after, Region.binds md e = true → e.on ≠ i := fun e he hb heq => by
        have h1 := hall e he hb
        rw [heq] at h1
        rcases Nat.lt_or_ge i listed.size with h' | h'
        · simp [h'] at hni h1
          rw [hni] at h1
          cases h1
        · simp [Array.getElem?_eq_none h'] at h1
      have hjL : j ≠ L := fun e => not_ready hc hp he hiL hni (e ▸ hj)
      refine wpOpIn_mono (fun b u q => ⟨fun e => absurd e hjL, fun _ => ⟨(q.2.2 hjL).1, ih (listed.setIfInBounds j true) b u (fun m om hm hmi hun' hno => far m om hm hmi ?_ hno) (closed_set hc hj) (ready_mono hr (Ne.symm e)) q.1 (q.2.2 hjL).1 ?_⟩⟩)
        (swap hro hoj (far j oj hoj e hun hnot) (fun cs b => hn i oi cs b hi) (fun cs b => hn j oj cs b hoj) hQ s (H.2 j (ready_mono hj e)))
      · by_cases hjm : j = m
        · subst hjm; exact hun
        · rwa [getD_set_ne true hjm] at hun'
      · rw [Array.setIfInBounds_comm _ _ e]
        exact (q.2.2 hjL).2
/-- Take operation i now; p: the way from L to i along what waits. -/
theorem AnyS.take {i : Nat} {oi : Oper} {v : Value} {k : Nat} {listed : Array Bool} {a : Act} {w : World} (p : List Nat) (hro : F.round = none) (hi : ops[i]? = some oi) (hs : Region.noSelect ops = true) (hf : Region.free md ops listed i = true)
    (hr : (Region.ready md ops listed).contains i = true) (hiL : Nat.beq i L = false) (hp : waits md ops (L :: p) = true) (he : (L :: p).getLastD 0 = i) (hc : closedB md ops listed = true)
    (hQ : ∀ c a w, Q (.panic c) (a.put oi.dst v) w → Q (.panic c) a w) (hy : YieldsIf P ops S oi v a) (hab : ∀ w, oi.about P w a.eval = none) (hS : S w)
    (h : AnyS F n P md ops Q S L k (listed.setIfInBounds i true) (a.put oi.dst v) w) : AnyS F n P md ops Q S L (k + 1) listed a w :=
  AnyS.first hro hi (Region.noSelect_spec hs) hQ (fun e => by subst e; simp at hiL) hp he k listed a w (Region.free_spec hi hf) (closed_of hc) (by simpa using hr) ⟨hy, hab⟩ hS h
/-- The late operation: from here on any order. -/
theorem AnyS.late {i : Nat} {o : Oper} {k : Nat} {listed : Array Bool} {a : Act} {w : World} (hr : Region.ready md ops listed = [i]) (ho : ops[i]? = some o) (hw : Region.wanted o (yielded ops a.tmps) = true) (hL : i = L)
    (h : ∀ K : Act → World → Prop, (∀ b u, wpAnyIn F n P md ops Q k (listed.setIfInBounds i true) b u → K b u) → o.wpIn F n P a w K Q) : AnyS F n P md ops Q S L (k + 1) listed a w := by
  refine ⟨fun e => absurd (hr.symm.trans e) (by simp), fun j hj => ?_⟩
  rw [hr] at hj
  obtain rfl : j = i := by simpa using hj
  unfold wpOpIn
  rw [ho]
  dsimp only
  rw [if_pos hw]
  exact h _ fun b u h1 => ⟨fun _ => h1, fun e => absurd hL e⟩
end
end Go.Proofs.Hin
namespace Go.Proofs.YthifcalemhpmoaaGreat
open Go.RowKit
/-- An iterator yields xs one after another; where it yields x, Y x holds; a round that goes on keeps Kp. -/
def SeqY {α : Type} (F : Fence) (n : Nat) (P : Program) (g : Nat) (lb : Array Value) (encs : α → Array Value) (Kp : World → World → Prop) (Y : α → World → Prop) (S Sp : List α → Prop) (w : World) : Prop :=
  ∀ (l : Nat) (J Jx : List α → World → Prop) (W : World), Below w.heap.size w W → w.heap.size + 2 ≤ W.heap.size → l < W.heap.size → OwnFrom W.heap.size J → OwnFrom W.heap.size Jx → J [] W →
    (∀ xs x V, J xs V → Y x V → YieldAt F (n - 1) P l (encs x) V fun e V' => (e = .returned (.bool true) ∧ J (xs ++ [x]) V' ∧ Kp V V') ∨ (e = .returned (.bool false) ∧ Jx (xs ++ [x]) V' ∧ KeepsFrom (l + 1) V V')) →
    CallsIn F n P g (#[.func (.yield l) #[] #[]] ++ lb) W fun e V => (∃ v, e = .returned v) ∧ ((∃ xs, S xs ∧ J xs V) ∨ ∃ xs, Sp xs ∧ Jx xs V)
/-- The two blocks that a loop lays ahead of its rounds. -/
def TwoBk (B : Nat) (r : Loop) (V : World) : Prop := V.heap[B]? = some (.deferred (some [])) ∧ V.heap[B + 1]? = some (.loop r)
theorem TwoBk.turn {B : Nat} {r r' : Loop} {V : World} (h : TwoBk B r V) : TwoBk B r' (V.putObj (B + 1) (.loop r')) :=
  ⟨(World.putObj_heap_other (by omega)).trans h.1, World.putObj_heap_same (Array.getElem?_eq_some_iff.1 h.2).1⟩
theorem TwoBk.kept {B : Nat} {r : Loop} {V V' : World} (h : TwoBk B r V) (k : KeepsFrom B V V') : TwoBk B r V' := ⟨k.same _ _ (Nat.le_refl _) h.1 rfl, k.same _ _ (by omega) h.2 rfl⟩
theorem TwoBk.walks {B : Nat} {r : Loop} {V V' : World} {row : Option Nat} (h : TwoBk B r V) (g : V.grownBy V' row) (k : ∀ j, row = some j → ∃ o : Obj, V.heap[j]? = some o ∧ o.isWalk = true) : TwoBk B r V' :=
  ⟨(grownBy_keeps g k h.1 rfl).trans h.1, (grownBy_keeps g k h.2 rfl).trans h.2⟩
theorem TwoBk.far {B : Nat} {r : Loop} {V V' : World} {row : Option Nat} (h : TwoBk B r V) (g : V.grownBy V' row) (k : ∀ j, row = some j → B + 1 < j) : TwoBk B r V' :=
  ⟨(g.block _ (Array.getElem?_eq_some_iff.1 h.1).1 (fun e => by have := k _ e.symm; omega)).trans h.1, (g.block _ (Array.getElem?_eq_some_iff.1 h.2).1 (fun e => by have := k _ e.symm; omega)).trans h.2⟩
theorem TwoBk.new (w : World) (r : Loop) : TwoBk w.heap.size r ((w.alloc (.deferred (some []))).alloc (.loop r)) := by
  constructor
  · exact (Below.heap_alloc _ _ _ (by simp)).trans (World.alloc_heap_new w _)
  · have t := World.alloc_heap_new (w.alloc (.deferred (some []))) (.loop r)
    rwa [World.size_alloc] at t
theorem own_turn {β : Type} {B : Nat} {I : β → World → Prop} (hI : OwnFrom B I) {s : β} {V : World} {r : Loop} (h : TwoBk B r V) (r' : Loop) (hs : I s V) : I s (V.putObj (B + 1) (.loop r')) := hI.putObj _ hs (by omega) h.2 rfl
theorem kf_mono {n m : Nat} {W W' : World} (h : KeepsFrom n W W') (hn : n ≤ m) : KeepsFrom m W W' := ⟨h.size, fun k o hk => h.same k o (Nat.le_trans hn hk)⟩
theorem kf_put {n : Nat} (W : World) (j : Nat) (o' : Obj) (hj : j < n) : KeepsFrom n W (W.putObj j o') := ⟨by simp, fun k ok hk hh _ => (World.putObj_heap_other (by omega)).trans hh⟩
theorem wpIn_rangeFunc_ownY {F : Fence} {n : Nat} {P : Program} {α : Type} {g : Operand} {ps : Array Tmp} {assign body : Code} {Q : Exit → Act → World → Prop} {a : Act} {w : World}
    (hro : F.round = none) (h1 : 1 ≤ n) {gf : Nat} {lb : Array Value} (hg : a.eval g = .func (.func gf) #[] lb) (hFg : F.fn gf) (eg : ∀ args w, (callFunc gf args).run P w = .ok (.enter gf args) w)
    {encs : α → Array Value} {Kp : World → World → Prop} {Y : α → World → Prop} {S Sp : List α → Prop} {w0 : World} (hseq : SeqY F (n - 1) P gf lb encs Kp Y S Sp w0) (hb0 : Below w0.heap.size w0 w)
    (hKt : ∀ {A B C : World}, Kp A B → Kp B C → Kp A C) (hKb : ∀ (V : World) (o o' : Obj), V.heap[w.heap.size + 1]? = some o → o.isCells = false → o.isWalk = false → Kp V (V.putObj (w.heap.size + 1) o')) (hps : ∀ x, (encs x).size = ps.size)
    (I : List α → World → Prop) (Ix : Code → List α → World → Prop) (hI : OwnFrom w.heap.size I) (hIx : ∀ c, OwnFrom w.heap.size (Ix c)) (h0 : I [] w) (Ax : List α → α → Act → World → Prop) (hAx : ∀ xs x a', OwnFrom w.heap.size (fun (_ : Unit) W => Ax xs x a' W))
    (hassign : ∀ (l : Nat) (xs : List α) (x : α) (V : World) (K : Act → World → Prop), I xs V → Y x V → (∀ a' V', KeepsFrom w.heap.size V V' → Kp V V' → I xs V' → Ax xs x a' V' → K a' V') →
      assign.wpIn (F.inRound l) (n - 1 - 1) P (Exit.then K (fun _ _ _ => False)) { tmps := (ps.zip (encs x)).foldl (fun t (p, v) => t.setIfInBounds p v) a.tmps, defers := [] } V)
    (hbody : ∀ (l : Nat) (xs : List α) (x : α) (a' : Act) (V : World), w.heap.size ≤ l → (∃ r, V.heap[l]? = some (.loop r)) → I xs V → Ax xs x a' V → body.wpIn (F.inRound l) (n - 1 - 1) P (ownPostG w.heap.size Kp I Ix (xs ++ [x]) V) a' V)
    (hdone : ∀ (D : Nat) (xs : List α) (V : World), w.heap.size ≤ D → S xs → I xs V → V.heap[D]? = some (.deferred (some [])) → Q .normal { a with defers := { target := .collected D, args := #[] } :: a.defers } V)
    (hstop : ∀ (D : Nat) (c : Code) (xs : List α) (V : World), w.heap.size ≤ D → Sp xs → Ix c xs V → V.heap[D]? = some (.deferred (some [])) → c.wpIn F n P Q { a with defers := { target := .collected D, args := #[] } :: a.defers } V) :
    (Code.rangeFunc g ps assign body).wpIn F n P Q a w := by
  refine wpIn_rangeFunc fun fn hfn => ?_
  rw [hro]
  generalize hB : w.heap.size = B at *
  let R : LoopState → Option Code → Loop := fun st pe => { state := st, pending := pe, fn, tmps := a.tmps, params := ps, assign, body, defers := B }
  have hnew := TwoBk.new w (R .ready none)
  have henter : (Instr.enterLoop fn a.tmps ps assign body none).run P w = .ok (B + 1, [{ target := .collected B, args := #[] }]) ((w.alloc (.deferred (some []))).alloc (.loop (R .ready none))) := by
    have t := run_enterLoop_outer (P := P) (w := w) fn a.tmps ps assign body
    rw [hB] at t
    exact t
  have hV0 : I [] ((w.alloc (.deferred (some []))).alloc (.loop (R .ready none))) := hI.alloc _ (hI.alloc _ h0)
  have hbw : Below w0.heap.size w0 ((w.alloc (.deferred (some []))).alloc (.loop (R .ready none))) := (hb0.alloc hb0.size _).alloc (by simp; have := hb0.size; omega) _
  have hsz : B ≤ ((w.alloc (.deferred (some []))).alloc (.loop (R .ready none))).heap.size := by simp; omega
  generalize (w.alloc (.deferred (some []))).alloc (.loop (R .ready none)) = V0 at *
  rw [hB] at hnew
  refine ⟨B + 1, _, V0, { target := .fn (.func gf) lb, args := #[.func (.yield (B + 1)) #[] #[]] }, V0, gf, #[.func (.yield (B + 1)) #[] #[]] ++ lb, V0, henter, ?_, ?_, ?_, fun _ => h1, ?_⟩
  · simp only [resolve, hg]; simp [go_sem]
  · intro f' hf'; simp [Target.leads] at hf'; exact hf' ▸ hFg
  · simp [invoke, go_sem, eg]
  have hlt : B + 1 < V0.heap.size := (Array.getElem?_eq_some_iff.1 hnew.2).1
  have hw2 : w0.heap.size + 2 ≤ V0.heap.size := by have := hb0.size; omega
  refine (hseq (B + 1) (fun xs V => TwoBk B (R .ready none) V ∧ I xs V) (fun xs V => ∃ c, TwoBk B (R .done (some c)) V ∧ Ix c xs V) V0 hbw hw2 hlt ?_ ?_ ⟨hnew, hV0⟩ ?_).mono ?_
  · exact fun s U U' row hs gr hr => ⟨hs.1.far gr (fun j e => Nat.lt_of_lt_of_le hlt (hr j e).1), hI _ _ _ _ hs.2 gr (fun j e => ⟨Nat.le_trans hsz (hr j e).1, (hr j e).2⟩)⟩
  · exact fun s U U' row ⟨c, h2, hs⟩ gr hr => ⟨c, h2.far gr (fun j e => Nat.lt_of_lt_of_le hlt (hr j e).1), hIx c _ _ _ _ hs gr (fun j e => ⟨Nat.le_trans hsz (hr j e).1, (hr j e).2⟩)⟩
  · rintro xs x V ⟨h2, hi⟩ hy
    refine ⟨fn, _, assign, body, run_yield (P := P) (r := R .ready none) h2.2 (hps x), roundIn_of_wpIn hfn (hassign _ xs x V _ hi hy ?_)⟩
    intro a' V1 kf kp hi1 hax
    have h3 := h2.kept kf
    refine ⟨_, run_beginRound h3.2 rfl, ?_⟩
    have h4 : TwoBk B { R .ready none with state := .busy } (V1.putObj (B + 1) (.loop { R .ready none with state := .busy })) := h3.turn
    have kb := hKb V1 _ (.loop { R .ready none with state := .busy }) h3.2 rfl rfl
    refine wpIn_mono (hbody _ xs x a' _ (by omega) ⟨_, h4.2⟩ (own_turn hI h3 _ hi1) (own_turn (hAx xs x a') h3 _ (s := ()) hax)) ?_
    have fin : ∀ (jump : Option Code) {V2 : World}, KeepsFrom B (V1.putObj (B + 1) (.loop { R .ready none with state := .busy })) V2 →
        TwoBk B { R .ready none with state := .busy } V2 ∧ (Instr.endRound (B + 1) jump).run P V2 = .ok (.bool jump.isNone) (V2.putObj (B + 1) (.loop (R (if jump.isNone then .ready else .done) jump))) := fun jump V2 k2 =>
      ⟨h4.kept k2, run_endRound (P := P) jump (h4.kept k2).2⟩
    have left : ∀ (c : Code) {V2 : World}, KeepsFrom B (V1.putObj (B + 1) (.loop { R .ready none with state := .busy })) V2 → Ix c (xs ++ [x]) V2 →
        ∃ v V3, (Instr.endRound (B + 1) (some c)).run P V2 = .ok v V3 ∧ ((Ending.returned v = .returned (.bool true) ∧ (TwoBk B (R .ready none) V3 ∧ I (xs ++ [x]) V3) ∧ Kp V V3) ∨ (Ending.returned v = .returned (.bool false) ∧ (∃ c, TwoBk B (R .done (some c)) V3 ∧ Ix c (xs ++ [x]) V3) ∧ KeepsFrom (B + 1 + 1) V V3)) := fun c V2 k2 hx =>
      ⟨_, _, (fin (some c) k2).2, .inr ⟨rfl, ⟨c, (fin (some c) k2).1.turn, own_turn (hIx c) (fin (some c) k2).1 _ hx⟩, (kf_mono kf (by omega)).trans ((kf_put _ _ _ (by omega)).trans ((kf_mono k2 (by omega)).trans (kf_put _ _ _ (by omega))))⟩⟩
    intro e a2 V2 hp
    match e, hp with
    | .normal, ⟨k2, kp2, hi2⟩ =>
      exact ⟨_, _, (fin none k2).2, .inl ⟨rfl, ⟨(fin none k2).1.turn, own_turn hI (fin none k2).1 _ hi2⟩, hKt kp (hKt (hKt kb kp2) (hKb _ _ _ (fin none k2).1.2 rfl rfl))⟩⟩
    | .ret, ⟨k2, hx⟩ => exact left _ k2 hx
    | .exit _, ⟨k2, hx⟩ => exact left _ k2 hx
    | .goto _, ⟨k2, hx⟩ => exact left _ k2 hx
    | .panic _, hp => exact hp.elim
    | .outgrown, hp => exact hp.elim
  · rintro e V ⟨⟨v, rfl⟩, ⟨xs, hS, h2, hi⟩ | ⟨xs, hS, c, h2, hi⟩⟩
    · exact ⟨none, _, run_endLoop (P := P) h2.2 (by simp [R]), hdone B xs _ (Nat.le_refl _) hS (own_turn hI h2 _ hi) ((World.putObj_heap_other (by omega)).trans h2.1)⟩
    · exact ⟨some c, _, run_endLoop (P := P) h2.2 (by simp [R]), hstop B c xs _ (Nat.le_refl _) hS (own_turn (hIx c) h2 _ hi) ((World.putObj_heap_other (by omega)).trans h2.1)⟩
theorem at_wpIn {F : Fence} {n : Nat} {P : Program} {c : Code} {Q : Exit → Act → World → Prop} {a : Act} {w : World} (h : ∀ w', w' = w → c.wpIn F n P Q a w') : c.wpIn F n P Q a w := h w rfl
end Go.Proofs.YthifcalemhpmoaaGreat
namespace Go.Proofs.YthifcalemhpmoaaGreat
open Go.RowKit
/-- What abides any change from a block on. -/
def BeInv {β : Type} (B : Nat) (I : β → World → Prop) : Prop := ∀ s W W', I s W → Below B W W' → I s W'
/-- An iterator yields xs one after another; where it yields x, Y x holds; a round that goes on keeps Kp. Its caller's invariant abides changes of blocks from its call on. -/
def SeqZ {α : Type} (F : Fence) (n : Nat) (P : Program) (g : Nat) (lb : Array Value) (encs : α → Array Value) (Kp : World → World → Prop) (Y : α → World → Prop) (S Sp : List α → Prop) (w : World) : Prop :=
  ∀ (l : Nat) (J Jx : List α → World → Prop) (W : World), Below w.heap.size w W → w.heap.size + 2 ≤ W.heap.size → l < W.heap.size → BeInv W.heap.size J → BeInv W.heap.size Jx → J [] W →
    (∀ xs x V, J xs V → Y x V → YieldAt F (n - 1) P l (encs x) V fun e V' => (e = .returned (.bool true) ∧ J (xs ++ [x]) V' ∧ Kp V V') ∨ (e = .returned (.bool false) ∧ Jx (xs ++ [x]) V' ∧ KeepsFrom (l + 1) V V')) →
    CallsIn F n P g (#[.func (.yield l) #[] #[]] ++ lb) W fun e V => (∃ v, e = .returned v) ∧ ((∃ xs, S xs ∧ J xs V) ∨ ∃ xs, Sp xs ∧ Jx xs V)
theorem TwoBk.below {B n : Nat} {r : Loop} {V V' : World} (h : TwoBk B r V) (b : Below n V V') (hn : B + 1 < n) : TwoBk B r V' :=
  ⟨(b.block B (by omega)).trans h.1, (b.block (B + 1) (by omega)).trans h.2⟩
theorem wpIn_rangeFunc_ownZ {F : Fence} {n : Nat} {P : Program} {α : Type} {g : Operand} {ps : Array Tmp} {assign body : Code} {Q : Exit → Act → World → Prop} {a : Act} {w : World}
    (hro : F.round = none) (h1 : 1 ≤ n) {gf : Nat} {lb : Array Value} (hg : a.eval g = .func (.func gf) #[] lb) (hFg : F.fn gf) (eg : ∀ args w, (callFunc gf args).run P w = .ok (.enter gf args) w)
    {encs : α → Array Value} {Kp : World → World → Prop} {Y : α → World → Prop} {S Sp : List α → Prop} {w0 : World} (hseq : SeqZ F (n - 1) P gf lb encs Kp Y S Sp w0) (hb0 : Below w0.heap.size w0 w)
    (hKt : ∀ {A B C : World}, Kp A B → Kp B C → Kp A C) (hKb : ∀ (V : World) (o o' : Obj), V.heap[w.heap.size + 1]? = some o → o.isCells = false → o.isWalk = false → Kp V (V.putObj (w.heap.size + 1) o')) (hps : ∀ x, (encs x).size = ps.size)
    (I : List α → World → Prop) (Ix : Code → List α → World → Prop) (hI : OwnFrom w.heap.size I) (hIx : ∀ c, OwnFrom w.heap.size (Ix c)) (hIb : ∀ n, w.heap.size + 2 ≤ n → BeInv n I) (hIxb : ∀ c n, w.heap.size + 2 ≤ n → BeInv n (Ix c)) (h0 : I [] w) (Ax : List α → α → Act → World → Prop) (hAx : ∀ xs x a', OwnFrom w.heap.size (fun (_ : Unit) W => Ax xs x a' W))
    (hassign : ∀ (l : Nat) (xs : List α) (x : α) (V : World) (K : Act → World → Prop), I xs V → Y x V → (∀ a' V', KeepsFrom w.heap.size V V' → Kp V V' → I xs V' → Ax xs x a' V' → K a' V') →
      assign.wpIn (F.inRound l) (n - 1 - 1) P (Exit.then K (fun _ _ _ => False)) { tmps := (ps.zip (encs x)).foldl (fun t (p, v) => t.setIfInBounds p v) a.tmps, defers := [] } V)
    (hbody : ∀ (l : Nat) (xs : List α) (x : α) (a' : Act) (V : World), w.heap.size ≤ l → (∃ r, V.heap[l]? = some (.loop r)) → I xs V → Ax xs x a' V → body.wpIn (F.inRound l) (n - 1 - 1) P (ownPostG w.heap.size Kp I Ix (xs ++ [x]) V) a' V)
    (hdone : ∀ (D : Nat) (xs : List α) (V : World), w.heap.size ≤ D → S xs → I xs V → V.heap[D]? = some (.deferred (some [])) → Q .normal { a with defers := { target := .collected D, args := #[] } :: a.defers } V)
    (hstop : ∀ (D : Nat) (c : Code) (xs : List α) (V : World), w.heap.size ≤ D → Sp xs → Ix c xs V → V.heap[D]? = some (.deferred (some [])) → c.wpIn F n P Q { a with defers := { target := .collected D, args := #[] } :: a.defers } V) :
    (Code.rangeFunc g ps assign body).wpIn F n P Q a w := by
  refine wpIn_rangeFunc fun fn hfn => ?_
  rw [hro]
  generalize hB : w.heap.size = B at *
  let R : LoopState → Option Code → Loop := fun st pe => { state := st, pending := pe, fn, tmps := a.tmps, params := ps, assign, body, defers := B }
  have hnew := TwoBk.new w (R .ready none)
  have henter : (Instr.enterLoop fn a.tmps ps assign body none).run P w = .ok (B + 1, [{ target := .collected B, args := #[] }]) ((w.alloc (.deferred (some []))).alloc (.loop (R .ready none))) := by
    have t := run_enterLoop_outer (P := P) (w := w) fn a.tmps ps assign body
    rw [hB] at t
    exact t
  have hV0 : I [] ((w.alloc (.deferred (some []))).alloc (.loop (R .ready none))) := hI.alloc _ (hI.alloc _ h0)
  have hbw : Below w0.heap.size w0 ((w.alloc (.deferred (some []))).alloc (.loop (R .ready none))) := (hb0.alloc hb0.size _).alloc (by simp; have := hb0.size; omega) _
  have hsz : B + 2 ≤ ((w.alloc (.deferred (some []))).alloc (.loop (R .ready none))).heap.size := by simp; omega
  generalize (w.alloc (.deferred (some []))).alloc (.loop (R .ready none)) = V0 at *
  rw [hB] at hnew
  refine ⟨B + 1, _, V0, { target := .fn (.func gf) lb, args := #[.func (.yield (B + 1)) #[] #[]] }, V0, gf, #[.func (.yield (B + 1)) #[] #[]] ++ lb, V0, henter, ?_, ?_, ?_, fun _ => h1, ?_⟩
  · simp only [resolve, hg]; simp [go_sem]
  · intro f' hf'; simp [Target.leads] at hf'; exact hf' ▸ hFg
  · simp [invoke, go_sem, eg]
  have hlt : B + 1 < V0.heap.size := (Array.getElem?_eq_some_iff.1 hnew.2).1
  have hw2 : w0.heap.size + 2 ≤ V0.heap.size := by have := hb0.size; omega
  refine (hseq (B + 1) (fun xs V => TwoBk B (R .ready none) V ∧ I xs V) (fun xs V => ∃ c, TwoBk B (R .done (some c)) V ∧ Ix c xs V) V0 hbw hw2 hlt ?_ ?_ ⟨hnew, hV0⟩ ?_).mono ?_
  · exact fun s U U' hs hb => ⟨hs.1.below hb hlt, hIb _ (by omega) s U U' hs.2 hb⟩
  · exact fun s U U' ⟨c, h2, hs⟩ hb => ⟨c, h2.below hb hlt, hIxb c _ (by omega) s U U' hs hb⟩
  · rintro xs x V ⟨h2, hi⟩ hy
    refine ⟨fn, _, assign, body, run_yield (P := P) (r := R .ready none) h2.2 (hps x), roundIn_of_wpIn hfn (hassign _ xs x V _ hi hy ?_)⟩
    intro a' V1 kf kp hi1 hax
    have h3 := h2.kept kf
    refine ⟨_, run_beginRound h3.2 rfl, ?_⟩
    have h4 : TwoBk B { R .ready none with state := .busy } (V1.putObj (B + 1) (.loop { R .ready none with state := .busy })) := h3.turn
    have kb := hKb V1 _ (.loop { R .ready none with state := .busy }) h3.2 rfl rfl
    refine wpIn_mono (hbody _ xs x a' _ (by omega) ⟨_, h4.2⟩ (own_turn hI h3 _ hi1) (own_turn (hAx xs x a') h3 _ (s := ()) hax)) ?_
    have fin : ∀ (jump : Option Code) {V2 : World}, KeepsFrom B (V1.putObj (B + 1) (.loop { R .ready none with state := .busy })) V2 →
        TwoBk B { R .ready none with state := .busy } V2 ∧ (Instr.endRound (B + 1) jump).run P V2 = .ok (.bool jump.isNone) (V2.putObj (B + 1) (.loop (R (if jump.isNone then .ready else .done) jump))) := fun jump V2 k2 =>
      ⟨h4.kept k2, run_endRound (P := P) jump (h4.kept k2).2⟩
    have left : ∀ (c : Code) {V2 : World}, KeepsFrom B (V1.putObj (B + 1) (.loop { R .ready none with state := .busy })) V2 → Ix c (xs ++ [x]) V2 →
        ∃ v V3, (Instr.endRound (B + 1) (some c)).run P V2 = .ok v V3 ∧ ((Ending.returned v = .returned (.bool true) ∧ (TwoBk B (R .ready none) V3 ∧ I (xs ++ [x]) V3) ∧ Kp V V3) ∨ (Ending.returned v = .returned (.bool false) ∧ (∃ c, TwoBk B (R .done (some c)) V3 ∧ Ix c (xs ++ [x]) V3) ∧ KeepsFrom (B + 1 + 1) V V3)) := fun c V2 k2 hx =>
      ⟨_, _, (fin (some c) k2).2, .inr ⟨rfl, ⟨c, (fin (some c) k2).1.turn, own_turn (hIx c) (fin (some c) k2).1 _ hx⟩, (kf_mono kf (by omega)).trans ((kf_put _ _ _ (by omega)).trans ((kf_mono k2 (by omega)).trans (kf_put _ _ _ (by omega))))⟩⟩
    intro e a2 V2 hp
    match e, hp with
    | .normal, ⟨k2, kp2, hi2⟩ =>
      exact ⟨_, _, (fin none k2).2, .inl ⟨rfl, ⟨(fin none k2).1.turn, own_turn hI (fin none k2).1 _ hi2⟩, hKt kp (hKt (hKt kb kp2) (hKb _ _ _ (fin none k2).1.2 rfl rfl))⟩⟩
    | .ret, ⟨k2, hx⟩ => exact left _ k2 hx
    | .exit _, ⟨k2, hx⟩ => exact left _ k2 hx
    | .goto _, ⟨k2, hx⟩ => exact left _ k2 hx
    | .panic _, hp => exact hp.elim
    | .outgrown, hp => exact hp.elim
  · rintro e V ⟨⟨v, rfl⟩, ⟨xs, hS, h2, hi⟩ | ⟨xs, hS, c, h2, hi⟩⟩
    · exact ⟨none, _, run_endLoop (P := P) h2.2 (by simp [R]), hdone B xs _ (Nat.le_refl _) hS (own_turn hI h2 _ hi) ((World.putObj_heap_other (by omega)).trans h2.1)⟩
    · exact ⟨some c, _, run_endLoop (P := P) h2.2 (by simp [R]), hstop B c xs _ (Nat.le_refl _) hS (own_turn (hIx c) h2 _ hi) ((World.putObj_heap_other (by omega)).trans h2.1)⟩
end Go.Proofs.YthifcalemhpmoaaGreat
namespace Gy
/-! Division of two words by one: each half finds a digit of 32 bits. -/
/-- What is known at the head of a half's loop: u is (q, r) by the divisor's upper half, and q is not too small. -/
def HInv (u v y1 y0 q r : Nat) : Prop := q * y1 + r = u ∧ u * 4294967296 + v < (q + 1) * (y1 * 4294967296 + y0) ∧ q ≤ 4294967297 ∧ r < 4294967296
/-- What is known at its end. -/
def HEnd (u v y1 y0 q : Nat) : Prop := q * (y1 * 4294967296 + y0) ≤ u * 4294967296 + v ∧ u * 4294967296 + v < (q + 1) * (y1 * 4294967296 + y0)
theorem h_start {u v y1 y0 : Nat} (h1 : 2147483648 ≤ y1) (h2 : y1 < 4294967296) (h0 : y0 < 4294967296) (hu : u < y1 * 4294967296 + y0) (hv : v < 4294967296) : HInv u v y1 y0 (u / y1) (u - u / y1 * y1) := by
  have e := Nat.div_add_mod u y1
  have m := Nat.mod_lt u (show 0 < y1 by omega)
  rw [Nat.mul_comm] at e
  generalize hq : u / y1 = q at *
  generalize u % y1 = r at *
  refine ⟨by omega, ?_, ?_, by omega⟩
  · have a : (q + 1) * (y1 * 4294967296 + y0) = (q * y1) * 4294967296 + y1 * 4294967296 + (q + 1) * y0 := by grind
    have b : 0 ≤ (q + 1) * y0 := Nat.zero_le _
    generalize q * y1 = p at *
    generalize (q + 1) * y0 = s at *
    omega
  · have := Nat.mul_le_mul_left (k := 4294967298) h1
    apply Decidable.byContradiction
    intro hn
    have c : 4294967298 ≤ q := by omega
    have d := Nat.mul_le_mul_right y1 c
    generalize q * y1 = p at *
    omega
theorem h_next {u v y1 y0 q r : Nat} (hu : u < y1 * 4294967296 + y0) (hv : v < 4294967296) (h : HInv u v y1 y0 q r) (ht : 4294967296 ≤ q ∨ 4294967296 * r + v < q * y0) : 1 ≤ q ∧ (q - 1) * y1 + (r + y1) = u ∧ u * 4294967296 + v < (q - 1 + 1) * (y1 * 4294967296 + y0) ∧ q - 1 ≤ 4294967296 := by
  obtain ⟨a, b, c, d⟩ := h
  have q1 : 1 ≤ q := by
    rcases ht with ht | ht
    · omega
    · cases q
      · simp at ht
      · omega
  obtain ⟨k, rfl⟩ : ∃ k, q = k + 1 := ⟨q - 1, by omega⟩
  simp only [Nat.add_sub_cancel]
  have e : (k + 1) * y1 = k * y1 + y1 := by grind
  refine ⟨by omega, by omega, ?_, by omega⟩
  have f : (k + 1) * (y1 * 4294967296 + y0) = ((k + 1) * y1) * 4294967296 + (k + 1) * y0 := by grind
  rcases ht with ht | ht
  · have g := Nat.mul_le_mul_right (y1 * 4294967296 + y0) ht
    generalize (k + 1) * (y1 * 4294967296 + y0) = p at *
    omega
  · rw [f]
    generalize (k + 1) * y1 = p at *
    generalize (k + 1) * y0 = s at *
    omega
theorem h_over {u v y1 y0 q r : Nat} (h0 : y0 < 4294967296) (a : q * y1 + r = u) (b : u * 4294967296 + v < (q + 1) * (y1 * 4294967296 + y0)) (c : q ≤ 4294967296) (hr : 4294967296 ≤ r) : HEnd u v y1 y0 q := by
  refine ⟨?_, b⟩
  have f : q * (y1 * 4294967296 + y0) = (q * y1) * 4294967296 + q * y0 := by grind
  have g := Nat.mul_le_mul_right y0 c
  rw [f]
  generalize q * y1 = p at *
  generalize q * y0 = s at *
  omega
theorem h_done {u v y1 y0 q r : Nat} (h : HInv u v y1 y0 q r) (ht : q * y0 ≤ 4294967296 * r + v) : HEnd u v y1 y0 q := by
  obtain ⟨a, b, c, d⟩ := h
  refine ⟨?_, b⟩
  have f : q * (y1 * 4294967296 + y0) = (q * y1) * 4294967296 + q * y0 := by grind
  rw [f]
  generalize q * y1 = p at *
  generalize q * y0 = s at *
  omega
theorem h_small {u v y1 y0 q : Nat} (hu : u < y1 * 4294967296 + y0) (hv : v < 4294967296) (h : HEnd u v y1 y0 q) : q < 4294967296 := by
  apply Decidable.byContradiction
  intro hn
  have g := Nat.mul_le_mul_right (y1 * 4294967296 + y0) (show 4294967296 ≤ q by omega)
  have := h.1
  generalize q * (y1 * 4294967296 + y0) = p at *
  omega
/-- Both digits together are the quotient. -/
theorem two_halves {A v0 y q1 q0 : Nat} (a : q1 * y ≤ A) (b : q0 * y ≤ (A - q1 * y) * 4294967296 + v0) (c : (A - q1 * y) * 4294967296 + v0 < (q0 + 1) * y) :
    (A * 4294967296 + v0) / y = q1 * 4294967296 + q0 ∧ A * 4294967296 + v0 - (q1 * 4294967296 + q0) * y = (A - q1 * y) * 4294967296 + v0 - q0 * y := by
  have e : (q1 * 4294967296 + q0) * y = (q1 * y) * 4294967296 + q0 * y := by
    rw [Nat.add_mul, Nat.mul_right_comm]
  have e2 : (q1 * 4294967296 + q0 + 1) * y = (q1 * y) * 4294967296 + (q0 + 1) * y := by
    rw [Nat.add_assoc, Nat.add_mul, Nat.mul_right_comm]
  have e3 : A * 4294967296 + v0 - (q1 * 4294967296 + q0) * y = (A - q1 * y) * 4294967296 + v0 - q0 * y := by
    obtain ⟨t, rfl⟩ : ∃ t, A = q1 * y + t := ⟨A - q1 * y, (Nat.add_sub_of_le a).symm⟩
    rw [e, Nat.add_sub_cancel_left, Nat.add_mul, Nat.add_assoc, Nat.sub_add_eq, Nat.add_sub_cancel_left]
  refine ⟨Nat.div_eq_of_lt_le ?_ ?_, e3⟩
  · rw [e]
    clear e e2 e3 c
    generalize q1 * y = p at *
    generalize q0 * y = s at *
    obtain ⟨t, rfl⟩ : ∃ t, A = p + t := ⟨A - p, (Nat.add_sub_of_le a).symm⟩
    rw [Nat.add_sub_cancel_left] at b
    rw [Nat.add_mul]
    omega
  · rw [e2]
    clear e e2 e3 b
    generalize q1 * y = p at *
    generalize hs : (q0 + 1) * y = s at *
    obtain ⟨t, rfl⟩ : ∃ t, A = p + t := ⟨A - p, (Nat.add_sub_of_le a).symm⟩
    rw [Nat.add_sub_cancel_left] at c
    rw [Nat.add_mul]
    rw [Nat.add_assoc]
    exact Nat.add_lt_add_left c _
end Gy
