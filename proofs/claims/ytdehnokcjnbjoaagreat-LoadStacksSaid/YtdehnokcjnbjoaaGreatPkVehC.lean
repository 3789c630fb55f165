/- Vehicles: which ones chain's Check takes. Units and axles of vehicles: how they lie in memory, and which ones are valid. What Place and Pull return, of the program and of the document's own answers: their errors, and the place. What Place and Pull return, of the program and of the document's own answers. What the functions on turns and bodies return, of the program and of the document's own answers. A region of open order whose operations and callees write new memory at most, up to its last operation, which may write: walked once. A region of open order, in which all operations but the last one yield one value in every world of a class and stay in it, and the last one waits for all others: it is walked once, in the text's order; inside a round, too. Names: what words.IsName and the document's Named return, for all texts. -/
import Derived.Test.YtdehnokcjnbjoaaGreatPt
import Derived.Laws.RangeAny
import Derived.Laws.Strings
import Derived.LoopTactic
import Derived.BigQuiet
import Derived.RangeFuncNested
import Derived.RangeFuncCalls
import Derived.Test.YtdehnokcjnbjoaaGreatPkHeldIn
import Derived.Test.YtdehnokcjnbjoaaGreatUpQ
import Derived.Test.YtdehnokcjnbjoaaGreatBx
import Derived.Test.YtdehnokcjnbjoaaGreatSl
import Derived.Test.YtdehnokcjnbjoaaGreatMath
import Derived.Deep.DeepCutAuto
import Derived.Test.YtdehnokcjnbjoaaGreatPlat
import Derived.Deep.Cut
namespace Go.Proofs.YtdehnokcjnbjoaaGreat
open Go.RowKit Go.Proofs.Gn
/-- Is a byte one of a name's characters? -/
def nbB (n : Nat) : Bool := (decide (97 ≤ n) && decide (n ≤ 122)) || (decide (48 ≤ n) && decide (n ≤ 57))
/-- Are all bytes from k on, up to n, those of names? -/
def nmAll (s : ByteArray) : Prop := ∀ i (h : i < s.size), nbB (s[i]'h).toNat = true
instance (s : ByteArray) : Decidable (nmAll s) := Nat.decidableBallLT s.size fun i h => nbB (s[i]'h).toNat = true
/-- Is a text a name? -/
def nmS (s : ByteArray) : Bool := decide (nmAll s) && (decide (1 ≤ s.size) && decide (s.size ≤ 20))
theorem nmS_bad {s : ByteArray} {i : Nat} (h : i < s.size) (hb : nbB (s[i]'h).toNat = false) : nmS s = false := by
  have : ¬ nmAll s := fun ha => by rw [ha i h] at hb; cases hb
  simp [nmS, this]
theorem nmS_all {s : ByteArray} (h : nmAll s) : nmS s = (decide (1 ≤ s.size) && decide (s.size ≤ 20)) := by simp [nmS, h]
theorem up_iter {W w : World} (h : Up W w) (s : ByteArray) (p : Nat) : Up W (w.iter s p) := up_alloc h _
theorem nb_lt {n : Nat} (h : nbB n = true) : n < 128 := by
  simp only [nbB, Bool.or_eq_true, Bool.and_eq_true, decide_eq_true_eq] at h
  omega
theorem nb_cases (n : Nat) : nbB n = true ∧ (¬ (n : Int) < 97 ∧ ¬ 122 < (n : Int) ∨ (n : Int) < 97 ∧ ¬ (n : Int) < 48 ∧ ¬ 57 < (n : Int)) ∨
    nbB n = false ∧ ((n : Int) < 97 ∧ (n : Int) < 48 ∨ (n : Int) < 97 ∧ ¬ (n : Int) < 48 ∧ 57 < (n : Int) ∨ ¬ (n : Int) < 97 ∧ 122 < (n : Int)) := by
  unfold nbB
  by_cases h1 : 97 ≤ n <;> by_cases h2 : n ≤ 122 <;> by_cases h3 : 48 ≤ n <;> by_cases h4 : n ≤ 57 <;> simp [h1, h2, h3, h4] <;> omega
theorem nm_next {s : ByteArray} {pos : Nat} (hp : pos < s.size) (ha : ∀ i (h : i < s.size), i < pos → nbB (s[i]'h).toNat = true) (hb : nbB (s[pos]'hp).toNat = true) :
    ∀ i (h : i < s.size), i < pos + 1 → nbB (s[i]'h).toNat = true := fun i h hi => by
  by_cases hip : i = pos
  · subst hip; exact hb
  · exact ha i h (by omega)
set_option maxRecDepth 100000 in
set_option maxHeartbeats 4000000 in
theorem p_IsName (s : ByteArray) (w : World) :
    Calls Tryz.prog 57 #[.string s] w fun e w' => e = .returned (.bool (nmS s)) ∧ Up w w' := by
  go_enter Tryz.func57, Tryz.ntmps57
  go_wp2
  go_loopw [] (fun wr => ∃ pos : Nat, wr = w.iter s pos ∧ pos ≤ s.size ∧ ∀ i (h : i < s.size), i < pos → nbB (s[i]'h).toNat = true) (fun wr => s.size - wr.iterPos w.heap.size)
  case atStart => exact ⟨0, rfl, by omega, fun i h hi => by omega⟩
  case round =>
    obtain ⟨pos, rfl, hle, ha⟩ := hrel
    have HA := hide ha
    clear ha
    by_cases hp : pos < s.size
    · obtain ⟨n, hn⟩ : ∃ n, (s[pos]'hp).toNat = n := ⟨_, rfl⟩
      have HN := hide hn
      by_cases h7 : n < 128
      · have hnx : ∀ ty, (Instr.next (.pointer (some ⟨w.heap.size, 0, none⟩)) true ty).run Tryz.prog (w.iter s pos) = _ := fun ty => run_next_ascii w s pos ty hp (by rw [hn]; exact h7)
        rw [hn] at hnx
        clear hn h7
        rcases nb_cases n with ⟨hb, ⟨h1, h2⟩ | ⟨h1, h2, h3⟩⟩ | ⟨hb, ⟨h1, h2⟩ | ⟨h1, h2, h3⟩ | ⟨h1, h2⟩⟩
        · go_wp2
          go_roundw
          case rel => exact ⟨pos + 1, rfl, by omega, nm_next hp (unhide HA) (by rw [unhide HN]; exact hb)⟩
          case measure => simp; omega
        · go_wp2
          go_roundw
          case rel => exact ⟨pos + 1, rfl, by omega, nm_next hp (unhide HA) (by rw [unhide HN]; exact hb)⟩
          case measure => simp; omega
        · go_wp2
          go_ret
          exact ⟨by rw [nmS_bad hp (by rw [unhide HN]; exact hb)]; rfl, up_iter (up_refl _) _ _⟩
        · go_wp2
          go_ret
          exact ⟨by rw [nmS_bad hp (by rw [unhide HN]; exact hb)]; rfl, up_iter (up_refl _) _ _⟩
        · go_wp2
          go_ret
          exact ⟨by rw [nmS_bad hp (by rw [unhide HN]; exact hb)]; rfl, up_iter (up_refl _) _ _⟩
      · have hnx : ∀ ty, (Instr.next (.pointer (some ⟨w.heap.size, 0, none⟩)) true ty).run Tryz.prog (w.iter s pos) = _ := fun ty => run_next_any w s pos ty hp
        obtain ⟨hd, -⟩ := decode_high s pos hp (by rw [hn]; omega)
        obtain ⟨c, hc⟩ : ∃ c, (Utf8.decode s pos).1 = c := ⟨_, rfl⟩
        rw [hc] at hnx hd
        clear hc hn
        have h1 : ¬ (c : Int) < 97 := by omega
        have h2 : 122 < (c : Int) := by omega
        have HB := hide (show nbB n = false from by
          cases hb : nbB n
          · rfl
          · exact absurd (nb_lt hb) h7)
        go_wp2
        go_ret
        exact ⟨by rw [nmS_bad hp (by rw [unhide HN]; exact unhide HB)]; rfl, up_iter (up_refl _) _ _⟩
    · have hnx : ∀ ty, (Instr.next (.pointer (some ⟨w.heap.size, 0, none⟩)) true ty).run Tryz.prog (w.iter s pos) = _ := fun ty => run_next_end w s pos ty hp
      have HS := hide (nmS_all (s := s) fun i h => unhide HA i h (by omega))
      clear HA
      by_cases h1 : 1 ≤ (s.size : Int)
      · by_cases h2 : (s.size : Int) ≤ 20
        · go_wp2
          go_ret
          exact ⟨by rw [unhide HS, decide_eq_true (show 1 ≤ s.size by omega), decide_eq_true (show s.size ≤ 20 by omega)]; rfl, up_iter (up_refl _) _ _⟩
        · go_wp2
          go_ret
          exact ⟨by rw [unhide HS, decide_eq_false (show ¬ s.size ≤ 20 by omega), Bool.and_false]; rfl, up_iter (up_refl _) _ _⟩
      · go_wp2
        go_ret
        exact ⟨by rw [unhide HS, decide_eq_false (show ¬ 1 ≤ s.size by omega), Bool.false_and]; rfl, up_iter (up_refl _) _ _⟩
set_option maxRecDepth 100000 in
set_option maxHeartbeats 4000000 in
theorem r_Named (s : ByteArray) (w : World) :
    Calls Tryz.prog 62 #[.string s] w fun e w' => e = .returned (.bool (nmS s)) ∧ Up w w' := by
  by_cases g1 : (s.size : Int) < 1
  · have hS := hide (show nmS s = false by unfold nmS; rw [decide_eq_false (show ¬ 1 ≤ s.size by omega)]; simp)
    go_enter Tryz.func62, Tryz.ntmps62
    go_wp2
    go_ret
    exact ⟨by rw [unhide hS]; rfl, up_refl _⟩
  by_cases g2 : 20 < (s.size : Int)
  · have hS := hide (show nmS s = false by unfold nmS; rw [decide_eq_false (show ¬ s.size ≤ 20 by omega)]; simp)
    go_enter Tryz.func62, Tryz.ntmps62
    go_wp2
    go_ret
    exact ⟨by rw [unhide hS]; rfl, up_refl _⟩
  have HG := hide (⟨by omega, by omega⟩ : 1 ≤ s.size ∧ s.size ≤ 20)
  go_enter Tryz.func62, Tryz.ntmps62
  go_wp2
  go_loopw [3] (fun i wr => ∃ pos : Nat, i = .int .i64 pos ∧ wr = w ∧ pos ≤ s.size ∧ ∀ i (h : i < s.size), i < pos → nbB (s[i]'h).toNat = true) (fun i _ => s.size - (intOf i).toNat)
  case atStart => exact ⟨0, rfl, rfl, by omega, fun i h hi => by omega⟩
  case round =>
    obtain ⟨pos, rfl, rfl, hle, ha⟩ := hrel
    have HA := hide ha
    clear ha
    by_cases hp : pos < s.size
    · obtain ⟨n, hn⟩ : ∃ n, (s[pos]'hp).toNat = n := ⟨_, rfl⟩
      have HN := hide hn
      have hp' : (pos : Int) < s.size := by omega
      have hp0 : 0 ≤ (pos : Int) := by omega
      have HB := hide (show (s.size : Int) ≤ 20 by omega)
      have hw : IntKind.i64.wrap (↑pos + 1) = ((pos + 1 : Nat) : Int) := by rw [IntWalk.i64_in _ ⟨by omega, by omega⟩]; omega
      clear g1 g2
      rcases nb_cases n with ⟨hb, ⟨h1, h2⟩ | ⟨h1, h2, h3⟩⟩ | ⟨hb, ⟨h1, h2⟩ | ⟨h1, h2, h3⟩ | ⟨h1, h2⟩⟩
      · have e1 : 97 ≤ (n : Int) := by omega
        have e2 : (n : Int) ≤ 122 := by omega
        clear h1 h2
        go_wp2
        go_roundw
        case rel => exact ⟨pos + 1, by first | rfl | trivial, by first | rfl | trivial, by omega, nm_next hp (unhide HA) (by rw [unhide HN]; exact hb)⟩
        case measure => simp [intOf]; omega
      · have e1 : ¬ 97 ≤ (n : Int) := by omega
        have e2 : 48 ≤ (n : Int) := by omega
        have e3 : (n : Int) ≤ 57 := by omega
        clear h1 h2 h3
        go_wp2
        go_roundw
        case rel => exact ⟨pos + 1, by first | rfl | trivial, by first | rfl | trivial, by omega, nm_next hp (unhide HA) (by rw [unhide HN]; exact hb)⟩
        case measure => simp [intOf]; omega
      · have e1 : ¬ 97 ≤ (n : Int) := by omega
        have e2 : ¬ 48 ≤ (n : Int) := by omega
        clear h1 h2
        go_wp2
        go_ret
        exact ⟨by rw [nmS_bad hp (by rw [unhide HN]; exact hb)]; rfl, up_refl _⟩
      · have e1 : ¬ 97 ≤ (n : Int) := by omega
        have e2 : 48 ≤ (n : Int) := by omega
        have e3 : ¬ (n : Int) ≤ 57 := by omega
        clear h1 h2 h3
        go_wp2
        go_ret
        exact ⟨by rw [nmS_bad hp (by rw [unhide HN]; exact hb)]; rfl, up_refl _⟩
      · have e1 : 97 ≤ (n : Int) := by omega
        have e2 : ¬ (n : Int) ≤ 122 := by omega
        have e3 : 48 ≤ (n : Int) := by omega
        have e4 : ¬ (n : Int) ≤ 57 := by omega
        clear h1 h2
        go_wp2
        go_ret
        exact ⟨by rw [nmS_bad hp (by rw [unhide HN]; exact hb)]; rfl, up_refl _⟩
    · have HS := hide (nmS_all (s := s) fun i h => unhide HA i h (by omega))
      clear HA
      have h1 : ¬ (pos : Int) < s.size := by omega
      go_wp2
      go_ret
      exact ⟨by rw [unhide HS, decide_eq_true (unhide HG).1, decide_eq_true (unhide HG).2]; rfl, up_refl _⟩
end Go.Proofs.YtdehnokcjnbjoaaGreat
namespace Go.Proofs.Hin
open Go
/-- A fence that lets in what runs without one. -/
structure Open (F : Fence) : Prop where
  fn : ∀ f, F.fn f
  depth : F.depth = none
  call : ∀ {n : Nat} {P : Program} {f : FuncId} {args : Array Value} {w : World} {R : Ending → World → Prop}, Calls P f args w R → CallsIn F n P f args w R
theorem open_wide : Open Fence.wide := ⟨fun _ => trivial, rfl, fun h => callsIn_wide.2 h⟩
theorem open_round (l : Nat) : Open (Fence.wide.inRound l) := ⟨fun _ => trivial, rfl, fun h => CallsIn.inRound l (callsIn_wide.2 h)⟩
section
variable {F : Fence} {n : Nat} {P : Program} {ops : Array Oper} {Q : Exit → Act → World → Prop} {md : Region.Mode} {S : World → Prop} {L : Nat}
theorem opIn {o : Oper} {a : Act} {w : World} {K : Act → Prop} {K' : Act → World → Prop} (hF : Open F) (hd : ∀ c, o.op ≠ .defer c) (hw : S w) (h : ∀ a w', S w' → K a → K' a w') (hq : o.quiet P a S K) : o.wpIn F n P a w K' Q := by
  obtain ⟨v, h1, h2⟩ := hq
  have h3 := h1 w hw
  unfold Oper.quietAt at h3
  unfold Oper.wpIn
  refine ⟨fun f _ => hF.fn f, ?_⟩
  rw [Oper.semAt_eq _ _ _ hd]
  generalize (execOp a.eval o).run P w = r at *
  cases r with
  | ok x w' =>
    cases x <;> simp only [Oper.quietUpon] at h3 <;> simp only [Oper.uponIn]
    case value u =>
      obtain ⟨e1, e2⟩ := h3
      rw [e1, e2]
      exact h _ _ hw h2
    case skip =>
      obtain ⟨e1, e2⟩ := h3
      rw [e1, ← e2]
      exact h _ _ hw h2
    case enter f args =>
      obtain ⟨e1, hc⟩ := h3
      rw [e1]
      refine ⟨fun e => by rw [hF.depth] at e; simp at e, (hF.call hc).mono fun e w'' ⟨he, hw''⟩ => by subst he; exact h _ _ hw'' h2⟩
  | halt x w' => simp only [Oper.quietUpon] at h3
/-- Every order; operation L in whatever world of the class. -/
def AnyC (F : Fence) (n : Nat) (P : Program) (md : Region.Mode) (ops : Array Oper) (Q : Exit → Act → World → Prop) (S : World → Prop) (L : Nat) : Nat → Array Bool → Act → Prop
  | 0, listed, a => Region.ready md ops listed = [] ∧ ∀ w, S w → Q .normal a w
  | k + 1, listed, a => (Region.ready md ops listed = [] → ∀ w, S w → Q .normal a w) ∧ ∀ i ∈ Region.ready md ops listed,
      (i = L → ∀ w, S w → wpOpIn F n P ops Q i (wpAnyIn F n P md ops Q k (listed.setIfInBounds i true)) a w) ∧ (i ≠ L → qOp P ops S i (AnyC F n P md ops Q S L k (listed.setIfInBounds i true)) a)
/-- No operation defers. -/
def noDefer (ops : Array Oper) : Bool := ops.all fun o => match o.op with | .defer _ => false | _ => true
theorem noDefer_spec (h : noDefer ops = true) {i : Nat} {o : Oper} (ho : ops[i]? = some o) (c : Call) : o.op ≠ .defer c := by
  intro e
  have := Array.all_eq_true_iff_forall_mem.1 h o (Array.mem_of_getElem? ho)
  simp [e] at this
theorem opOf {i : Nat} {a : Act} {w : World} {K : Act → Prop} {K' : Act → World → Prop} (hF : Open F) (hd : noDefer ops = true) (hw : S w) (h : ∀ a w', S w' → K a → K' a w') (hq : qOp P ops S i K a) : wpOpIn F n P ops Q i K' a w := by
  unfold qOp at hq
  unfold wpOpIn
  cases ho : ops[i]? with
  | none => rw [ho] at hq; exact h _ _ hw hq
  | some o =>
    rw [ho] at hq
    dsimp only at hq ⊢
    by_cases hwn : Region.wanted o (yielded ops a.tmps) = true
    · rw [if_pos hwn] at hq ⊢
      exact opIn hF (noDefer_spec hd ho) hw h hq
    · rw [if_neg hwn] at hq ⊢
      exact ⟨fun f _ => hF.fn f, h _ _ hw hq⟩
theorem AnyC.plain (hF : Open F) (hd : noDefer ops = true) (k : Nat) : ∀ (listed : Array Bool) (a : Act) (w : World), S w → AnyC F n P md ops Q S L k listed a → wpAnyIn F n P md ops Q k listed a w := by
  induction k with
  | zero => exact fun _ _ w hw h => ⟨h.1, h.2 w hw⟩
  | succ k ih =>
    refine fun listed a w hw h => ⟨fun e => h.1 e w hw, fun i hi => ?_⟩
    by_cases e : i = L
    · exact (h.2 i hi).1 e w hw
    · exact opOf hF hd hw (fun b u hu hb => ih _ b u hu hb) ((h.2 i hi).2 e)
/-- j waits for i. -/
def waitB (md : Region.Mode) (ops : Array Oper) (j i : Nat) : Bool := ((ops[j]?).map fun o => o.after.any fun e => Region.binds md e && e.on == i).getD false
theorem waitB_spec {i j : Nat} (h : waitB md ops j i = true) {o : Oper} (ho : ops[j]? = some o) {listed : Array Bool} (hall : ∀ e ∈ o.after, Region.binds md e = true → listed.getD e.on false = true) : listed.getD i false = true := by
  unfold waitB at h
  rw [ho] at h
  simp only [Option.map_some, Option.getD_some, Array.any_eq_true, Bool.and_eq_true, beq_iff_eq] at h
  obtain ⟨k, hk, hb, e⟩ := h
  rw [← e]
  exact hall _ (Array.getElem_mem hk) hb
/-- Each of them is waited for by a later one, up to L. -/
def lastB (md : Region.Mode) (ops : Array Oper) (L : Nat) : Bool := (List.range L).all fun i => (List.range (L + 1)).any fun j => decide (i < j) && waitB md ops j i
theorem last_waits {listed : Array Bool} (hs : lastB md ops L = true) (hc : Closed md ops listed) (hL : L ∈ Region.ready md ops listed) (hsz : L < ops.size) : ∀ (d i : Nat), L - i = d → i < L → listed.getD i false = true := by
  obtain ⟨_, oL, hoL, hall⟩ := mem_ready.1 hL
  intro d
  induction d using Nat.strongRecOn with
  | ind d ih =>
    intro i hd hi
    obtain ⟨j, hj, hj2⟩ := List.any_eq_true.1 (List.all_eq_true.1 hs i (List.mem_range.2 hi))
    simp only [Bool.and_eq_true, decide_eq_true_eq] at hj2
    have hjL := List.mem_range.1 hj
    by_cases e : j = L
    · subst e; exact waitB_spec hj2.2 hoL hall
    · have h1 := ih (L - j) (by omega) j rfl (by omega)
      have hjs : j < ops.size := by omega
      exact waitB_spec hj2.2 (Array.getElem?_eq_getElem hjs) (hc j _ (Array.getElem?_eq_getElem hjs) h1)
theorem AnyC.first {i : Nat} {oi : Oper} {v : Value} (hi : ops[i]? = some oi) (hn : ∀ (j : Nat) (o : Oper) cs b, ops[j]? = some o → o.op ≠ .select cs b) (hs : lastB md ops L = true) (hsz : L < ops.size) (hiL : i < L) (k : Nat) : ∀ (listed : Array Bool) (a : Act),
      (∀ j oj, ops[j]? = some oj → j ≠ i → listed.getD j true = false → (∀ e ∈ oj.after, Region.binds md e = true → e.on ≠ i) → oi.apart ops oj = true) →
      Closed md ops listed → i ∈ Region.ready md ops listed → YieldsIn P ops S oi v a → AnyC F n P md ops Q S L k (listed.setIfInBounds i true) (a.put oi.dst v) → AnyC F n P md ops Q S L (k + 1) listed a := by
  induction k with
  | zero =>
    intro listed a _ _ hr hy H
    refine ⟨fun e => absurd (e ▸ hr) (by simp), fun j hj => ?_⟩
    by_cases e : j = i
    · subst e; exact ⟨fun e => absurd e (by omega), fun _ => hy.qOp hi H⟩
    · exact absurd (H.1 ▸ ready_mono hj e) (by simp)
  | succ k ih =>
    intro listed a far hc hr hy H
    refine ⟨fun e => absurd (e ▸ hr) (by simp), fun j hj => ?_⟩
    by_cases e : j = i
    · subst e; exact ⟨fun e => absurd e (by omega), fun _ => hy.qOp hi H⟩
    · obtain ⟨hun, oj, hoj, hall⟩ := mem_ready.1 hj
      have hni := getD_tf (mem_ready.1 hr).1
      have hnot : ∀ e ∈ oj.after, Region.binds md e = true → e.on ≠ i := fun e he hb heq => by
        have h1 := hall e he hb
        rw [heq, hni.2] at h1
        cases h1
      have hjL : j ≠ L := fun e => by
        subst e
        have := last_waits hs hc hj hsz _ i rfl hiL
        rw [hni.2] at this
        cases this
      refine ⟨fun e => absurd e hjL, fun _ => ?_⟩
      refine qOp_mono (fun b q => ih (listed.setIfInBounds j true) b (fun m om hm hmi hun' hno => far m om hm hmi ?_ hno) (closed_set hc hj) (ready_mono hr (Ne.symm e)) q.1 ?_)
        (qOp_put hoj (far j oj hoj e hun hnot) (fun cs b => hn i oi cs b hi) (fun cs b => hn j oj cs b hoj) hy ((H.2 j (ready_mono hj e)).2 hjL))
      · by_cases hjm : j = m
        · subst hjm; exact hun
        · rwa [getD_set_ne true hjm] at hun'
      · rw [Array.setIfInBounds_comm _ _ e]
        exact q.2
/-- In the text's order each may come first, up to L, which is alone then. -/
def lexL (md : Region.Mode) (ops : Array Oper) (L : Nat) : Nat → Nat → Array Bool → Bool
  | 0, k, listed => decide (k = L) && decide (Region.ready md ops listed = [L]) && decide (Region.ready md ops (listed.setIfInBounds L true) = [])
  | f + 1, k, listed => decide (k < L) && (Region.ready md ops listed).contains k && Region.free md ops listed k && closedB md ops listed && lexL md ops L f (k + 1) (listed.setIfInBounds k true)
theorem AnyC.lex {oL : Oper} (hn : Region.noSelect ops = true) (hs : lastB md ops L = true) (hsz : L < ops.size) (hL : ops[L]? = some oL) : ∀ (l : List Oper) (k : Nat) (listed : Array Bool) (a : Act), (∀ j, j < l.length → l[j]? = ops[k + j]?) →
    lexL md ops L l.length k listed = true → wpQuiet P ops S (fun b => Region.wanted oL (yielded ops b.tmps) = true ∧ ∀ w, S w → oL.wpIn F n P b w (fun c u => Q .normal c u) Q) l a → AnyC F n P md ops Q S L (l.length + 1) listed a
  | [], k, listed, a, _, hB, h => by
    simp only [List.length_nil, lexL, Bool.and_eq_true, decide_eq_true_eq] at hB
    obtain ⟨⟨rfl, h1⟩, h2⟩ := hB
    refine ⟨fun e => by rw [h1] at e; simp at e, fun i hi => ?_⟩
    rw [h1] at hi
    obtain rfl : i = k := by simpa using hi
    refine ⟨fun _ w hw => ?_, fun e => absurd rfl e⟩
    unfold wpOpIn
    rw [hL]
    dsimp only
    rw [if_pos h.1]
    exact Oper.wpIn_mono (fun c u q => ⟨h2, q⟩) (h.2 w hw)
  | o :: l, k, listed, a, hl, hB, h => by
    have h0 : ops[k]? = some o := by simpa using (hl 0 (by simp)).symm
    simp only [List.length_cons, lexL, Bool.and_eq_true, decide_eq_true_eq] at hB
    obtain ⟨⟨⟨⟨hk, hr⟩, hf⟩, hc⟩, hB'⟩ := hB
    have hst : qOp P ops S k (wpQuiet P ops S (fun b => Region.wanted oL (yielded ops b.tmps) = true ∧ ∀ w, S w → oL.wpIn F n P b w (fun c u => Q .normal c u) Q) l) a := by unfold qOp; simp only [h0]; exact h
    obtain ⟨v, hy, hK⟩ := yieldsIn_of_qOp h0 hst
    exact AnyC.first h0 (Region.noSelect_spec hn) hs hsz hk (l.length + 1) listed a (Region.free_spec h0 hf) (closed_of hc) (by simpa using hr) hy
      (AnyC.lex hn hs hsz hL l (k + 1) _ _ (fun j hj => by have := hl (j + 1) (by simp; omega); simpa [Nat.add_assoc, Nat.add_comm 1 j] using this) hB' hK)
/-- All checks of the region's form at once. -/
def lateB (md : Region.Mode) (ops : Array Oper) (L : Nat) : Bool := noDefer ops && Region.noSelect ops && lastB md ops L && decide (L + 1 = ops.size) && lexL md ops L L 0 (Array.replicate ops.size false)
theorem wpIn_region_late {id : Nat} {a : Act} {w : World} {ops l : List Oper} {oL : Oper} (L : Nat) (hF : Open F) (hm : P.follows .mixedOrders = true) (hB : lateB .any ops.toArray L = true) (hl : ops.take L = l) (hL : ops[L]? = some oL) (hC : S w.drew)
    (h : wpQuiet P ops.toArray S (fun b => Region.wanted oL (yielded ops.toArray b.tmps) = true ∧ ∀ w, S w → oL.wpIn F n P b w (fun c u => Q .normal c u) Q) l a) : (Code.region id ops.toArray true).wpIn F n P Q a w := by
  simp only [lateB, Bool.and_eq_true, decide_eq_true_eq] at hB
  obtain ⟨⟨⟨⟨h1, h2⟩, h3⟩, h4⟩, h5⟩ := hB
  subst hl
  have e0 : ops.length = L + 1 := by have := h4; simp at this; omega
  have e1 : (ops.take L).length = L := by rw [List.length_take]; omega
  have e : ops.toArray.size = L + 1 := h4.symm
  refine wpIn_region_any hm ?_
  rw [e] at h5 ⊢
  have k := AnyC.lex (F := F) (n := n) (Q := Q) (S := S) (md := .any) (P := P) (ops := ops.toArray) (L := L) (oL := oL) h2 h3 (by rw [e]; omega) (by simpa using hL) (ops.take L) 0 (Array.replicate (L + 1) false) a
    (fun j hj => by rw [e1] at hj; rw [Nat.zero_add, List.getElem?_toArray, List.getElem?_take, if_pos hj]) (by rw [e1]; exact h5) h
  rw [e1] at k
  exact AnyC.plain hF h1 _ _ _ _ hC k
end
end Go.Proofs.Hin
namespace Go.Proofs.YtdehnokcjnbjoaaGreat
open Go.RowKit Go.Proofs.Gn
theorem wpQuiet_imp {P : Program} {ops : Array Oper} {C : World → Prop} {Q Q' : Act → Prop} (hq : ∀ b, Q b → Q' b) : ∀ (l : List Oper) (a : Act), wpQuiet P ops C Q l a → wpQuiet P ops C Q' l a
  | [], a, h => hq a h
  | o :: l, a, h => by
    unfold wpQuiet at h ⊢
    split
    · rename_i hw
      rw [if_pos hw] at h
      obtain ⟨v, h1, h2⟩ := h
      exact ⟨v, h1, wpQuiet_imp hq l _ h2⟩
    · rename_i hw
      rw [if_neg hw] at h
      exact wpQuiet_imp hq l _ h
theorem wp_late {P : Program} {id : Nat} {Q : Exit → Act → World → Prop} {a : Act} {w : World} {ops l : List Oper} {oL : Oper} (L : Nat) (hm : P.follows .mixedOrders = true) (hB : Hin.lateB .any ops.toArray L = true) (hl : ops.take L = l) (hL : ops[L]? = some oL)
    (h : wpQuiet P ops.toArray (fun w' => ∃ p : UpW w, w' = p.v) (fun b => Region.wanted oL (yielded ops.toArray b.tmps) = true ∧ ∀ p : UpW w, oL.wpIn Fence.wide 0 P b p.v (fun c u => Q .normal c u) Q) l a) : (Code.region id ops.toArray true).wp P Q a w := by
  refine wpIn_wide.1 (Hin.wpIn_region_late (F := Fence.wide) (n := 0) (S := fun w' => ∃ p : UpW w, w' = p.v) L Hin.open_wide hm hB hl hL ⟨⟨_, up_drew (up_refl _)⟩, rfl⟩ ?_)
  refine wpQuiet_imp ?_ l a h
  rintro b ⟨h1, h2⟩
  exact ⟨h1, fun w' ⟨p, e⟩ => by subst e; exact h2 p⟩
theorem bqf {w : World} {b i : Nat} {v : Value} {vs : List Value} (h : Bx w b vs) (hv : vs[i]? = some v) : ∀ p : UpW w, p.v.frozen? ⟨b, i, none⟩ = false := fun p => (bx_up h p.up i _ hv).2
end Go.Proofs.YtdehnokcjnbjoaaGreat
namespace Go.Proofs.YtdehnokcjnbjoaaGreat
open Go.RowKit Go.Proofs.Gn
abbrev rt (c s n : Int) : Value := .agg #[.int .i64 c, .int .i64 s, .int .i64 n]
/-- Is the turn valid? -/
def rotB (c s n : Int) : Bool := decide (1 ≤ n ∧ n ≤ 16777216 ∧ -n ≤ c ∧ c ≤ n ∧ -n ≤ s ∧ s ≤ n ∧ c * c + s * s = n * n)
theorem rotB_yes {c s n : Int} (h : rotB c s n = true) : 1 ≤ n ∧ n ≤ 16777216 ∧ -n ≤ c ∧ c ≤ n ∧ -n ≤ s ∧ s ≤ n ∧ c * c + s * s = n * n := of_decide_eq_true h
def rotE (c s n : Int) : Int := if rotB c s n then 0 else 2
theorem rotB_of {c s n : Int} (h : 1 ≤ n ∧ n ≤ 16777216 ∧ -n ≤ c ∧ c ≤ n ∧ -n ≤ s ∧ s ≤ n ∧ c * c + s * s = n * n) : rotE c s n = 0 := by unfold rotE rotB; rw [if_pos (decide_eq_true h)]
theorem rotB_not {c s n : Int} (h : ¬ (1 ≤ n ∧ n ≤ 16777216 ∧ -n ≤ c ∧ c ≤ n ∧ -n ≤ s ∧ s ≤ n ∧ c * c + s * s = n * n)) : rotE c s n = 2 := by
  unfold rotE rotB; rw [if_neg]; simpa using h
/-! ### Halves -/
def halB (n d : Int) : Bool := decide (1 ≤ d ∧ d ≤ 2048 ∧ -2048 ≤ n ∧ n ≤ 2048)
def halC (n d : Int) : Int := if halB n d then d * d - n * n else 0
def halS (n d : Int) : Int := if halB n d then 2 * n * d else 0
def halN (n d : Int) : Int := if halB n d then d * d + n * n else 0
def halE (n d : Int) : Int := if halB n d then 0 else 2
theorem halB_yes {n d : Int} (h : halB n d = true) : 1 ≤ d ∧ d ≤ 2048 ∧ -2048 ≤ n ∧ n ≤ 2048 := of_decide_eq_true h
theorem halB_no {n d : Int} (h : halB n d = false) : ¬ (1 ≤ d ∧ d ≤ 2048 ∧ -2048 ≤ n ∧ n ≤ 2048) := of_decide_eq_false h
end Go.Proofs.YtdehnokcjnbjoaaGreat
namespace Go.Proofs.YtdehnokcjnbjoaaGreat
open Go.RowKit Go.Proofs.Gn
def resX (x y v : Int) : Int := if okp x y then v else 0
def resE (x y : Int) : Int := if okp x y then 0 else 4
/-- Where a place of a body comes to. -/
def plX (ax ay hx hy x y : Int) : Int := ax + putX (hx - ax) (hy - ay) x y
def plY (ax ay hx hy x y : Int) : Int := ay + putY (hx - ax) (hy - ay) x y
theorem put_bd {u v x y : Int} (hu : -33554432 ≤ u ∧ u ≤ 33554432) (hv : -33554432 ≤ v ∧ v ≤ 33554432) (hx : -16777216 ≤ x ∧ x ≤ 16777216) (hy : -16777216 ≤ y ∧ y ≤ 16777216) (h0 : ¬ (u = 0 ∧ v = 0)) :
    (-1125899906842624 ≤ u * x ∧ u * x ≤ 1125899906842624) ∧ (-1125899906842624 ≤ v * y ∧ v * y ≤ 1125899906842624) ∧ (-1125899906842624 ≤ v * x ∧ v * x ≤ 1125899906842624) ∧ (-1125899906842624 ≤ u * y ∧ u * y ≤ 1125899906842624) ∧
    (0 ≤ u * u ∧ u * u ≤ 1125899906842624) ∧ (0 ≤ v * v ∧ v * v ≤ 1125899906842624) ∧ (1 ≤ len32 u v ∧ len32 u v ≤ 2147483648) ∧
    (-144115188075855872 ≤ putX u v x y ∧ putX u v x y ≤ 144115188075855872) ∧ (-144115188075855872 ≤ putY u v x y ∧ putY u v x y ≤ 144115188075855872) := by
  have a := mul_bd2 (u := u) (v := x) (by omega) (by omega) (by omega) (by omega)
  have b := mul_bd2 (u := v) (v := y) (by omega) (by omega) (by omega) (by omega)
  have c := mul_bd2 (u := v) (v := x) (by omega) (by omega) (by omega) (by omega)
  have d := mul_bd2 (u := u) (v := y) (by omega) (by omega) (by omega) (by omega)
  have e := mul_bd2 (u := u) (v := u) (by omega) (by omega) (by omega) (by omega)
  have f := mul_bd2 (u := v) (v := v) (by omega) (by omega) (by omega) (by omega)
  have e0 := sq_nonneg u
  have f0 := sq_nonneg v
  have l := len32_pos h0
  have l2 : len32 u v ≤ 2147483648 := root_le (by omega) (by omega) (by omega)
  have n1 := near_bd (n := 32 * (u * x - v * y)) (d := len32 u v) (by omega)
  have n2 := near_bd (n := 32 * (v * x + u * y)) (d := len32 u v) (by omega)
  unfold putX putY
  exact ⟨a, b, c, d, ⟨e0, e.2⟩, ⟨f0, f.2⟩, ⟨l, l2⟩, by omega, by omega⟩
theorem p_minusG (a b c d u v : Int) (w : World) (hu : Hid (a - c = u)) (hv : Hid (b - d = v)) (h1 : -1073741824 ≤ u) (h2 : u ≤ 1073741824) (h3 : -1073741824 ≤ v) (h4 : v ≤ 1073741824) :
    Calls Tryz.prog 197 #[pt a b, pt c d] w fun e w' => e = .returned (pt u v) ∧ Up w w' := by
  have h := unhide hu
  have k := unhide hv
  have := p_minus a b c d w (by omega) (by omega) (by omega) (by omega)
  rw [h, k] at this
  exact this
theorem p_rootG (n r : Int) (w : World) (hr : Hid (root n = r)) (h : 0 ≤ n) (h2 : n ≤ 9223372036854775807) :
    Calls Tryz.prog 173 #[.int .i64 n] w fun e w' => e = .returned (.int .i64 r) ∧ w = w' := by
  have := p_root n w h h2
  rw [unhide hr] at this
  exact this
theorem p_nearestG (n d q : Int) (w : World) (hq : Hid (near n d = q)) (hd : 0 < d) (hd2 : d ≤ 2305843009213693952) (h1 : -2305843009213693952 ≤ n) (h2 : n ≤ 2305843009213693952) :
    Calls Tryz.prog 104 #[.int .i64 n, .int .i64 d] w fun e w' => e = .returned (.int .i64 q) ∧ w = w' := by
  have := p_nearest n d w hd hd2 h1 h2
  rw [unhide hq] at this
  exact this
/-- What the walks of a place need: names and bounds. -/
theorem put_facts {ax ay hx hy x y : Int} (o1 : okp ax ay = true) (o2 : okp hx hy = true) (hx1 : -16777216 ≤ x) (hx2 : x ≤ 16777216) (hy1 : -16777216 ≤ y) (hy2 : y ≤ 16777216) (h0 : ¬ (hx = ax ∧ hy = ay)) :
    ∃ u v r X Y : Int, Hid (hx - ax = u) ∧ Hid (hy - ay = v) ∧ Hid (root (1024 * (u * u + v * v)) = r) ∧ Hid (near (32 * (u * x - v * y)) r = X) ∧ Hid (near (32 * (v * x + u * y)) r = Y) ∧
      Hid (plX ax ay hx hy x y = ax + X) ∧ Hid (plY ax ay hx hy x y = ay + Y) ∧
      (-33554432 ≤ u ∧ u ≤ 33554432) ∧ (-33554432 ≤ v ∧ v ≤ 33554432) ∧ (-16777216 ≤ ax ∧ ax ≤ 16777216) ∧ (-16777216 ≤ ay ∧ ay ≤ 16777216) ∧
      (-1125899906842624 ≤ u * x ∧ u * x ≤ 1125899906842624) ∧ (-1125899906842624 ≤ v * y ∧ v * y ≤ 1125899906842624) ∧ (-1125899906842624 ≤ v * x ∧ v * x ≤ 1125899906842624) ∧ (-1125899906842624 ≤ u * y ∧ u * y ≤ 1125899906842624) ∧
      (0 ≤ u * u ∧ u * u ≤ 1125899906842624) ∧ (0 ≤ v * v ∧ v * v ≤ 1125899906842624) ∧ (1 ≤ r ∧ r ≤ 2147483648) ∧
      (-144115188075855872 ≤ X ∧ X ≤ 144115188075855872) ∧ (-144115188075855872 ≤ Y ∧ Y ≤ 144115188075855872) := by
  have c1 := okc_yes (okp_yes o1).1
  have c2 := okc_yes (okp_yes o1).2
  have c3 := okc_yes (okp_yes o2).1
  have c4 := okc_yes (okp_yes o2).2
  have b := put_bd (u := hx - ax) (v := hy - ay) (x := x) (y := y) (by omega) (by omega) (by omega) (by omega) (by omega)
  unfold plX plY putX putY len32 at *
  exact ⟨hx - ax, hy - ay, _, _, _, hide rfl, hide rfl, hide rfl, hide rfl, hide rfl, hide rfl, hide rfl, by omega, by omega, c1, c2, b⟩
end Go.Proofs.YtdehnokcjnbjoaaGreat
namespace Go.Proofs.YtdehnokcjnbjoaaGreat
open Go.RowKit Go.Proofs.Gn
def cV (ax ay hx hy x y v : Int) : Int := if hx = ax ∧ hy = ay then 0 else resX (plX ax ay hx hy x y) (plY ax ay hx hy x y) v
def cE (ax ay hx hy x y : Int) : Int := if hx = ax ∧ hy = ay then 9 else resE (plX ax ay hx hy x y) (plY ax ay hx hy x y)
abbrev cR (ax ay hx hy x y : Int) : Value := .tuple #[pt (cV ax ay hx hy x y (plX ax ay hx hy x y)) (cV ax ay hx hy x y (plY ax ay hx hy x y)), .int .i64 (cE ax ay hx hy x y)]
/-- The result of a place behind its looks: E, the error; V, a coordinate. -/
def lkE (o r : Bool) (e : Int) : Int := if o then if r then e else 3 else 2
def lkV (o r : Bool) (v : Int) : Int := if o && r then v else 0
end Go.Proofs.YtdehnokcjnbjoaaGreat
namespace Go.Proofs.YtdehnokcjnbjoaaGreat
open Go.RowKit Go.Proofs.Gn
structure Axl where
  x : Int
  lim : Int
  wh : Int
structure Unt where
  kd : Int
  le : Int
  be : Int
  fr : Int
  re : Int
  wi : Int
  he : Int
  ma : Int
  st : Int
  mo : Int
  A : Option Addr
  xs : List Axl
  cap : Nat
instance : Inhabited Axl := ⟨⟨0, 0, 0⟩⟩
instance : Inhabited Unt := ⟨⟨0, 0, 0, 0, 0, 0, 0, 0, 0, 0, none, [], 0⟩⟩
/-- The cells of an axle. -/
def AxlAt (w : World) (b o : Nat) (a : Axl) : Prop := w.cell? ⟨b, o, none⟩ = some (.int .i64 a.x) ∧ w.cell? ⟨b, o + 1, none⟩ = some (.int .i64 a.lim) ∧ w.cell? ⟨b, o + 2, none⟩ = some (.int .i64 a.wh)
theorem axlAt_up {w w' : World} {b o : Nat} {a : Axl} (h : AxlAt w b o a) (hu : Up w w') : AxlAt w' b o a := ⟨up_cell hu h.1, up_cell hu h.2.1, up_cell hu h.2.2⟩
def Axls (w : World) (A : Option Addr) (xs : List Axl) : Prop := xs = [] ∨ ∃ b off, A = some ⟨b, off, none⟩ ∧ ∀ k (h : k < xs.length), AxlAt w b (off + k * 3) xs[k]
theorem axls_up {w w' : World} {A : Option Addr} {xs : List Axl} (h : Axls w A xs) (hu : Up w w') : Axls w' A xs := by
  rcases h with h | ⟨b, off, hA, hc⟩
  · exact .inl h
  · exact .inr ⟨b, off, hA, fun k hk => axlAt_up (hc k hk) hu⟩
/-- The cells of a unit. -/
def UntAt (w : World) (b o : Nat) (u : Unt) : Prop :=
  w.cell? ⟨b, o, none⟩ = some (.int .i64 u.kd) ∧ w.cell? ⟨b, o + 1, none⟩ = some (.int .i64 u.le) ∧ w.cell? ⟨b, o + 2, none⟩ = some (.int .i64 u.be) ∧ w.cell? ⟨b, o + 3, none⟩ = some (.int .i64 u.fr) ∧ w.cell? ⟨b, o + 4, none⟩ = some (.int .i64 u.re) ∧ w.cell? ⟨b, o + 5, none⟩ = some (.int .i64 u.wi) ∧ w.cell? ⟨b, o + 6, none⟩ = some (.int .i64 u.he) ∧ w.cell? ⟨b, o + 7, none⟩ = some (.int .i64 u.ma) ∧ w.cell? ⟨b, o + 8, none⟩ = some (.int .i64 u.st) ∧ w.cell? ⟨b, o + 9, none⟩ = some (.int .i64 u.mo) ∧ w.cell? ⟨b, o + 10, none⟩ = some (.slice u.A u.xs.length u.cap) ∧ Axls w u.A u.xs ∧ u.xs.length ≤ 9223372036854775807
theorem untAt_up {w w' : World} {b o : Nat} {u : Unt} (h : UntAt w b o u) (hu : Up w w') : UntAt w' b o u := by
  obtain ⟨h0, h1, h2, h3, h4, h5, h6, h7, h8, h9, h10, h11, h12⟩ := h
  exact ⟨up_cell hu h0, up_cell hu h1, up_cell hu h2, up_cell hu h3, up_cell hu h4, up_cell hu h5, up_cell hu h6, up_cell hu h7, up_cell hu h8, up_cell hu h9, up_cell hu h10, axls_up h11 hu, h12⟩
def Unts (w : World) (A : Option Addr) (us : List Unt) : Prop := us = [] ∨ ∃ b off, A = some ⟨b, off, none⟩ ∧ ∀ k (h : k < us.length), UntAt w b (off + k * 11) us[k]
theorem unts_up {w w' : World} {A : Option Addr} {us : List Unt} (h : Unts w A us) (hu : Up w w') : Unts w' A us := by
  rcases h with h | ⟨b, off, hA, hc⟩
  · exact .inl h
  · exact .inr ⟨b, off, hA, fun k hk => untAt_up (hc k hk) hu⟩
abbrev uV (kd le be fr re wi he ma st mo : Int) (A : Option Addr) (n cap : Nat) : Value := .agg #[.int .i64 kd, .int .i64 le, .int .i64 be, .int .i64 fr, .int .i64 re, .int .i64 wi, .int .i64 he, .int .i64 ma, .int .i64 st, .int .i64 mo, .slice A n cap]
abbrev uL (kd le be fr re wi he ma st mo : Int) (A : Option Addr) (n cap : Nat) : List Value := [.int .i64 kd, .int .i64 le, .int .i64 be, .int .i64 fr, .int .i64 re, .int .i64 wi, .int .i64 he, .int .i64 ma, .int .i64 st, .int .i64 mo, .slice A n cap]
abbrev veV (s : ByteArray) (A : Option Addr) (n cap : Nat) (f t : Int) : Value := .agg #[.string s, .slice A n cap, .int .i64 f, .int .i64 t]
/-! ### Which ones are valid -/
def szU (kd le be fr re wi he ma st mo : Int) : Bool := win kd 0 3 && (win le 100 131072 && (win be (-le) 131072 && (win fr 0 131072 && (win re 0 131072 && (win wi 0 131072 && (win he 0 131072 && (win ma 1 1048576 && (win st 0 900 && win mo 0 40))))))))
def axG (L : Int) : Int → List Axl → Bool
  | _, [] => true
  | p, a :: l => (win a.x p L && (win a.lim 1 1048576 && win a.wh 1 16)) && axG L a.x l
def axU (le re : Int) (xs : List Axl) : Bool := axG (le + re) 0 xs && decide (0 < xs.length)
def okU (u : Unt) : Bool := szU u.kd u.le u.be u.fr u.re u.wi u.he u.ma u.st u.mo && axU u.le u.re u.xs
theorem axG_step {L p : Int} {xs : List Axl} {k : Nat} (h : k < xs.length) : axG L p (xs.drop k) = ((win xs[k].x p L && (win xs[k].lim 1 1048576 && win xs[k].wh 1 16)) && axG L xs[k].x (xs.drop (k + 1))) := by
  rw [List.drop_eq_getElem_cons h]; rfl
theorem all_step {α : Type} {f : α → Bool} {l : List α} {k : Nat} (h : k < l.length) : (l.drop k).all f = (f l[k] && (l.drop (k + 1)).all f) := by
  rw [List.drop_eq_getElem_cons h]; rfl
theorem any_step {α : Type} {f : α → Bool} {l : List α} {k : Nat} (h : k < l.length) : (l.drop k).any f = (f l[k] || (l.drop (k + 1)).any f) := by
  rw [List.drop_eq_getElem_cons h]; rfl
theorem szU_bd {kd le be fr re wi he ma st mo : Int} (h : szU kd le be fr re wi he ma st mo = true) : (0 ≤ kd ∧ kd ≤ 3) ∧ (100 ≤ le ∧ le ≤ 131072) ∧ (-le ≤ be ∧ be ≤ 131072) ∧ (0 ≤ fr ∧ fr ≤ 131072) ∧ (0 ≤ re ∧ re ≤ 131072) ∧ (0 ≤ wi ∧ wi ≤ 131072) ∧ (0 ≤ he ∧ he ≤ 131072) ∧ (1 ≤ ma ∧ ma ≤ 1048576) ∧ (0 ≤ st ∧ st ≤ 900) ∧ 0 ≤ mo ∧ mo ≤ 40 := by
  unfold szU at h
  simp only [Bool.and_eq_true, win_iff] at h
  exact h
end Go.Proofs.YtdehnokcjnbjoaaGreat
namespace Go.Proofs.YtdehnokcjnbjoaaGreat
open Go.RowKit Go.Proofs.Gn
def hdK : List Unt → Int
  | [] => 0
  | u :: _ => u.kd
def auV (us : List Unt) : Bool := us.all okU && (decide (0 < us.length) && decide (hdK us = 0))
def bigU (u : Unt) : Bool := decide (24 < u.xs.length)
def tmV (us : List Unt) : Bool := decide (12 < us.length) || us.any bigU
theorem hdK_get {us : List Unt} (h : 0 < us.length) : hdK us = us[0].kd := by
  cases us with
  | nil => simp at h
  | cons u l => rfl
/-- Which error a vehicle has. -/
def veE (s : ByteArray) (us : List Unt) (f t : Int) : Int := if tmV us = true then 6 else if nmS s && (auV us && (win f 0 t && decide (t < us.length))) then 0 else 2
end Go.Proofs.YtdehnokcjnbjoaaGreat
