/- A range over a function whose iterator keeps boxes of its own: what holds where it yields must abide whatever lies above. A range over a function that yields what lies in memory that it has made: the contract says, too, what is true where it yields. -/
import Derived.RangeFuncNested
import Derived.RangeFuncLeaves
namespace Go.Proofs.YtooochbfnmmnkaaGreat
open Go.RowKit
/-- An iterator yields xs one after another; where it yields x, Y x holds; a round that goes on keeps Kp. -/
def SeqY {α : Type} (F : Fence) (n : Nat) (P : Program) (g : Nat) (lb : Array Value) (encs : α → Array Value) (Kp : World → World → Prop) (Y : α → World → Prop) (S Sp : List α → Prop) (w : World) : Prop :=
  ∀ (l : Nat) (J Jx : List α → World → Prop) (W : World), Below w.heap.size w W → w.heap.size + 2 ≤ W.heap.size → l < W.heap.size → OwnFrom W.heap.size J → OwnFrom W.heap.size Jx → J [] W →
    (∀ xs x V, J xs V → Y x V → YieldAt F (n - 1) P l (encs x) V fun e V' => (e = .returned (.bool true) ∧ J (xs ++ [x]) V' ∧ Kp V V') ∨ (e = .returned (.bool false) ∧ Jx (xs ++ [x]) V' ∧ KeepsFrom (l + 1) V V')) →
    CallsIn F n P g (#[.func (.yield l) #[] #[]] ++ lb) W fun e V => (∃ v, e = .returned v) ∧ ((∃ xs, S xs ∧ J xs V) ∨ ∃ xs, Sp xs ∧ Jx xs V)
/-- The two blocks that a loop lays ahead of its rounds. -/
def TwoBk (B : Nat) (r : Loop) (V : World) : Prop := V.heap[B]? = some (.deferred (some [])) ∧ V.heap[B + 1]? = some (.loop r)
theorem TwoBk.turn {B : Nat} {r r' : Loop} {V : World} (h : TwoBk B r V) : TwoBk B r' (V.putObj (B + 1) (.loop r')) :=
  ⟨(World.putObj_heap_other (by omega)).trans h.1, World.putObj_heap_same (Array.getElem?_eq_some_iff.1 h.2).1⟩
theorem TwoBk.kept {B : Nat} {r : Loop} {V V' : World} (h : TwoBk B r V) (k : KeepsFrom B V V') : TwoBk B r V' := ⟨k.same _ _ (Nat.le_refl _) h.1 rfl, k.same _ _ (by omega) h.2 rfl⟩
theorem TwoBk.walks {B : Nat} {r : Loop} {V V' : World} {row : Option Nat} (h : TwoBk B r V) (g : V.grownBy V' row) (k : ∀ j, row = some j → ∃ o : Obj, V.heap[j]? = some o ∧ o.isWalk = true) : TwoBk B r V' :=
  ⟨(grownBy_keeps g k h.1 rfl).trans h.1, (grownBy_keeps g k h.2 rfl).trans h.2⟩
theorem TwoBk.far {B : Nat} {r : Loop} {V V' : World} {row : Option Nat} (h : TwoBk B r V) (g : V.grownBy V' row) (k : ∀ j, row = some j → B + 1 < j) : TwoBk B r V' :=
  ⟨(g.block _ (Array.getElem?_eq_some_iff.1 h.1).1 (fun e => by have := k _ e.symm; omega)).trans h.1, (g.block _ (Array.getElem?_eq_some_iff.1 h.2).1 (fun e => by have := k _ e.symm; omega)).trans h.2⟩
theorem TwoBk.new (w : World) (r : Loop) : TwoBk w.heap.size r ((w.alloc (.deferred (some []))).alloc (.loop r)) := by
  constructor
  · exact (Below.heap_alloc _ _ _ (by simp)).trans (World.alloc_heap_new w _)
  · have t := World.alloc_heap_new (w.alloc (.deferred (some []))) (.loop r)
    rwa [World.size_alloc] at t
theorem own_turn {β : Type} {B : Nat} {I : β → World → Prop} (hI : OwnFrom B I) {s : β} {V : World} {r : Loop} (h : TwoBk B r V) (r' : Loop) (hs : I s V) : I s (V.putObj (B + 1) (.loop r')) := hI.putObj _ hs (by omega) h.2 rfl
theorem kf_mono {n m : Nat} {W W' : World} (h : KeepsFrom n W W') (hn : n ≤ m) : KeepsFrom m W W' := ⟨h.size, fun k o hk => h.same k o (Nat.le_trans hn hk)⟩
theorem kf_put {n : Nat} (W : World) (j : Nat) (o' : Obj) (hj : j < n) : KeepsFrom n W (W.putObj j o') := ⟨by simp, fun k ok hk hh _ => (World.putObj_heap_other (by omega)).trans hh⟩
theorem wpIn_rangeFunc_ownY {F : Fence} {n : Nat} {P : Program} {α : Type} {g : Operand} {ps : Array Tmp} {assign body : Code} {Q : Exit → Act → World → Prop} {a : Act} {w : World}
    (hro : F.round = none) (h1 : 1 ≤ n) {gf : Nat} {lb : Array Value} (hg : a.eval g = .func (.func gf) #[] lb) (hFg : F.fn gf) (eg : ∀ args w, (callFunc gf args).run P w = .ok (.enter gf args) w)
    {encs : α → Array Value} {Kp : World → World → Prop} {Y : α → World → Prop} {S Sp : List α → Prop} {w0 : World} (hseq : SeqY F (n - 1) P gf lb encs Kp Y S Sp w0) (hb0 : Below w0.heap.size w0 w)
    (hKt : ∀ {A B C : World}, Kp A B → Kp B C → Kp A C) (hKb : ∀ (V : World) (o o' : Obj), V.heap[w.heap.size + 1]? = some o → o.isCells = false → o.isWalk = false → Kp V (V.putObj (w.heap.size + 1) o')) (hps : ∀ x, (encs x).size = ps.size)
    (I : List α → World → Prop) (Ix : Code → List α → World → Prop) (hI : OwnFrom w.heap.size I) (hIx : ∀ c, OwnFrom w.heap.size (Ix c)) (h0 : I [] w) (Ax : List α → α → Act → World → Prop) (hAx : ∀ xs x a', OwnFrom w.heap.size (fun (_ : Unit) W => Ax xs x a' W))
    (hassign : ∀ (l : Nat) (xs : List α) (x : α) (V : World) (K : Act → World → Prop), I xs V → Y x V → (∀ a' V', KeepsFrom w.heap.size V V' → Kp V V' → I xs V' → Ax xs x a' V' → K a' V') →
      assign.wpIn (F.inRound l) (n - 1 - 1) P (Exit.then K (fun _ _ _ => False)) { tmps := (ps.zip (encs x)).foldl (fun t (p, v) => t.setIfInBounds p v) a.tmps, defers := [] } V)
    (hbody : ∀ (l : Nat) (xs : List α) (x : α) (a' : Act) (V : World), w.heap.size ≤ l → (∃ r, V.heap[l]? = some (.loop r)) → I xs V → Ax xs x a' V → body.wpIn (F.inRound l) (n - 1 - 1) P (ownPostG w.heap.size Kp I Ix (xs ++ [x]) V) a' V)
    (hdone : ∀ (D : Nat) (xs : List α) (V : World), w.heap.size ≤ D → S xs → I xs V → V.heap[D]? = some (.deferred (some [])) → Q .normal { a with defers := { target := .collected D, args := #[] } :: a.defers } V)
    (hstop : ∀ (D : Nat) (c : Code) (xs : List α) (V : World), w.heap.size ≤ D → Sp xs → Ix c xs V → V.heap[D]? = some (.deferred (some [])) → c.wpIn F n P Q { a with defers := { target := .collected D, args := #[] } :: a.defers } V) :
    (Code.rangeFunc g ps assign body).wpIn F n P Q a w := by
  refine wpIn_rangeFunc fun fn hfn => ?_
  rw [hro]
  generalize hB : w.heap.size = B at *
  let R : LoopState → Option Code → Loop := fun st pe => { state := st, pending := pe, fn, tmps := a.tmps, params := ps, assign, body, defers := B }
  have hnew := TwoBk.new w (R .ready none)
  have henter : (Instr.enterLoop fn a.tmps ps assign body none).run P w = .ok (B + 1, [{ target := .collected B, args := #[] }]) ((w.alloc (.deferred (some []))).alloc (.loop (R .ready none))) := by
    have t := run_enterLoop_outer (P := P) (w := w) fn a.tmps ps assign body
    rw [hB] at t
    exact t
  have hV0 : I [] ((w.alloc (.deferred (some []))).alloc (.loop (R .ready none))) := hI.alloc _ (hI.alloc _ h0)
  have hbw : Below w0.heap.size w0 ((w.alloc (.deferred (some []))).alloc (.loop (R .ready none))) := (hb0.alloc hb0.size _).alloc (by simp; have := hb0.size; omega) _
  have hsz : B ≤ ((w.alloc (.deferred (some []))).alloc (.loop (R .ready none))).heap.size := by simp; omega
  generalize (w.alloc (.deferred (some []))).alloc (.loop (R .ready none)) = V0 at *
  rw [hB] at hnew
  refine ⟨B + 1, _, V0, { target := .fn (.func gf) lb, args := #[.func (.yield (B + 1)) #[] #[]] }, V0, gf, #[.func (.yield (B + 1)) #[] #[]] ++ lb, V0, henter, ?_, ?_, ?_, fun _ => h1, ?_⟩
  · simp only [resolve, hg]; simp [go_sem]
  · intro f' hf'; simp [Target.leads] at hf'; exact hf' ▸ hFg
  · simp [invoke, go_sem, eg]
  have hlt : B + 1 < V0.heap.size := (Array.getElem?_eq_some_iff.1 hnew.2).1
  have hw2 : w0.heap.size + 2 ≤ V0.heap.size := by have := hb0.size; omega
  refine (hseq (B + 1) (fun xs V => TwoBk B (R .ready none) V ∧ I xs V) (fun xs V => ∃ c, TwoBk B (R .done (some c)) V ∧ Ix c xs V) V0 hbw hw2 hlt ?_ ?_ ⟨hnew, hV0⟩ ?_).mono ?_
  · exact fun s U U' row hs gr hr => ⟨hs.1.far gr (fun j e => Nat.lt_of_lt_of_le hlt (hr j e).1), hI _ _ _ _ hs.2 gr (fun j e => ⟨Nat.le_trans hsz (hr j e).1, (hr j e).2⟩)⟩
  · exact fun s U U' row ⟨c, h2, hs⟩ gr hr => ⟨c, h2.far gr (fun j e => Nat.lt_of_lt_of_le hlt (hr j e).1), hIx c _ _ _ _ hs gr (fun j e => ⟨Nat.le_trans hsz (hr j e).1, (hr j e).2⟩)⟩
  · rintro xs x V ⟨h2, hi⟩ hy
    refine ⟨fn, _, assign, body, run_yield (P := P) (r := R .ready none) h2.2 (hps x), roundIn_of_wpIn hfn (hassign _ xs x V _ hi hy ?_)⟩
    intro a' V1 kf kp hi1 hax
    have h3 := h2.kept kf
    refine ⟨_, run_beginRound h3.2 rfl, ?_⟩
    have h4 : TwoBk B { R .ready none with state := .busy } (V1.putObj (B + 1) (.loop { R .ready none with state := .busy })) := h3.turn
    have kb := hKb V1 _ (.loop { R .ready none with state := .busy }) h3.2 rfl rfl
    refine wpIn_mono (hbody _ xs x a' _ (by omega) ⟨_, h4.2⟩ (own_turn hI h3 _ hi1) (own_turn (hAx xs x a') h3 _ (s := ()) hax)) ?_
    have fin : ∀ (jump : Option Code) {V2 : World}, KeepsFrom B (V1.putObj (B + 1) (.loop { R .ready none with state := .busy })) V2 →
        TwoBk B { R .ready none with state := .busy } V2 ∧ (Instr.endRound (B + 1) jump).run P V2 = .ok (.bool jump.isNone) (V2.putObj (B + 1) (.loop (R (if jump.isNone then .ready else .done) jump))) := fun jump V2 k2 =>
      ⟨h4.kept k2, run_endRound (P := P) jump (h4.kept k2).2⟩
    have left : ∀ (c : Code) {V2 : World}, KeepsFrom B (V1.putObj (B + 1) (.loop { R .ready none with state := .busy })) V2 → Ix c (xs ++ [x]) V2 →
        ∃ v V3, (Instr.endRound (B + 1) (some c)).run P V2 = .ok v V3 ∧ ((Ending.returned v = .returned (.bool true) ∧ (TwoBk B (R .ready none) V3 ∧ I (xs ++ [x]) V3) ∧ Kp V V3) ∨ (Ending.returned v = .returned (.bool false) ∧ (∃ c, TwoBk B (R .done (some c)) V3 ∧ Ix c (xs ++ [x]) V3) ∧ KeepsFrom (B + 1 + 1) V V3)) := fun c V2 k2 hx =>
      ⟨_, _, (fin (some c) k2).2, .inr ⟨rfl, ⟨c, (fin (some c) k2).1.turn, own_turn (hIx c) (fin (some c) k2).1 _ hx⟩, (kf_mono kf (by omega)).trans ((kf_put _ _ _ (by omega)).trans ((kf_mono k2 (by omega)).trans (kf_put _ _ _ (by omega))))⟩⟩
    intro e a2 V2 hp
    match e, hp with
    | .normal, ⟨k2, kp2, hi2⟩ =>
      exact ⟨_, _, (fin none k2).2, .inl ⟨rfl, ⟨(fin none k2).1.turn, own_turn hI (fin none k2).1 _ hi2⟩, hKt kp (hKt (hKt kb kp2) (hKb _ _ _ (fin none k2).1.2 rfl rfl))⟩⟩
    | .ret, ⟨k2, hx⟩ => exact left _ k2 hx
    | .exit _, ⟨k2, hx⟩ => exact left _ k2 hx
    | .goto _, ⟨k2, hx⟩ => exact left _ k2 hx
    | .panic _, hp => exact hp.elim
    | .outgrown, hp => exact hp.elim
  · rintro e V ⟨⟨v, rfl⟩, ⟨xs, hS, h2, hi⟩ | ⟨xs, hS, c, h2, hi⟩⟩
    · exact ⟨none, _, run_endLoop (P := P) h2.2 (by simp [R]), hdone B xs _ (Nat.le_refl _) hS (own_turn hI h2 _ hi) ((World.putObj_heap_other (by omega)).trans h2.1)⟩
    · exact ⟨some c, _, run_endLoop (P := P) h2.2 (by simp [R]), hstop B c xs _ (Nat.le_refl _) hS (own_turn (hIx c) h2 _ hi) ((World.putObj_heap_other (by omega)).trans h2.1)⟩
theorem at_wpIn {F : Fence} {n : Nat} {P : Program} {c : Code} {Q : Exit → Act → World → Prop} {a : Act} {w : World} (h : ∀ w', w' = w → c.wpIn F n P Q a w') : c.wpIn F n P Q a w := h w rfl
end Go.Proofs.YtooochbfnmmnkaaGreat
namespace Go.Proofs.YtooochbfnmmnkaaGreat
open Go.RowKit
/-- What abides any change from a block on. -/
def BeInv {β : Type} (B : Nat) (I : β → World → Prop) : Prop := ∀ s W W', I s W → Below B W W' → I s W'
/-- An iterator yields xs one after another; where it yields x, Y x holds; a round that goes on keeps Kp. Its caller's invariant abides changes of blocks from its call on. -/
def SeqZ {α : Type} (F : Fence) (n : Nat) (P : Program) (g : Nat) (lb : Array Value) (encs : α → Array Value) (Kp : World → World → Prop) (Y : α → World → Prop) (S Sp : List α → Prop) (w : World) : Prop :=
  ∀ (l : Nat) (J Jx : List α → World → Prop) (W : World), Below w.heap.size w W → w.heap.size + 2 ≤ W.heap.size → l < W.heap.size → BeInv W.heap.size J → BeInv W.heap.size Jx → J [] W →
    (∀ xs x V, J xs V → Y x V → YieldAt F (n - 1) P l (encs x) V fun e V' => (e = .returned (.bool true) ∧ J (xs ++ [x]) V' ∧ Kp V V') ∨ (e = .returned (.bool false) ∧ Jx (xs ++ [x]) V' ∧ KeepsFrom (l + 1) V V')) →
    CallsIn F n P g (#[.func (.yield l) #[] #[]] ++ lb) W fun e V => (∃ v, e = .returned v) ∧ ((∃ xs, S xs ∧ J xs V) ∨ ∃ xs, Sp xs ∧ Jx xs V)
theorem TwoBk.below {B n : Nat} {r : Loop} {V V' : World} (h : TwoBk B r V) (b : Below n V V') (hn : B + 1 < n) : TwoBk B r V' :=
  ⟨(b.block B (by omega)).trans h.1, (b.block (B + 1) (by omega)).trans h.2⟩
theorem wpIn_rangeFunc_ownZ {F : Fence} {n : Nat} {P : Program} {α : Type} {g : Operand} {ps : Array Tmp} {assign body : Code} {Q : Exit → Act → World → Prop} {a : Act} {w : World}
    (hro : F.round = none) (h1 : 1 ≤ n) {gf : Nat} {lb : Array Value} (hg : a.eval g = .func (.func gf) #[] lb) (hFg : F.fn gf) (eg : ∀ args w, (callFunc gf args).run P w = .ok (.enter gf args) w)
    {encs : α → Array Value} {Kp : World → World → Prop} {Y : α → World → Prop} {S Sp : List α → Prop} {w0 : World} (hseq : SeqZ F (n - 1) P gf lb encs Kp Y S Sp w0) (hb0 : Below w0.heap.size w0 w)
    (hKt : ∀ {A B C : World}, Kp A B → Kp B C → Kp A C) (hKb : ∀ (V : World) (o o' : Obj), V.heap[w.heap.size + 1]? = some o → o.isCells = false → o.isWalk = false → Kp V (V.putObj (w.heap.size + 1) o')) (hps : ∀ x, (encs x).size = ps.size)
    (I : List α → World → Prop) (Ix : Code → List α → World → Prop) (hI : OwnFrom w.heap.size I) (hIx : ∀ c, OwnFrom w.heap.size (Ix c)) (hIb : ∀ n, w.heap.size + 2 ≤ n → BeInv n I) (hIxb : ∀ c n, w.heap.size + 2 ≤ n → BeInv n (Ix c)) (h0 : I [] w) (Ax : List α → α → Act → World → Prop) (hAx : ∀ xs x a', OwnFrom w.heap.size (fun (_ : Unit) W => Ax xs x a' W))
    (hassign : ∀ (l : Nat) (xs : List α) (x : α) (V : World) (K : Act → World → Prop), I xs V → Y x V → (∀ a' V', KeepsFrom w.heap.size V V' → Kp V V' → I xs V' → Ax xs x a' V' → K a' V') →
      assign.wpIn (F.inRound l) (n - 1 - 1) P (Exit.then K (fun _ _ _ => False)) { tmps := (ps.zip (encs x)).foldl (fun t (p, v) => t.setIfInBounds p v) a.tmps, defers := [] } V)
    (hbody : ∀ (l : Nat) (xs : List α) (x : α) (a' : Act) (V : World), w.heap.size ≤ l → (∃ r, V.heap[l]? = some (.loop r)) → I xs V → Ax xs x a' V → body.wpIn (F.inRound l) (n - 1 - 1) P (ownPostG w.heap.size Kp I Ix (xs ++ [x]) V) a' V)
    (hdone : ∀ (D : Nat) (xs : List α) (V : World), w.heap.size ≤ D → S xs → I xs V → V.heap[D]? = some (.deferred (some [])) → Q .normal { a with defers := { target := .collected D, args := #[] } :: a.defers } V)
    (hstop : ∀ (D : Nat) (c : Code) (xs : List α) (V : World), w.heap.size ≤ D → Sp xs → Ix c xs V → V.heap[D]? = some (.deferred (some [])) → c.wpIn F n P Q { a with defers := { target := .collected D, args := #[] } :: a.defers } V) :
    (Code.rangeFunc g ps assign body).wpIn F n P Q a w := by
  refine wpIn_rangeFunc fun fn hfn => ?_
  rw [hro]
  generalize hB : w.heap.size = B at *
  let R : LoopState → Option Code → Loop := fun st pe => { state := st, pending := pe, fn, tmps := a.tmps, params := ps, assign, body, defers := B }
  have hnew := TwoBk.new w (R .ready none)
  have henter : (Instr.enterLoop fn a.tmps ps assign body none).run P w = .ok (B + 1, [{ target := .collected B, args := #[] }]) ((w.alloc (.deferred (some []))).alloc (.loop (R .ready none))) := by
    have t := run_enterLoop_outer (P := P) (w := w) fn a.tmps ps assign body
    rw [hB] at t
    exact t
  have hV0 : I [] ((w.alloc (.deferred (some []))).alloc (.loop (R .ready none))) := hI.alloc _ (hI.alloc _ h0)
  have hbw : Below w0.heap.size w0 ((w.alloc (.deferred (some []))).alloc (.loop (R .ready none))) := (hb0.alloc hb0.size _).alloc (by simp; have := hb0.size; omega) _
  have hsz : B + 2 ≤ ((w.alloc (.deferred (some []))).alloc (.loop (R .ready none))).heap.size := by simp; omega
  generalize (w.alloc (.deferred (some []))).alloc (.loop (R .ready none)) = V0 at *
  rw [hB] at hnew
  refine ⟨B + 1, _, V0, { target := .fn (.func gf) lb, args := #[.func (.yield (B + 1)) #[] #[]] }, V0, gf, #[.func (.yield (B + 1)) #[] #[]] ++ lb, V0, henter, ?_, ?_, ?_, fun _ => h1, ?_⟩
  · simp only [resolve, hg]; simp [go_sem]
  · intro f' hf'; simp [Target.leads] at hf'; exact hf' ▸ hFg
  · simp [invoke, go_sem, eg]
  have hlt : B + 1 < V0.heap.size := (Array.getElem?_eq_some_iff.1 hnew.2).1
  have hw2 : w0.heap.size + 2 ≤ V0.heap.size := by have := hb0.size; omega
  refine (hseq (B + 1) (fun xs V => TwoBk B (R .ready none) V ∧ I xs V) (fun xs V => ∃ c, TwoBk B (R .done (some c)) V ∧ Ix c xs V) V0 hbw hw2 hlt ?_ ?_ ⟨hnew, hV0⟩ ?_).mono ?_
  · exact fun s U U' hs hb => ⟨hs.1.below hb hlt, hIb _ (by omega) s U U' hs.2 hb⟩
  · exact fun s U U' ⟨c, h2, hs⟩ hb => ⟨c, h2.below hb hlt, hIxb c _ (by omega) s U U' hs hb⟩
  · rintro xs x V ⟨h2, hi⟩ hy
    refine ⟨fn, _, assign, body, run_yield (P := P) (r := R .ready none) h2.2 (hps x), roundIn_of_wpIn hfn (hassign _ xs x V _ hi hy ?_)⟩
    intro a' V1 kf kp hi1 hax
    have h3 := h2.kept kf
    refine ⟨_, run_beginRound h3.2 rfl, ?_⟩
    have h4 : TwoBk B { R .ready none with state := .busy } (V1.putObj (B + 1) (.loop { R .ready none with state := .busy })) := h3.turn
    have kb := hKb V1 _ (.loop { R .ready none with state := .busy }) h3.2 rfl rfl
    refine wpIn_mono (hbody _ xs x a' _ (by omega) ⟨_, h4.2⟩ (own_turn hI h3 _ hi1) (own_turn (hAx xs x a') h3 _ (s := ()) hax)) ?_
    have fin : ∀ (jump : Option Code) {V2 : World}, KeepsFrom B (V1.putObj (B + 1) (.loop { R .ready none with state := .busy })) V2 →
        TwoBk B { R .ready none with state := .busy } V2 ∧ (Instr.endRound (B + 1) jump).run P V2 = .ok (.bool jump.isNone) (V2.putObj (B + 1) (.loop (R (if jump.isNone then .ready else .done) jump))) := fun jump V2 k2 =>
      ⟨h4.kept k2, run_endRound (P := P) jump (h4.kept k2).2⟩
    have left : ∀ (c : Code) {V2 : World}, KeepsFrom B (V1.putObj (B + 1) (.loop { R .ready none with state := .busy })) V2 → Ix c (xs ++ [x]) V2 →
        ∃ v V3, (Instr.endRound (B + 1) (some c)).run P V2 = .ok v V3 ∧ ((Ending.returned v = .returned (.bool true) ∧ (TwoBk B (R .ready none) V3 ∧ I (xs ++ [x]) V3) ∧ Kp V V3) ∨ (Ending.returned v = .returned (.bool false) ∧ (∃ c, TwoBk B (R .done (some c)) V3 ∧ Ix c (xs ++ [x]) V3) ∧ KeepsFrom (B + 1 + 1) V V3)) := fun c V2 k2 hx =>
      ⟨_, _, (fin (some c) k2).2, .inr ⟨rfl, ⟨c, (fin (some c) k2).1.turn, own_turn (hIx c) (fin (some c) k2).1 _ hx⟩, (kf_mono kf (by omega)).trans ((kf_put _ _ _ (by omega)).trans ((kf_mono k2 (by omega)).trans (kf_put _ _ _ (by omega))))⟩⟩
    intro e a2 V2 hp
    match e, hp with
    | .normal, ⟨k2, kp2, hi2⟩ =>
      exact ⟨_, _, (fin none k2).2, .inl ⟨rfl, ⟨(fin none k2).1.turn, own_turn hI (fin none k2).1 _ hi2⟩, hKt kp (hKt (hKt kb kp2) (hKb _ _ _ (fin none k2).1.2 rfl rfl))⟩⟩
    | .ret, ⟨k2, hx⟩ => exact left _ k2 hx
    | .exit _, ⟨k2, hx⟩ => exact left _ k2 hx
    | .goto _, ⟨k2, hx⟩ => exact left _ k2 hx
    | .panic _, hp => exact hp.elim
    | .outgrown, hp => exact hp.elim
  · rintro e V ⟨⟨v, rfl⟩, ⟨xs, hS, h2, hi⟩ | ⟨xs, hS, c, h2, hi⟩⟩
    · exact ⟨none, _, run_endLoop (P := P) h2.2 (by simp [R]), hdone B xs _ (Nat.le_refl _) hS (own_turn hI h2 _ hi) ((World.putObj_heap_other (by omega)).trans h2.1)⟩
    · exact ⟨some c, _, run_endLoop (P := P) h2.2 (by simp [R]), hstop B c xs _ (Nat.le_refl _) hS (own_turn (hIx c) h2 _ hi) ((World.putObj_heap_other (by omega)).trans h2.1)⟩
end Go.Proofs.YtooochbfnmmnkaaGreat
