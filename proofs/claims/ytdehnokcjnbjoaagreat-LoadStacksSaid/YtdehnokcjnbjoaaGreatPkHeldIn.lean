/- Inside a fence: an operation of a region of open order may come first if it yields the same value in all worlds with a property that every operation of the region keeps. Chains of points: the corners that are left when a sorted list is walked along. The chains of a sorted list, by indexes. The hull of a sorted list: a polygon that turns to the left, with all points on its left. What it contains. What a polygon contains: what has a corner that is not behind it, in every direction. Sorted lists of points in which each is once: there is one with given points. -/
import Derived.OrdersHeld
import Derived.OrdersIn
import Derived.RegionIn
set_option linter.unusedVariables false
namespace Go.Proofs.Gx
abbrev P2 := Int × Int
/-- The cross product. -/
def crs (u v : P2) : Int := u.1 * v.2 - u.2 * v.1
def sb (a b : P2) : P2 := (a.1 - b.1, a.2 - b.2)
def ad (a b : P2) : P2 := (a.1 + b.1, a.2 + b.2)
def ng (a : P2) : P2 := (-a.1, -a.2)
/-- The turn of three points, before its sign is taken. -/
def dt (a b c : P2) : Int := (b.1 - a.1) * (c.2 - a.2) - (b.2 - a.2) * (c.1 - a.1)
/-- Forward: to the right, or straight up. -/
def fw (u : P2) : Prop := 0 < u.1 ∨ u.1 = 0 ∧ 0 < u.2
def lt2 (a b : P2) : Prop := a.1 < b.1 ∨ a.1 = b.1 ∧ a.2 < b.2
def le2 (a b : P2) : Prop := a = b ∨ lt2 a b
instance (a b : P2) : Decidable (lt2 a b) := by unfold lt2; exact inferInstance
instance (a b : P2) : Decidable (le2 a b) := by unfold le2; exact inferInstance
theorem fw_sb {a b : P2} : fw (sb b a) ↔ lt2 a b := by unfold fw sb lt2; simp only; omega
theorem lt2_irrefl (a : P2) : ¬ lt2 a a := by unfold lt2; omega
theorem lt2_trans {a b c : P2} (h : lt2 a b) (k : lt2 b c) : lt2 a c := by unfold lt2 at *; omega
theorem lt2_asymm {a b : P2} (h : lt2 a b) : ¬ lt2 b a := by unfold lt2 at *; omega
theorem lt2_tri (a b : P2) : lt2 a b ∨ a = b ∨ lt2 b a := by
  obtain ⟨a1, a2⟩ := a; obtain ⟨b1, b2⟩ := b
  unfold lt2; simp only [Prod.mk.injEq]; omega
theorem lt2_ne {a b : P2} (h : lt2 a b) : a ≠ b := fun e => lt2_irrefl b (e ▸ h)
theorem le2_lt2 {a b c : P2} (h : le2 a b) (k : lt2 b c) : lt2 a c := by rcases h with rfl | h; exact k; exact lt2_trans h k
theorem lt2_le2 {a b c : P2} (h : lt2 a b) (k : le2 b c) : lt2 a c := by rcases k with rfl | k; exact h; exact lt2_trans h k
theorem le2_trans {a b c : P2} (h : le2 a b) (k : le2 b c) : le2 a c := by rcases h with rfl | h; exact k; exact .inr (lt2_le2 h k)
theorem le2_refl (a : P2) : le2 a a := .inl rfl
theorem pos_left {a b : Int} (h : 0 < a * b) (hb : 0 < b) : 0 < a := by
  rcases Int.lt_trichotomy a 0 with c | c | c
  · have := Int.mul_neg_of_neg_of_pos c hb; omega
  · subst c; simp at h
  · exact c
theorem nonneg_left {a b : Int} (h : 0 ≤ a * b) (hb : 0 < b) : 0 ≤ a := by
  rcases Int.lt_trichotomy a 0 with c | c | c
  · have := Int.mul_neg_of_neg_of_pos c hb; omega
  · omega
  · omega
theorem cramer1 (u v w : P2) : crs u w * v.1 = crs v w * u.1 + crs u v * w.1 := by unfold crs; grind
theorem cramer2 (u v w : P2) : crs u w * v.2 = crs v w * u.2 + crs u v * w.2 := by unfold crs; grind
/-- Among ways forward, to be to the left is transitive. -/
theorem crs_trans {u v w : P2} (hu : fw u) (hv : fw v) (hw : fw w) (h1 : 0 ≤ crs u v) (h2 : 0 ≤ crs v w) : 0 ≤ crs u w := by
  have c := cramer1 u v w
  rcases hv with v1 | ⟨v1, v2⟩
  · refine nonneg_left (b := v.1) ?_ v1
    rw [c]
    have a1 : 0 ≤ u.1 := by rcases hu with h | h <;> omega
    have a2 : 0 ≤ w.1 := by rcases hw with h | h <;> omega
    have := Int.mul_nonneg h2 a1
    have := Int.mul_nonneg h1 a2
    omega
  · have e : w.1 = 0 := by
      rcases hw with h | h
      · exfalso
        have : crs v w = - (v.2 * w.1) := by unfold crs; rw [v1]; omega
        have := Int.mul_pos v2 h
        omega
      · exact h.1
    have w2 : 0 < w.2 := by rcases hw with h | h <;> omega
    have : crs u w = u.1 * w.2 := by unfold crs; rw [e]; omega
    rw [this]
    exact Int.mul_nonneg (by rcases hu with h | h <;> omega) (by omega)
theorem crs_trans_l {u v w : P2} (hu : fw u) (hv : fw v) (hw : fw w) (h1 : 0 < crs u v) (h2 : 0 ≤ crs v w) : 0 < crs u w := by
  have c := cramer1 u v w
  rcases hv with v1 | ⟨v1, v2⟩
  · have a1 : 0 ≤ u.1 := by rcases hu with h | h <;> omega
    rcases hw with w1 | ⟨w1, w2⟩
    · refine pos_left (b := v.1) ?_ v1
      rw [c]
      have := Int.mul_nonneg h2 a1
      have := Int.mul_pos h1 w1
      omega
    · have e : crs u w = u.1 * w.2 := by unfold crs; rw [w1]; omega
      rw [e]
      refine Int.mul_pos ?_ w2
      rcases hu with u1 | ⟨u1, u2⟩
      · exact u1
      · exfalso
        have : crs u v = - (u.2 * v.1) := by unfold crs; rw [u1]; omega
        have := Int.mul_pos u2 v1
        omega
  · have e : w.1 = 0 := by
      rcases hw with h | h
      · exfalso
        have : crs v w = - (v.2 * w.1) := by unfold crs; rw [v1]; omega
        have := Int.mul_pos v2 h
        omega
      · exact h.1
    have w2 : 0 < w.2 := by rcases hw with h | h <;> omega
    have e2 : crs u w = u.1 * w.2 := by unfold crs; rw [e]; omega
    have e3 : crs u v = u.1 * v.2 := by unfold crs; rw [v1]; omega
    rw [e2]
    rw [e3] at h1
    exact Int.mul_pos (pos_left h1 v2) w2
theorem crs_swap (u v : P2) : crs u v = - crs v u := by unfold crs; grind
theorem crs_trans_r {u v w : P2} (hu : fw u) (hv : fw v) (hw : fw w) (h1 : 0 ≤ crs u v) (h2 : 0 < crs v w) : 0 < crs u w := by
  rcases Int.lt_trichotomy (crs u v) 0 with c | c | c
  · omega
  · have k := crs_trans hu hv hw h1 (by omega)
    rcases Int.lt_or_le 0 (crs u w) with d | d
    · exact d
    · -- u and w on one line, and v and u: then v and w, too
      have e0 : crs u w = 0 := by omega
      have c1 := cramer1 u v w
      have c2 := cramer2 u v w
      rw [c, e0] at c1 c2
      exfalso
      rcases hu with h | ⟨h, h'⟩
      · have := Int.mul_pos h2 h; omega
      · have := Int.mul_pos h2 h'; omega
  · exact crs_trans_l hu hv hw c (by omega)
theorem dt_eq (a b c : P2) : dt a b c = crs (sb b a) (sb c a) := rfl
theorem dt_b (a b c : P2) : dt a b c = crs (sb b a) (sb c b) := by unfold dt crs sb; grind
theorem dt_c (a b c : P2) : dt a b c = crs (sb c a) (sb c b) := by unfold dt crs sb; grind
theorem dt_rot (a b c : P2) : dt a b c = dt b c a := by unfold dt; grind
theorem dt_self1 (a b : P2) : dt a b a = 0 := by unfold dt; grind
theorem dt_self2 (a b : P2) : dt a b b = 0 := by unfold dt; grind
theorem dt_self0 (a b : P2) : dt a a b = 0 := by unfold dt; grind

/-! ### A chain: a stack of points, the last one first -/
def Turns : List P2 → Prop
  | c :: b :: a :: t => 0 < dt a b c ∧ Turns (b :: a :: t)
  | _ => True
theorem turns_tail {c : P2} {t : List P2} (h : Turns (c :: t)) : Turns t := by
  match t, h with
  | [], _ => trivial
  | [_], _ => trivial
  | _ :: _ :: _, h => exact h.2
def Desc (st : List P2) : Prop := st.Pairwise fun x y => lt2 y x
/-- The point q is above the chain, at its place. -/
def Cov (q : P2) : List P2 → Prop
  | b :: a :: t => (le2 a q ∧ le2 q b ∧ 0 ≤ dt a b q) ∨ Cov q (a :: t)
  | [b] => q = b
  | [] => False
def AllLeft (q : P2) : List P2 → Prop
  | d :: c :: t => 0 ≤ dt c d q ∧ AllLeft q (c :: t)
  | _ => True
/-- Behind a chain's top, and to the left of its last piece: then to the left of all pieces. -/
theorem left_fwd {q : P2} : ∀ (t : List P2) (d c : P2), Turns (d :: c :: t) → Desc (d :: c :: t) → le2 c q → 0 ≤ dt c d q → AllLeft q (c :: t) := by
  intro t
  induction t with
  | nil => intros; trivial
  | cons b t ih =>
    intro d c ht hd hq h
    have hbc : lt2 b c := by
      have := (List.pairwise_cons.1 (List.pairwise_cons.1 hd).2).1 b (by simp); exact this
    have hcd : lt2 c d := (List.pairwise_cons.1 hd).1 c (by simp)
    have k : 0 ≤ dt b c q := by
      rcases hq with rfl | hq
      · rw [dt_self2]; exact Int.le_refl _
      · rw [dt_b]
        refine crs_trans (fw_sb.2 hbc) (fw_sb.2 hcd) (fw_sb.2 hq) ?_ ?_
        · have := ht.1; rw [dt_b] at this; omega
        · rw [dt_eq] at h; exact h
    exact ⟨k, ih c b ht.2 (List.pairwise_cons.1 hd).2 (.inr (lt2_le2 hbc hq)) k⟩
/-- Ahead of a piece, and above the chain. -/
theorem left_bwd {q : P2} : ∀ (t : List P2) (d c : P2), Turns (d :: c :: t) → Desc (d :: c :: t) → Cov q (c :: t) → le2 q c ∧ 0 ≤ dt c d q := by
  intro t
  induction t with
  | nil =>
    intro d c _ _ h
    have : q = c := h
    subst this
    exact ⟨le2_refl _, by rw [dt_self1]; exact Int.le_refl _⟩
  | cons b t ih =>
    intro d c ht hd h
    have hbc : lt2 b c := (List.pairwise_cons.1 (List.pairwise_cons.1 hd).2).1 b (by simp)
    have hcd : lt2 c d := (List.pairwise_cons.1 hd).1 c (by simp)
    have hq : le2 q c ∧ 0 ≤ dt b c q := by
      rcases h with ⟨_, h2, h3⟩ | h
      · exact ⟨h2, h3⟩
      · have := ih c b ht.2 (List.pairwise_cons.1 hd).2 h
        exact ⟨.inr (le2_lt2 this.1 hbc), this.2⟩
    refine ⟨hq.1, ?_⟩
    rcases hq.1 with e | hqc
    · subst e; rw [dt_self1]; exact Int.le_refl _
    · have h1 : 0 ≤ crs (sb c q) (sb c b) := by
        have e : dt b c q = crs (sb c q) (sb c b) := by unfold dt crs sb; grind
        rw [← e]; exact hq.2
      have h2 : 0 < crs (sb c b) (sb d c) := by have := ht.1; rw [dt_b] at this; exact this
      have h3 := crs_trans_r (fw_sb.2 hqc) (fw_sb.2 hbc) (fw_sb.2 hcd) h1 h2
      have e : dt c d q = crs (sb c q) (sb d c) := by unfold dt crs sb; grind
      rw [e]; omega
theorem cov_left {q : P2} : ∀ (st : List P2), Turns st → Desc st → Cov q st → AllLeft q st := by
  intro st
  induction st with
  | nil => intros; trivial
  | cons d st ih =>
    intro ht hd h
    match st, ih, ht, hd, h with
    | [], _, _, _, _ => trivial
    | c :: t, ih, ht, hd, h =>
      rcases h with ⟨h1, h2, h3⟩ | h
      · exact ⟨h3, left_fwd t d c ht hd h1 h3⟩
      · exact ⟨(left_bwd t d c ht hd h).2, ih (turns_tail ht) (List.pairwise_cons.1 hd).2 h⟩
/-- Strictly, for corners ahead of a piece. -/
theorem strict_bwd {q : P2} : ∀ (t : List P2) (d c : P2), Turns (d :: c :: t) → Desc (d :: c :: t) → q ∈ t → 0 < dt c d q := by
  intro t
  induction t with
  | nil => intro d c _ _ h; simp at h
  | cons b t ih =>
    intro d c ht hd h
    have hbc : lt2 b c := (List.pairwise_cons.1 (List.pairwise_cons.1 hd).2).1 b (by simp)
    have hcd : lt2 c d := (List.pairwise_cons.1 hd).1 c (by simp)
    have hqc : lt2 q c := (List.pairwise_cons.1 (List.pairwise_cons.1 hd).2).1 q h
    have hq : 0 ≤ dt b c q := by
      rcases List.mem_cons.1 h with rfl | h
      · rw [dt_self1]; exact Int.le_refl _
      · have := ih c b ht.2 (List.pairwise_cons.1 hd).2 h; omega
    have h1 : 0 ≤ crs (sb c q) (sb c b) := by
      have e : dt b c q = crs (sb c q) (sb c b) := by unfold dt crs sb; grind
      rw [← e]; exact hq
    have h2 : 0 < crs (sb c b) (sb d c) := by have := ht.1; rw [dt_b] at this; exact this
    have h3 := crs_trans_r (fw_sb.2 hqc) (fw_sb.2 hbc) (fw_sb.2 hcd) h1 h2
    have e : dt c d q = crs (sb c q) (sb d c) := by unfold dt crs sb; grind
    rw [e]; exact h3
def AllStrict (q : P2) : List P2 → Prop
  | d :: c :: t => 0 < dt c d q ∧ AllStrict q (c :: t)
  | _ => True
/-- Strictly, for corners behind a piece. -/
theorem strict_fwd {q : P2} : ∀ (t : List P2) (d c : P2), Turns (d :: c :: t) → Desc (d :: c :: t) → lt2 c q → 0 < dt c d q → AllStrict q (c :: t) := by
  intro t
  induction t with
  | nil => intros; trivial
  | cons b t ih =>
    intro d c ht hd hq h
    have hbc : lt2 b c := (List.pairwise_cons.1 (List.pairwise_cons.1 hd).2).1 b (by simp)
    have hcd : lt2 c d := (List.pairwise_cons.1 hd).1 c (by simp)
    have k : 0 < dt b c q := by
      rw [dt_b]
      refine crs_trans_l (fw_sb.2 hbc) (fw_sb.2 hcd) (fw_sb.2 hq) ?_ ?_
      · have := ht.1; rw [dt_b] at this; exact this
      · rw [dt_eq] at h; omega
    exact ⟨k, ih c b ht.2 (List.pairwise_cons.1 hd).2 (lt2_trans hbc hq) k⟩
theorem strict_top : ∀ (t : List P2) (x y : P2), Turns (x :: y :: t) → Desc (x :: y :: t) → AllStrict x (y :: t) := by
  intro t x y ht hd
  match t, ht, hd with
  | [], _, _ => trivial
  | c :: t, ht, hd =>
    have hcx : lt2 c x := (List.pairwise_cons.1 hd).1 c (by simp)
    exact ⟨ht.1, strict_fwd t y c ht.2 (List.pairwise_cons.1 hd).2 hcx ht.1⟩

/-! ### The stack of a sorted list -/
def popS (p : P2) : List P2 → List P2
  | b :: a :: t => if dt a b p ≤ 0 then popS p (a :: t) else b :: a :: t
  | st => st
def pushS (st : List P2) (p : P2) : List P2 := p :: popS p st
def chainR (l : List P2) : List P2 := l.foldl pushS []
def Near (q p : P2) : List P2 → Prop
  | b :: t => Cov q (b :: t) ∨ (le2 b q ∧ lt2 q p ∧ 0 ≤ dt b p q)
  | [] => False
structure Good (st : List P2) : Prop where
  turns : Turns st
  desc : Desc st
theorem pop_good {p : P2} : ∀ (st : List P2), Good st → (∀ q ∈ st, lt2 q p) → Good (p :: popS p st) := by
  intro st
  induction st with
  | nil => intro _ _; exact ⟨trivial, List.pairwise_singleton _ _⟩
  | cons b st ih =>
    intro hg hl
    match st, ih, hg, hl with
    | [], _, _, hl => exact ⟨trivial, List.pairwise_cons.2 ⟨by simpa [popS] using hl, List.pairwise_singleton _ _⟩⟩
    | a :: t, ih, hg, hl =>
      unfold popS
      split
      · exact ih ⟨turns_tail hg.turns, (List.pairwise_cons.1 hg.desc).2⟩ (fun q hq => hl q (List.mem_cons_of_mem _ hq))
      · rename_i h
        exact ⟨⟨by omega, hg.turns⟩, List.pairwise_cons.2 ⟨hl, hg.desc⟩⟩
theorem pop_near {p q : P2} : ∀ (st : List P2), Good st → (∀ x ∈ st, lt2 x p) → Near q p st → Near q p (popS p st) := by
  intro st
  induction st with
  | nil => intro _ _ h; exact h
  | cons b st ih =>
    intro hg hl h
    match st, ih, hg, hl, h with
    | [], _, _, _, h => exact h
    | a :: t, ih, hg, hl, h =>
      unfold popS
      split
      · rename_i hdt
        refine ih ⟨turns_tail hg.turns, (List.pairwise_cons.1 hg.desc).2⟩ (fun q hq => hl q (List.mem_cons_of_mem _ hq)) ?_
        have hab : lt2 a b := (List.pairwise_cons.1 hg.desc).1 a (by simp)
        have hbp : lt2 b p := hl b (by simp)
        have hap : lt2 a p := lt2_trans hab hbp
        have hpb : 0 ≤ crs (sb p a) (sb b a) := by
          have e : dt a b p = - crs (sb p a) (sb b a) := by unfold dt crs sb; grind
          omega
        rcases h with h | ⟨h1, h2, h3⟩
        · rcases h with ⟨h1, h2, h3⟩ | h
          · right
            refine ⟨h1, le2_lt2 h2 hbp, ?_⟩
            rcases h1 with e | h1
            · subst e; rw [dt_self1]; exact Int.le_refl _
            · rw [dt_eq] at h3 ⊢
              exact crs_trans (fw_sb.2 hap) (fw_sb.2 hab) (fw_sb.2 h1) hpb h3
          · exact .inl h
        · right
          refine ⟨.inr (lt2_le2 hab h1), h2, ?_⟩
          have e1 : 0 ≤ crs (sb p q) (sb p b) := by
            have e : dt b p q = crs (sb p q) (sb p b) := by unfold dt crs sb; grind
            omega
          have e2 : 0 ≤ crs (sb p b) (sb p a) := by
            have e : crs (sb p a) (sb b a) = crs (sb p b) (sb p a) := by unfold crs sb; grind
            omega
          have e3 := crs_trans (fw_sb.2 h2) (fw_sb.2 hbp) (fw_sb.2 hap) e1 e2
          have e : dt a p q = crs (sb p q) (sb p a) := by unfold dt crs sb; grind
          omega
      · exact h
theorem pop_suffix (p : P2) : ∀ st : List P2, popS p st <:+ st := by
  intro st
  induction st with
  | nil => exact List.suffix_refl _
  | cons b st ih =>
    match st, ih with
    | [], _ => exact List.suffix_refl _
    | a :: t, ih =>
      unfold popS
      split
      · exact ih.trans (List.suffix_cons _ _)
      · exact List.suffix_refl _
theorem pop_ne {p : P2} : ∀ st : List P2, st ≠ [] → popS p st ≠ [] ∧ (popS p st).getLast? = st.getLast? := by
  intro st
  induction st with
  | nil => intro h; exact absurd rfl h
  | cons b st ih =>
    intro _
    match st, ih with
    | [], _ => exact ⟨by simp [popS], rfl⟩
    | a :: t, ih =>
      unfold popS
      split
      · have := ih (by simp)
        exact ⟨this.1, by rw [this.2]; simp⟩
      · exact ⟨by simp, rfl⟩
/-- What the stack of the points so far is. -/
structure Chained (l st : List P2) : Prop where
  good : Good st
  cov : ∀ q ∈ l, Cov q st
  sub : ∀ q ∈ st, q ∈ l
  top : st.head? = l.getLast?
  bot : st.getLast? = l.head?
theorem chained_snoc {l st : List P2} {p : P2} (h : Chained l st) (hp : ∀ q ∈ l, lt2 q p) : Chained (l ++ [p]) (pushS st p) := by
  unfold pushS
  have hl : ∀ x ∈ st, lt2 x p := fun x hx => hp x (h.sub x hx)
  refine ⟨pop_good st h.good hl, ?_, ?_, by simp, ?_⟩
  · intro q hq
    rcases List.mem_append.1 hq with hq | hq
    · have hc := h.cov q hq
      have hn : Near q p st := by
        match st, hc with
        | b :: t, hc => exact .inl hc
      have hn2 := pop_near st h.good hl hn
      match hst : popS p st, hn2 with
      | b :: t, hn2 =>
        rcases hn2 with h1 | ⟨h1, h2, h3⟩
        · exact .inr h1
        · exact .inl ⟨h1, .inr h2, h3⟩
    · have : q = p := by simpa using hq
      subst this
      match hst : popS q st with
      | [] => rfl
      | b :: t =>
        have hb : b ∈ st := (pop_suffix q st).subset (by rw [hst]; simp)
        exact .inl ⟨.inr (hl b hb), le2_refl _, by rw [dt_self2]; exact Int.le_refl _⟩
  · intro q hq
    rcases List.mem_cons.1 hq with rfl | hq
    · simp
    · exact List.mem_append_left _ (h.sub q ((pop_suffix p st).subset hq))
  · match l, st, h with
    | [], [], _ => rfl
    | [], b :: t, h => have := h.sub b (by simp); simp at this
    | a :: l, [], h => have := h.cov a (by simp); exact this.elim
    | a :: l, b :: t, h =>
      have := pop_ne (p := p) (b :: t) (by simp)
      rw [List.getLast?_cons]
      have e := this.2.trans h.bot
      simp only [List.head?_cons] at e
      rw [e]
      simp
theorem chainR_snoc (l : List P2) (p : P2) : chainR (l ++ [p]) = pushS (chainR l) p := by simp [chainR]
def Incr (l : List P2) : Prop := l.Pairwise lt2
theorem chain_ok : ∀ (l : List P2), Incr l → Chained l (chainR l) := by
  intro l
  generalize hr : l.reverse = r
  induction r generalizing l with
  | nil =>
    intro _
    have : l = [] := by simpa using hr
    subst this
    exact ⟨⟨trivial, List.Pairwise.nil⟩, fun q hq => by simp at hq, fun q hq => by simp [chainR] at hq, rfl, rfl⟩
  | cons p r ih =>
    intro hi
    have e : l = r.reverse ++ [p] := by rw [← List.reverse_reverse l, hr]; simp
    subst e
    rw [chainR_snoc]
    have hs := List.pairwise_append.1 hi
    exact chained_snoc (ih r.reverse (by simp) hs.1) (fun q hq => hs.2.2 q hq p (by simp))
end Go.Proofs.Gx
namespace Go.Proofs.Gx
def g (l : List P2) (i : Nat) : P2 := l.getD i (0, 0)
theorem g_zero (a : P2) (t : List P2) : g (a :: t) 0 = a := rfl
theorem g_succ (a : P2) (t : List P2) (i : Nat) : g (a :: t) (i + 1) = g t i := rfl
theorem g_eq {l : List P2} {i : Nat} (h : i < l.length) : g l i = l[i] := by unfold g; rw [List.getD_eq_getElem?_getD, List.getElem?_eq_getElem h]; rfl
theorem g_mem {l : List P2} {i : Nat} (h : i < l.length) : g l i ∈ l := by rw [g_eq h]; exact List.getElem_mem h
theorem mem_g {l : List P2} {q : P2} (h : q ∈ l) : ∃ i, i < l.length ∧ g l i = q := by
  obtain ⟨i, hi, rfl⟩ := List.mem_iff_getElem.1 h
  exact ⟨i, hi, g_eq hi⟩
theorem left_idx {q : P2} : ∀ st : List P2, AllLeft q st → ∀ i, i + 1 < st.length → 0 ≤ dt (g st (i + 1)) (g st i) q := by
  intro st
  induction st with
  | nil => intro _ i h; simp at h
  | cons d st ih =>
    intro h i hi
    match st, ih, h, hi with
    | [], _, _, hi => simp at hi
    | c :: t, ih, h, hi =>
      cases i with
      | zero => exact h.1
      | succ i => exact ih h.2 i (by simpa using hi)
theorem strict_idx {q : P2} : ∀ st : List P2, AllStrict q st → ∀ i, i + 1 < st.length → 0 < dt (g st (i + 1)) (g st i) q := by
  intro st
  induction st with
  | nil => intro _ i h; simp at h
  | cons d st ih =>
    intro h i hi
    match st, ih, h, hi with
    | [], _, _, hi => simp at hi
    | c :: t, ih, h, hi =>
      cases i with
      | zero => exact h.1
      | succ i => exact ih h.2 i (by simpa using hi)
theorem turns_idx : ∀ st : List P2, Turns st → ∀ i, i + 2 < st.length → 0 < dt (g st (i + 2)) (g st (i + 1)) (g st i) := by
  intro st
  induction st with
  | nil => intro _ i h; simp at h
  | cons d st ih =>
    intro h i hi
    match st, ih, h, hi with
    | [], _, _, hi => simp at hi
    | [_], _, _, hi => simp at hi; omega
    | c :: b :: t, ih, h, hi =>
      cases i with
      | zero => exact h.1
      | succ i => exact ih h.2 i (by simpa using hi)
theorem desc_idx : ∀ st : List P2, Desc st → ∀ i j, i < j → j < st.length → lt2 (g st j) (g st i) := by
  intro st h i j hij hj
  rw [g_eq hj, g_eq (by omega)]
  exact List.pairwise_iff_getElem.1 h i j (by omega) hj hij
theorem sb_idx : ∀ st : List P2, Good st → ∀ i j, i + 1 < j → j < st.length → 0 < dt (g st (i + 1)) (g st i) (g st j) := by
  intro st
  induction st with
  | nil => intro _ i j _ h; simp at h
  | cons d st ih =>
    intro h i j hij hj
    match st, ih, h, hj with
    | [], _, _, hj => simp at hj; omega
    | c :: t, ih, h, hj =>
      cases i with
      | zero =>
        match j, hij, hj with
        | j + 2, _, hj =>
          refine strict_bwd t d c h.turns h.desc ?_
          have : j < t.length := by simpa using hj
          exact g_mem this
      | succ i =>
        match j, hij, hj with
        | j + 1, hij, hj => exact ih ⟨turns_tail h.turns, (List.pairwise_cons.1 h.desc).2⟩ i j (by omega) (by simpa using hj)
theorem sf_idx : ∀ st : List P2, Good st → ∀ i j, i + 1 < st.length → j < i → 0 < dt (g st (i + 1)) (g st i) (g st j) := by
  intro st
  induction st with
  | nil => intro _ i j h; simp at h
  | cons x st ih =>
    intro h i j hi hj
    match st, ih, h, hi with
    | [], _, _, hi => simp at hi
    | y :: t, ih, h, hi =>
      cases j with
      | zero =>
        match i, hj, hi with
        | i + 1, _, hi =>
          exact strict_idx (y :: t) (strict_top t x y h.turns h.desc) i (by simpa using hi)
      | succ j =>
        match i, hj, hi with
        | i + 1, hj, hi => exact ih ⟨turns_tail h.turns, (List.pairwise_cons.1 h.desc).2⟩ i j (by simpa using hi) (by omega)
/-- A stack, by indexes. -/
structure Idx (s st : List P2) (m : Nat) : Prop where
  len : st.length = m + 1
  ord : ∀ i j, i < j → j ≤ m → lt2 (g st j) (g st i)
  turn : ∀ i, i + 2 ≤ m → 0 < dt (g st (i + 2)) (g st (i + 1)) (g st i)
  left : ∀ q ∈ s, ∀ i, i + 1 ≤ m → 0 ≤ dt (g st (i + 1)) (g st i) q
  sb : ∀ i j, i + 1 < j → j ≤ m → 0 < dt (g st (i + 1)) (g st i) (g st j)
  sf : ∀ i j, i + 1 ≤ m → j < i → 0 < dt (g st (i + 1)) (g st i) (g st j)
  mem : ∀ i, i ≤ m → g st i ∈ s
theorem g_last {l : List P2} {m : Nat} (h : l.length = m + 1) : l.getLast? = some (g l m) := by
  rw [List.getLast?_eq_getElem?, h, Nat.add_sub_cancel, g_eq (by omega), List.getElem?_eq_getElem]
theorem g_head {l : List P2} (h : l ≠ []) : l.head? = some (g l 0) := by
  match l, h with
  | a :: t, _ => rfl
theorem idx_of {s : List P2} (hi : Incr s) {n : Nat} (hn : s.length = n + 1) : ∃ m, Idx s (chainR s) m ∧ g (chainR s) m = g s 0 ∧ g (chainR s) 0 = g s n := by
  have c := chain_ok s hi
  have hs : s ≠ [] := by intro e; rw [e] at hn; simp at hn
  have hne : chainR s ≠ [] := by
    intro e
    have := c.top
    rw [e, g_last hn] at this
    simp at this
  obtain ⟨m, hm⟩ : ∃ m, (chainR s).length = m + 1 := by
    match h : chainR s, hne with
    | a :: t, _ => exact ⟨t.length, rfl⟩
  have b := c.bot
  rw [g_last hm, g_head hs] at b
  have t := c.top
  rw [g_last hn, g_head hne] at t
  exact ⟨m, ⟨hm, fun i j h k => desc_idx _ c.good.desc i j h (by omega), fun i h => turns_idx _ c.good.turns i (by omega),
    fun q hq i h => left_idx _ (cov_left _ c.good.turns c.good.desc (c.cov q hq)) i (by omega), fun i j h k => sb_idx _ c.good i j h (by omega),
    fun i j h k => sf_idx _ c.good i j (by omega) k, fun i h => c.sub _ (g_mem (by omega))⟩, by simpa using b, by simpa using t⟩
/-! ### The other half of the way: seen from behind -/
theorem dt_ng (a b c : P2) : dt (ng a) (ng b) (ng c) = dt a b c := by unfold dt ng; grind
theorem lt2_ng {a b : P2} : lt2 (ng a) (ng b) ↔ lt2 b a := by unfold lt2 ng; simp only; omega
theorem ng_ng (a : P2) : ng (ng a) = a := by obtain ⟨x, y⟩ := a; simp [ng]
theorem popS_ng (p : P2) : ∀ st, popS (ng p) (st.map ng) = (popS p st).map ng := by
  intro st
  induction st with
  | nil => rfl
  | cons b st ih =>
    match st, ih with
    | [], _ => rfl
    | a :: t, ih =>
      simp only [List.map_cons] at ih ⊢
      unfold popS
      rw [dt_ng]
      split
      · exact ih
      · rfl
theorem chainR_ng (l : List P2) : chainR (l.map ng) = (chainR l).map ng := by
  have : ∀ (l st : List P2), (l.map ng).foldl pushS (st.map ng) = (l.foldl pushS st).map ng := by
    intro l
    induction l with
    | nil => intro st; rfl
    | cons a l ih =>
      intro st
      simp only [List.map_cons, List.foldl_cons]
      rw [← ih]
      congr 1
      unfold pushS
      rw [popS_ng]
      rfl
  exact this l []
theorem g_map {l : List P2} {i : Nat} (h : i < l.length) : g (l.map ng) i = ng (g l i) := by
  rw [g_eq (by simpa using h), g_eq h]; simp
theorem map_ng_ng (l : List P2) : (l.map ng).map ng = l := by simp [ng_ng, Function.comp_def]
theorem incr_back {s : List P2} (h : Incr s) : Incr (s.reverse.map ng) := by
  unfold Incr at *
  rw [List.pairwise_map, List.pairwise_reverse]
  exact h.imp (fun h => lt2_ng.2 h)
structure Idy (s su : List P2) (m : Nat) : Prop where
  len : su.length = m + 1
  ord : ∀ i j, i < j → j ≤ m → lt2 (g su i) (g su j)
  turn : ∀ i, i + 2 ≤ m → 0 < dt (g su (i + 2)) (g su (i + 1)) (g su i)
  left : ∀ q ∈ s, ∀ i, i + 1 ≤ m → 0 ≤ dt (g su (i + 1)) (g su i) q
  sb : ∀ i j, i + 1 < j → j ≤ m → 0 < dt (g su (i + 1)) (g su i) (g su j)
  sf : ∀ i j, i + 1 ≤ m → j < i → 0 < dt (g su (i + 1)) (g su i) (g su j)
  mem : ∀ i, i ≤ m → g su i ∈ s
theorem idy_of {s : List P2} (hi : Incr s) {n : Nat} (hn : s.length = n + 1) : ∃ m, Idy s (chainR s.reverse) m ∧ g (chainR s.reverse) m = g s n ∧ g (chainR s.reverse) 0 = g s 0 := by
  obtain ⟨m, h, e1, e2⟩ := idx_of (incr_back hi) (n := n) (by simpa using hn)
  rw [chainR_ng] at h e1 e2
  have hl : (chainR s.reverse).length = m + 1 := by have := h.len; simpa using this
  have gm : ∀ i, i ≤ m → g ((chainR s.reverse).map ng) i = ng (g (chainR s.reverse) i) := fun i hi => g_map (by omega)
  have hs : s.reverse.length = n + 1 := by simpa using hn
  have r0 : g s.reverse 0 = g s n := by rw [g_eq (by omega), g_eq (by omega), List.getElem_reverse]; simp [hn]
  have rn : g s.reverse n = g s 0 := by rw [g_eq (by omega), g_eq (by omega), List.getElem_reverse]; simp [hn]
  rw [gm m (by omega), g_map (by omega), r0] at e1
  rw [gm 0 (by omega), g_map (by omega), rn] at e2
  have inj : ∀ a b : P2, ng a = ng b → a = b := fun a b h => by rw [← ng_ng a, h, ng_ng]
  refine ⟨m, ⟨hl, ?_, ?_, ?_, ?_, ?_, ?_⟩, inj _ _ e1, inj _ _ e2⟩
  · intro i j a b
    have := h.ord i j a b
    rw [gm _ b, gm _ (by omega)] at this
    exact lt2_ng.1 this
  · intro i a
    have := h.turn i a
    rwa [gm _ a, gm _ (by omega), gm _ (by omega), dt_ng] at this
  · intro q hq i a
    have := h.left (ng q) (by simp; exact ⟨q.1, q.2, hq, rfl⟩) i a
    rwa [gm _ a, gm _ (by omega), dt_ng] at this
  · intro i j a b
    have := h.sb i j a b
    rwa [gm _ (by omega), gm _ (by omega), gm _ b, dt_ng] at this
  · intro i j a b
    have := h.sf i j a b
    rwa [gm _ (by omega), gm _ (by omega), gm _ (by omega), dt_ng] at this
  · intro i a
    have := h.mem i a
    rw [gm _ a] at this
    simp at this
    obtain ⟨x, y, hxy, e⟩ := this
    rw [← inj _ _ e]; exact hxy
end Go.Proofs.Gx
namespace Go.Proofs.Gx
/-- The corner i, around and around. -/
def gc (h : List P2) (i : Nat) : P2 := g h (i % h.length)
structure IsH (h : List P2) : Prop where
  ne : h ≠ []
  first : ∀ i, i + 1 < h.length → lt2 (g h 0) (g h (i + 1))
  fan : ∀ i, 0 < i → i + 1 < h.length → 0 < dt (g h 0) (g h i) (g h (i + 1))
  turn : 3 ≤ h.length → ∀ i, i < h.length → 0 < dt (g h i) (gc h (i + 1)) (gc h (i + 2))
/-- All sides have the point on their left. -/
def Left (h : List P2) (q : P2) : Prop := ∀ i, i < h.length → 0 ≤ dt (g h i) (gc h (i + 1)) q
structure Poly (h : List P2) : Prop extends IsH h where
  left : ∀ q ∈ h, Left h q
def hullS (s : List P2) : List P2 := if s.length = 1 then s else (chainR s).reverse.dropLast ++ (chainR s.reverse).reverse.dropLast
/-- Contained: in every direction there is a corner that is not behind it. -/
def SC (h : List P2) (q : P2) : Prop := ∀ w : P2, ∃ r ∈ h, crs w r ≤ crs w q

theorem j1 {a' a M b : P2} (h1 : lt2 a' a) (h2 : lt2 a M) (h3 : lt2 b M) (t : 0 < dt a' a M) (l : 0 ≤ dt M b a') (z : dt a M b = 0) : False := by
  have u1 : 0 < crs (sb a a') (sb M a) := by rw [dt_b] at t; exact t
  have u2 : crs (sb M a) (sb M b) = 0 := by
    have e : dt a M b = - crs (sb M a) (sb M b) := by unfold dt crs sb; grind
    omega
  have u3 := crs_trans_l (fw_sb.2 h1) (fw_sb.2 h2) (fw_sb.2 h3) u1 (by omega)
  have e : dt M b a' = - crs (sb a a') (sb M b) - crs (sb M a) (sb M b) := by unfold dt crs sb; grind
  omega
theorem j2 {a M b b' : P2} (h2 : lt2 a M) (h3 : lt2 b M) (h4 : lt2 b' b) (t : 0 < dt M b b') (l : 0 ≤ dt a M b') (z : dt a M b = 0) : False := by
  have u1 : 0 < crs (sb M b) (sb b b') := by
    have e : dt M b b' = crs (sb M b) (sb b b') := by unfold dt crs sb; grind
    omega
  have u2 : crs (sb M a) (sb M b) = 0 := by
    have e : dt a M b = - crs (sb M a) (sb M b) := by unfold dt crs sb; grind
    omega
  have u3 := crs_trans_r (fw_sb.2 h2) (fw_sb.2 h3) (fw_sb.2 h4) (by omega) u1
  have e : dt a M b' = - crs (sb M a) (sb M b) - crs (sb M a) (sb b b') := by unfold dt crs sb; grind
  omega
theorem g_app_l {a b : List P2} {i : Nat} (h : i < a.length) : g (a ++ b) i = g a i := by
  rw [g_eq (by simp; omega), g_eq h, List.getElem_append_left]
theorem g_app_r {a b : List P2} {i : Nat} (h : i < b.length) : g (a ++ b) (a.length + i) = g b i := by
  rw [g_eq (by simp; omega), g_eq h, List.getElem_append_right (by omega)]
  simp
theorem g_rev_drop {l : List P2} {m i : Nat} (hl : l.length = m + 1) (h : i < m) : g l.reverse.dropLast i = g l (m - i) := by
  rw [g_eq (by simp; omega), g_eq (by omega), List.getElem_dropLast, List.getElem_reverse]
  congr 1
  omega
/-- The corners in their order: first below, then above. -/
theorem hull_idx {s : List P2} (hi : Incr s) {n : Nat} (hn : s.length = n + 2) : ∃ m k, 0 < m ∧ 0 < k ∧ Idx s (chainR s) m ∧ Idy s (chainR s.reverse) k ∧ (hullS s).length = m + k ∧
    (∀ i, i ≤ m → g (hullS s) i = g (chainR s) (m - i)) ∧ (∀ j, j < k → g (hullS s) (m + j) = g (chainR s.reverse) (k - j)) ∧
    g (chainR s) m = g s 0 ∧ g (chainR s) 0 = g s (n + 1) ∧ g (chainR s.reverse) k = g s (n + 1) ∧ g (chainR s.reverse) 0 = g s 0 := by
  obtain ⟨m, hm, m1, m2⟩ := idx_of hi hn
  obtain ⟨k, hk, k1, k2⟩ := idy_of hi hn
  have hne : g s 0 ≠ g s (n + 1) := by
    have : lt2 (g s 0) (g s (n + 1)) := by
      rw [g_eq (by omega), g_eq (by omega)]
      exact List.pairwise_iff_getElem.1 hi 0 (n + 1) (by omega) (by omega) (by omega)
    exact lt2_ne this
  have hm0 : 0 < m := by
    rcases Nat.eq_zero_or_pos m with e | e
    · subst e; exact absurd (m1.symm.trans m2) hne
    · exact e
  have hk0 : 0 < k := by
    rcases Nat.eq_zero_or_pos k with e | e
    · subst e; exact absurd (k2.symm.trans k1) hne
    · exact e
  have e : hullS s = (chainR s).reverse.dropLast ++ (chainR s.reverse).reverse.dropLast := by unfold hullS; rw [if_neg (by omega)]
  have l1 : (chainR s).reverse.dropLast.length = m := by simp [hm.len]
  have l2 : (chainR s.reverse).reverse.dropLast.length = k := by simp [hk.len]
  refine ⟨m, k, hm0, hk0, hm, hk, by rw [e]; simp [hm.len, hk.len], ?_, ?_, m1, m2, k1, k2⟩
  · intro i him
    rcases Nat.lt_or_ge i m with c | c
    · rw [e, g_app_l (by omega), g_rev_drop hm.len c]
    · obtain rfl : i = m := by omega
      rw [e]
      have := g_app_r (a := (chainR s).reverse.dropLast) (b := (chainR s.reverse).reverse.dropLast) (i := 0) (by omega)
      rw [l1, Nat.add_zero] at this
      rw [this, g_rev_drop hk.len hk0, Nat.sub_zero, Nat.sub_self, k1, m2]
  · intro j hj
    rw [e]
    have := g_app_r (a := (chainR s).reverse.dropLast) (b := (chainR s.reverse).reverse.dropLast) (i := j) (by omega)
    rw [l1] at this
    rw [this, g_rev_drop hk.len hj]
theorem lt2_g {s : List P2} (hi : Incr s) {i j : Nat} (h : i < j) (hj : j < s.length) : lt2 (g s i) (g s j) := by
  rw [g_eq hj, g_eq (by omega)]
  exact List.pairwise_iff_getElem.1 hi i j (by omega) hj h
theorem hull_two {s : List P2} (hi : Incr s) {n : Nat} (hn : s.length = n + 2) :
    IsH (hullS s) ∧ (∀ q ∈ s, Left (hullS s) q) ∧ (∀ r ∈ hullS s, r ∈ s) ∧ g (hullS s) 0 = g s 0 ∧ 2 ≤ (hullS s).length ∧ g s (n + 1) ∈ hullS s := by
  obtain ⟨m, k, hm0, hk0, hm, hk, hl, gl, gu, e1, e2, e3, e4⟩ := hull_idx hi hn
  obtain ⟨H, hH⟩ : ∃ H, hullS s = H := ⟨_, rfl⟩
  rw [hH] at hl gl gu ⊢
  obtain ⟨L, hL⟩ : ∃ L, chainR s = L := ⟨_, rfl⟩
  obtain ⟨U, hU⟩ : ∃ U, chainR s.reverse = U := ⟨_, rfl⟩
  rw [hL] at hm gl e1 e2
  rw [hU] at hk gu e3 e4
  -- the closed way: i up to m + k
  have gu' : ∀ i, m ≤ i → i < m + k → g H i = g U (k - (i - m)) := fun i a b => by
    have := gu (i - m) (by omega); rwa [show m + (i - m) = i by omega] at this
  have c0 : g H 0 = g s 0 := by rw [gl 0 (by omega), Nat.sub_zero, e1]
  have nx : ∀ i, i < m + k → gc H (i + 1) = if i + 1 ≤ m then g L (m - (i + 1)) else g U (k - (i + 1 - m)) := by
    intro i hi
    unfold gc
    rw [hl]
    rcases Nat.lt_or_ge (i + 1) (m + k) with c | c
    · rw [Nat.mod_eq_of_lt c]
      split
      · rw [gl _ (by assumption)]
      · rw [gu' _ (by omega) c]
    · have ec : i + 1 = m + k := by omega
      rw [ec, Nat.mod_self, c0, if_neg (by omega), show k - (m + k - m) = 0 by omega, e4]
  have nx2 : ∀ i, i + 1 < m + k → gc H (i + 2) = if i + 2 ≤ m then g L (m - (i + 2)) else g U (k - (i + 2 - m)) := fun i hi => nx (i + 1) hi
  have memH : ∀ r ∈ H, r ∈ s := by
    intro r hr
    obtain ⟨i, hi, rfl⟩ := mem_g hr
    rw [hl] at hi
    rcases Nat.lt_or_ge i m with c | c
    · rw [gl i (by omega)]; exact hm.mem _ (by omega)
    · rw [gu' i c hi]; exact hk.mem _ (by omega)
  have leftH : ∀ q ∈ s, Left H q := by
    intro q hq i hi
    rw [hl] at hi
    rw [nx i hi]
    rcases Nat.lt_or_ge i m with c | c
    · rw [if_pos (by omega), gl i (by omega)]
      have := hm.left q hq (m - (i + 1)) (by omega)
      rwa [show m - (i + 1) + 1 = m - i by omega] at this
    · rw [if_neg (by omega), gu' i c hi]
      have := hk.left q hq (k - (i + 1 - m)) (by omega)
      rwa [show k - (i + 1 - m) + 1 = k - (i - m) by omega] at this
  refine ⟨⟨?_, ?_, ?_, ?_⟩, leftH, memH, c0, by omega, ?_⟩
  · intro e; rw [e] at hl; simp at hl; omega
  · intro i hi
    rw [hl] at hi
    rw [c0]
    rcases Nat.lt_or_ge m (i + 1) with c | c
    · rw [gu' _ (by omega) hi, ← e4]
      exact hk.ord 0 _ (by omega) (by omega)
    · rw [gl _ c, ← e1]
      exact hm.ord _ m (by omega) (by omega)
  · intro i hi hi2
    rw [hl] at hi2
    rw [dt_rot, c0]
    rcases Nat.lt_or_ge i m with c | c
    · rw [gl i (by omega), gl (i + 1) (by omega), ← e1]
      have := hm.sb (m - (i + 1)) m (by omega) (by omega)
      rwa [show m - (i + 1) + 1 = m - i by omega] at this
    · rw [gu' i c (by omega), gu' (i + 1) (by omega) hi2, ← e4]
      have := hk.sf (k - (i + 1 - m)) 0 (by omega) (by omega)
      rwa [show k - (i + 1 - m) + 1 = k - (i - m) by omega] at this
  · intro h3 i hi
    rw [hl] at hi h3
    rcases Nat.lt_or_ge (i + 1) (m + k) with c | c
    · rw [nx i hi, nx2 i c]
      rcases Nat.lt_or_ge i m with d | d
      · rw [gl i (by omega), if_pos (by omega)]
        rcases Nat.lt_or_ge m (i + 2) with f | f
        · -- the turn at the far end
          obtain rfl : m = i + 1 := by omega
          rw [if_neg (by omega), show i + 1 - i = 1 by omega, Nat.sub_self, show k - (i + 2 - (i + 1)) = k - 1 by omega]
          have a0 : 0 ≤ dt (g L 1) (g L 0) (g U (k - 1)) := hm.left _ (hk.mem _ (by omega)) 0 (by omega)
          rcases Int.lt_or_le 0 (dt (g L 1) (g L 0) (g U (k - 1))) with p | p
          · exact p
          · have z : dt (g L 1) (g L 0) (g U (k - 1)) = 0 := by omega
            exfalso
            have o1 : lt2 (g L 1) (g L 0) := hm.ord 0 1 (by omega) (by omega)
            have eM : g L 0 = g U k := by rw [e2, e3]
            have o2 : lt2 (g U (k - 1)) (g L 0) := by rw [eM]; exact hk.ord _ _ (by omega) (by omega)
            rcases Nat.lt_or_ge 0 i with q | q
            · refine j1 (hm.ord 1 2 (by omega) (by omega)) o1 o2 (hm.turn 0 (by omega)) ?_ z
              have := hk.left (g L 2) (hm.mem _ (by omega)) (k - 1) (by omega)
              rwa [show k - 1 + 1 = k by omega, ← eM] at this
            · refine j2 o1 o2 (hk.ord (k - 2) (k - 1) (by omega) (by omega)) ?_ (hm.left _ (hk.mem (k - 2) (by omega)) 0 (by omega)) z
              have := hk.turn (k - 2) (by omega)
              rwa [show k - 2 + 2 = k by omega, show k - 2 + 1 = k - 1 by omega, ← eM] at this
        · rw [if_pos (by omega)]
          have := hm.turn (m - (i + 2)) (by omega)
          rwa [show m - (i + 2) + 2 = m - i by omega, show m - (i + 2) + 1 = m - (i + 1) by omega] at this
      · rw [gu' i d hi, if_neg (by omega), if_neg (by omega)]
        have := hk.turn (k - (i + 2 - m)) (by omega)
        rwa [show k - (i + 2 - m) + 2 = k - (i - m) by omega, show k - (i + 2 - m) + 1 = k - (i + 1 - m) by omega] at this
    · -- the turn at the near end
      obtain rfl : i = m + k - 1 := by omega
      rw [nx _ hi, if_neg (by omega), show k - (m + k - 1 + 1 - m) = 0 by omega, gu' _ (by omega) hi, show k - (m + k - 1 - m) = 1 by omega]
      have w : gc H (m + k - 1 + 2) = g L (m - 1) := by
        unfold gc
        rw [hl, show m + k - 1 + 2 = 1 + (m + k) by omega, Nat.add_mod_right, Nat.mod_eq_of_lt (by omega), gl 1 (by omega)]
      rw [w]
      have a0 : 0 ≤ dt (g U 1) (g U 0) (g L (m - 1)) := hk.left _ (hm.mem _ (by omega)) 0 (by omega)
      rcases Int.lt_or_le 0 (dt (g U 1) (g U 0) (g L (m - 1))) with p | p
      · exact p
      · have z : dt (g U 1) (g U 0) (g L (m - 1)) = 0 := by omega
        exfalso
        have eN : g U 0 = g L m := by rw [e1, e4]
        have o1 : lt2 (ng (g U 1)) (ng (g U 0)) := lt2_ng.2 (hk.ord 0 1 (by omega) (by omega))
        have o2 : lt2 (ng (g L (m - 1))) (ng (g U 0)) := lt2_ng.2 (by rw [eN]; exact hm.ord _ _ (by omega) (by omega))
        rw [← dt_ng] at z
        rcases Nat.lt_or_ge 1 k with q | q
        · refine j1 (a' := ng (g U 2)) (lt2_ng.2 (hk.ord 1 2 (by omega) (by omega))) o1 o2 (by rw [dt_ng]; exact hk.turn 0 (by omega)) ?_ z
          rw [dt_ng]
          have := hm.left (g U 2) (hk.mem _ (by omega)) (m - 1) (by omega)
          rwa [show m - 1 + 1 = m by omega, ← eN] at this
        · refine j2 (b' := ng (g L (m - 2))) o1 o2 (lt2_ng.2 (hm.ord (m - 2) (m - 1) (by omega) (by omega))) ?_ (by rw [dt_ng]; exact hk.left _ (hm.mem (m - 2) (by omega)) 0 (by omega)) z
          rw [dt_ng]
          have := hm.turn (m - 2) (by omega)
          rwa [show m - 2 + 2 = m by omega, show m - 2 + 1 = m - 1 by omega, ← eN] at this
  · have := g_mem (l := H) (i := m) (by omega)
    rwa [gl m (by omega), Nat.sub_self, e2] at this
end Go.Proofs.Gx
namespace Go.Proofs.Gx
theorem gc_lt {h : List P2} {i : Nat} (hi : i < h.length) : gc h i = g h i := by unfold gc; rw [Nat.mod_eq_of_lt hi]
theorem gc_mem {h : List P2} (hne : h ≠ []) (i : Nat) : gc h i ∈ h := g_mem (Nat.mod_lt _ (by cases h; exact absurd rfl hne; simp))
/-- Of finitely many corners one is first in a direction. -/
theorem least_in (w : P2) : ∀ h : List P2, h ≠ [] → ∃ i, i < h.length ∧ ∀ r ∈ h, crs w (g h i) ≤ crs w r := by
  intro h
  induction h with
  | nil => intro e; exact absurd rfl e
  | cons a t ih =>
    intro _
    rcases t with _ | ⟨b, t⟩
    · exact ⟨0, by simp, fun r hr => by have : r = a := by simpa using hr
                                        subst this; exact Int.le_refl _⟩
    · obtain ⟨i, hi, hm⟩ := ih (by simp)
      rcases Int.le_total (crs w a) (crs w (g (b :: t) i)) with c | c
      · refine ⟨0, by simp, fun r hr => ?_⟩
        rcases List.mem_cons.1 hr with rfl | hr
        · exact Int.le_refl _
        · exact Int.le_trans c (hm r hr)
      · refine ⟨i + 1, by simpa using hi, fun r hr => ?_⟩
        rw [g_succ]
        rcases List.mem_cons.1 hr with rfl | hr
        · exact c
        · exact hm r hr
theorem crs_sb (w a b : P2) : crs w (sb a b) = crs w a - crs w b := by unfold crs sb; grind
theorem cramer_at (e f w v : P2) : crs e f * crs w v = crs e v * crs w f + crs v f * crs w e := by unfold crs; grind
/-- The corner before, and the one behind. -/
theorem around {h : List P2} (p : IsH h) (h3 : 3 ≤ h.length) {i : Nat} (hi : i < h.length) : ∃ j, j < h.length ∧ gc h (j + 1) = g h i ∧ gc h (j + 2) = gc h (i + 1) ∧ 0 < dt (g h j) (g h i) (gc h (i + 1)) := by
  rcases Nat.eq_zero_or_pos i with e | e
  · subst e
    have a1 : gc h (h.length - 1 + 1) = g h 0 := by unfold gc; rw [show h.length - 1 + 1 = h.length by omega, Nat.mod_self]
    have a2 : gc h (h.length - 1 + 2) = gc h (0 + 1) := by unfold gc; rw [show h.length - 1 + 2 = 0 + 1 + h.length by omega, Nat.add_mod_right]
    have := p.turn h3 (h.length - 1) (by omega)
    rw [a1, a2] at this
    exact ⟨h.length - 1, by omega, a1, a2, this⟩
  · have a1 : gc h (i - 1 + 1) = g h i := by rw [show i - 1 + 1 = i by omega, gc_lt hi]
    have a2 : gc h (i - 1 + 2) = gc h (i + 1) := by rw [show i - 1 + 2 = i + 1 by omega]
    have := p.turn h3 (i - 1) (by omega)
    rw [a1, a2] at this
    exact ⟨i - 1, by omega, a1, a2, this⟩
theorem sc_left {h : List P2} (p : IsH h) (h3 : 3 ≤ h.length) {q : P2} (hl : Left h q) : SC h q := by
  intro w
  obtain ⟨i, hi, hm⟩ := least_in w h p.ne
  refine ⟨g h i, g_mem hi, ?_⟩
  obtain ⟨j, hj, a1, a2, ht⟩ := around p h3 hi
  have e1 : 0 ≤ crs (sb (g h i) (g h j)) (sb q (g h i)) := by have := hl j hj; rwa [a1, dt_b] at this
  have f1 : 0 ≤ crs (sb (gc h (i + 1)) (g h i)) (sb q (g h i)) := by have := hl i hi; rwa [dt_eq] at this
  have wf : 0 ≤ crs w (sb (gc h (i + 1)) (g h i)) := by rw [crs_sb]; have := hm _ (gc_mem p.ne (i + 1)); omega
  have we : crs w (sb (g h i) (g h j)) ≤ 0 := by rw [crs_sb]; have := hm _ (g_mem hj); omega
  rw [dt_b] at ht
  have c := cramer_at (sb (g h i) (g h j)) (sb (gc h (i + 1)) (g h i)) w (sb q (g h i))
  have k1 := Int.mul_nonneg e1 wf
  have k2 : 0 ≤ crs (sb q (g h i)) (sb (gc h (i + 1)) (g h i)) * crs w (sb (g h i) (g h j)) := by
    rw [crs_swap]
    have := Int.mul_nonneg f1 (show 0 ≤ - crs w (sb (g h i) (g h j)) by omega)
    rw [Int.mul_neg] at this
    rw [Int.neg_mul]
    exact this
  have k3 : 0 ≤ crs w (sb q (g h i)) * crs (sb (g h i) (g h j)) (sb (gc h (i + 1)) (g h i)) := by rw [Int.mul_comm, c]; omega
  have k4 := nonneg_left k3 ht
  rw [crs_sb] at k4
  omega
theorem sc_seg {a b q : P2} (hab : lt2 a b) (h0 : dt a b q = 0) (h1 : le2 a q) (h2 : le2 q b) : SC [a, b] q := by
  intro w
  obtain ⟨s, t, s0, t0, st, e⟩ : ∃ s t : Int, 0 ≤ s ∧ 0 ≤ t ∧ 0 < s + t ∧ (s + t) * crs w q = t * crs w a + s * crs w b := by
    unfold dt at h0
    rcases hab with h | ⟨h, h'⟩
    · have q1 : a.1 ≤ q.1 := by rcases h1 with rfl | h1; exact Int.le_refl _; unfold lt2 at h1; omega
      have q2 : q.1 ≤ b.1 := by rcases h2 with rfl | h2; exact Int.le_refl _; unfold lt2 at h2; omega
      refine ⟨q.1 - a.1, b.1 - q.1, by omega, by omega, by omega, ?_⟩
      unfold crs
      have k : (q.1 - a.1) * (b.2 - a.2) = (b.1 - a.1) * (q.2 - a.2) := by rw [Int.mul_comm]; omega
      have k2 : w.1 * ((q.1 - a.1) * (b.2 - a.2)) = w.1 * ((b.1 - a.1) * (q.2 - a.2)) := by rw [k]
      grind
    · have q1 : q.1 = a.1 := by
        rcases h1 with rfl | h1
        · rfl
        · rcases h2 with rfl | h2
          · omega
          · unfold lt2 at h1 h2; omega
      have q2 : a.2 ≤ q.2 := by rcases h1 with rfl | h1; exact Int.le_refl _; unfold lt2 at h1; omega
      have q3 : q.2 ≤ b.2 := by rcases h2 with rfl | h2; exact Int.le_refl _; unfold lt2 at h2; omega
      refine ⟨q.2 - a.2, b.2 - q.2, by omega, by omega, by omega, ?_⟩
      unfold crs
      rw [q1, ← h]
      grind
  rcases Int.le_total (crs w a) (crs w b) with c | c
  · refine ⟨a, by simp, ?_⟩
    have m1 := Int.mul_nonneg s0 (show 0 ≤ crs w b - crs w a by omega)
    have m2 : 0 ≤ (crs w q - crs w a) * (s + t) := by
      rw [Int.mul_comm, Int.mul_sub, e, Int.add_mul]
      rw [Int.mul_sub] at m1
      omega
    have := nonneg_left m2 st
    omega
  · refine ⟨b, by simp, ?_⟩
    have m1 := Int.mul_nonneg t0 (show 0 ≤ crs w a - crs w b by omega)
    have m2 : 0 ≤ (crs w q - crs w b) * (s + t) := by
      rw [Int.mul_comm, Int.mul_sub, e, Int.add_mul]
      rw [Int.mul_sub] at m1
      omega
    have := nonneg_left m2 st
    omega
/-- The box of the corners, as far as it is asked. -/
structure Box (h : List P2) (q : P2) : Prop where
  x0 : ∃ r ∈ h, r.1 ≤ q.1
  x1 : ∃ r ∈ h, q.1 ≤ r.1
  y0 : ∃ r ∈ h, r.2 ≤ q.2
  y1 : ∃ r ∈ h, q.2 ≤ r.2
structure Cont (h : List P2) (q : P2) : Prop where
  box : Box h q
  left : h.length ≠ 1 → Left h q
theorem sc_of_cont {h : List P2} (p : IsH h) {q : P2} (c : Cont h q) : SC h q := by
  match h, p, c with
  | [], p, _ => exact absurd rfl p.ne
  | [a], p, c =>
    obtain ⟨⟨⟨r0, h0, x0⟩, ⟨r1, h1, x1⟩, ⟨r2, h2, y0⟩, ⟨r3, h3, y1⟩⟩, _⟩ := c
    simp only [List.mem_singleton] at h0 h1 h2 h3
    rw [h0] at x0
    rw [h1] at x1
    rw [h2] at y0
    rw [h3] at y1
    have e : q = a := Prod.ext (by omega) (by omega)
    exact fun w => ⟨a, by simp, by rw [e]; exact Int.le_refl _⟩
  | [a, b], p, c =>
    have hab : lt2 a b := p.first 0 (by simp)
    have l0 := c.left (by simp) 0 (by simp)
    have l1 := c.left (by simp) 1 (by simp)
    have e0 : 0 ≤ dt a b q := by simpa [gc, g] using l0
    have e1 : 0 ≤ dt b a q := by simpa [gc, g] using l1
    have e2 : dt b a q = - dt a b q := by unfold dt; grind
    have hd : dt a b q = 0 := by omega
    obtain ⟨⟨⟨r0, h0, x0⟩, ⟨r1, h1, x1⟩, ⟨r2, h2, y0⟩, ⟨r3, h3, y1⟩⟩, _⟩ := c
    simp only [List.mem_cons, List.not_mem_nil, or_false] at h0 h1 h2 h3
    have X0 : a.1 ≤ q.1 := by unfold lt2 at hab; rcases h0 with rfl | rfl <;> omega
    have X1 : q.1 ≤ b.1 := by unfold lt2 at hab; rcases h1 with rfl | rfl <;> omega
    have bn : a.1 < b.1 ∨ (a.1 = b.1 ∧ a.2 ≤ q.2 ∧ q.2 ≤ b.2) := by
      rcases hab with h | ⟨h, h'⟩
      · exact .inl h
      · right
        refine ⟨h, ?_, ?_⟩
        · rcases h2 with rfl | rfl <;> omega
        · rcases h3 with rfl | rfl <;> omega
    refine sc_seg hab hd ?_ ?_
    · unfold dt at hd
      rcases Int.lt_or_le a.1 q.1 with d | d
      · exact .inr (.inl d)
      · have ex : q.1 = a.1 := by omega
        rcases bn with h | ⟨h, k1, k2⟩
        · left
          rw [ex, Int.sub_self, Int.mul_zero, Int.sub_zero] at hd
          rcases Int.mul_eq_zero.1 hd with k | k
          · omega
          · exact Prod.ext ex.symm (by omega)
        · rcases Int.lt_or_le a.2 q.2 with f | f
          · exact .inr (.inr ⟨ex.symm, f⟩)
          · exact .inl (Prod.ext ex.symm (by omega))
    · unfold dt at hd
      rcases Int.lt_or_le q.1 b.1 with d | d
      · exact .inr (.inl d)
      · have ex : q.1 = b.1 := by omega
        rcases bn with h | ⟨h, k1, k2⟩
        · left
          rw [ex] at hd
          have : (b.1 - a.1) * (q.2 - b.2) = 0 := by grind
          rcases Int.mul_eq_zero.1 this with k | k
          · omega
          · exact Prod.ext ex (by omega)
        · rcases Int.lt_or_le q.2 b.2 with f | f
          · exact .inr (.inr ⟨ex, f⟩)
          · exact .inl (Prod.ext ex (by omega))
  | a :: b :: c' :: t, p, c => exact sc_left p (by simp) (c.left (by simp))
theorem cont_of_sc {h : List P2} (p : Poly h) {q : P2} (c : SC h q) : Cont h q := by
  refine ⟨⟨?_, ?_, ?_, ?_⟩, fun _ i hi => ?_⟩
  · obtain ⟨r, hr, e⟩ := c (0, -1)
    exact ⟨r, hr, by unfold crs at e; simp at e; omega⟩
  · obtain ⟨r, hr, e⟩ := c (0, 1)
    exact ⟨r, hr, by unfold crs at e; simp at e; omega⟩
  · obtain ⟨r, hr, e⟩ := c (1, 0)
    exact ⟨r, hr, by unfold crs at e; simp at e; omega⟩
  · obtain ⟨r, hr, e⟩ := c (-1, 0)
    exact ⟨r, hr, by unfold crs at e; simp at e; omega⟩
  · obtain ⟨r, hr, e⟩ := c (sb (gc h (i + 1)) (g h i))
    have l := p.left r hr i hi
    rw [dt_eq, crs_sb] at l ⊢
    omega
theorem cont_iff {h : List P2} (p : Poly h) {q : P2} : Cont h q ↔ SC h q := ⟨sc_of_cont p.toIsH, cont_of_sc p⟩
theorem sc_self {h : List P2} {q : P2} (hq : q ∈ h) : SC h q := fun w => ⟨q, hq, Int.le_refl _⟩
/-- What the hull of a sorted list is. -/
theorem hull_poly {s : List P2} (hi : Incr s) (hne : s ≠ []) : Poly (hullS s) ∧ (∀ q ∈ s, SC (hullS s) q) ∧ (∀ r ∈ hullS s, r ∈ s) ∧ g (hullS s) 0 = g s 0 := by
  match s, hne, hi with
  | [a], _, _ =>
    have e : hullS [a] = [a] := rfl
    rw [e]
    refine ⟨⟨⟨by simp, fun i h => by simp at h, fun i _ h => by simp at h, fun h => by simp at h⟩, ?_⟩, fun q hq => sc_self hq, fun r h => h, rfl⟩
    intro q _ i hi
    obtain rfl : i = 0 := by simpa using hi
    have : dt (g [a] 0) (gc [a] (0 + 1)) q = dt a a q := by simp [gc, g]
    rw [this, dt_self0]
    exact Int.le_refl _
  | a :: b :: t, _, hi =>
    obtain ⟨h1, h2, h3, h4, h5, h6⟩ := hull_two hi (n := t.length) rfl
    refine ⟨⟨h1, fun q hq => h2 q (h3 q hq)⟩, ?_, h3, h4⟩
    intro q hq
    have hl := h2 q hq
    generalize hullS (a :: b :: t) = H at *
    match H, h1, h2, h3, h4, h5, h6, hl with
    | [u, v], h1, h2, h3, h4, h5, h6, hl =>
      have huv : lt2 u v := h1.first 0 (by simp)
      have e0 : 0 ≤ dt u v q := by simpa [gc, g] using hl 0 (by simp)
      have e1 : 0 ≤ dt v u q := by simpa [gc, g] using hl 1 (by simp)
      have e2 : dt v u q = - dt u v q := by unfold dt; grind
      obtain ⟨j, hj, rfl⟩ := mem_g hq
      have hu : u = g (a :: b :: t) 0 := h4
      have hv : v = g (a :: b :: t) (t.length + 1) := by
        have := h6
        simp only [List.mem_cons, List.not_mem_nil, or_false] at this
        rcases this with h | h
        · exfalso
          have k := lt2_g hi (i := 0) (j := t.length + 1) (by omega) (by simp)
          rw [← hu, h] at k
          exact lt2_irrefl _ k
        · exact h.symm
      refine sc_seg huv (by omega) ?_ ?_
      · rcases Nat.eq_zero_or_pos j with e | e
        · subst e; exact .inl hu
        · right; rw [hu]; exact lt2_g hi e hj
      · rcases Nat.lt_or_ge j (t.length + 1) with e | e
        · right; rw [hv]; exact lt2_g hi e (by simp)
        · left; rw [hv]; congr 1; simp at hj; omega
    | u :: v :: x :: r, h1, _, _, _, _, _, hl => exact sc_left h1 (by simp) hl
/-- Around a corner all other corners lie on one side. -/
theorem corner_side {h : List P2} (p : Poly h) (h3 : 3 ≤ h.length) {i : Nat} (hi : i < h.length) : ∃ w, ∀ r ∈ h, r ≠ g h i → crs w (g h i) < crs w r := by
  obtain ⟨j, hj, a1, a2, ht⟩ := around p.toIsH h3 hi
  refine ⟨sb (gc h (i + 1)) (g h j), fun r hr hne => ?_⟩
  have e1 : 0 ≤ crs (sb (g h i) (g h j)) (sb r (g h i)) := by have := p.left r hr j hj; rwa [a1, dt_b] at this
  have f1 : 0 ≤ crs (sb (gc h (i + 1)) (g h i)) (sb r (g h i)) := by have := p.left r hr i hi; rwa [dt_eq] at this
  have e : crs (sb (gc h (i + 1)) (g h j)) (sb r (g h i)) = crs (sb (g h i) (g h j)) (sb r (g h i)) + crs (sb (gc h (i + 1)) (g h i)) (sb r (g h i)) := by unfold crs sb; grind
  have k : 0 < crs (sb (gc h (i + 1)) (g h j)) (sb r (g h i)) := by
    rcases Int.lt_or_le 0 (crs (sb (gc h (i + 1)) (g h j)) (sb r (g h i))) with c | c
    · exact c
    · exfalso
      rw [dt_b] at ht
      have z1 : crs (sb (g h i) (g h j)) (sb r (g h i)) = 0 := by omega
      have z2 : crs (sb (gc h (i + 1)) (g h i)) (sb r (g h i)) = 0 := by omega
      have c1 := cramer_at (sb (g h i) (g h j)) (sb (gc h (i + 1)) (g h i)) (0, 1) (sb r (g h i))
      have c2 := cramer_at (sb (g h i) (g h j)) (sb (gc h (i + 1)) (g h i)) (1, 0) (sb r (g h i))
      have z3 : crs (sb r (g h i)) (sb (gc h (i + 1)) (g h i)) = 0 := by rw [crs_swap]; omega
      rw [z1, z3, Int.zero_mul, Int.zero_mul, Int.add_zero] at c1 c2
      have x : (sb r (g h i)).1 = 0 := by
        rcases Int.mul_eq_zero.1 c1 with k | k
        · omega
        · unfold crs at k; simp only at k; omega
      have y : (sb r (g h i)).2 = 0 := by
        rcases Int.mul_eq_zero.1 c2 with k | k
        · omega
        · unfold crs at k; simp only at k; omega
      unfold sb at x y
      simp only at x y
      exact hne (Prod.ext (by omega) (by omega))
  rw [crs_sb] at k
  omega
/-- The corners are different. -/
theorem corners_ne {h : List P2} (p : IsH h) {i j : Nat} (hij : i < j) (hj : j < h.length) : g h i ≠ g h j := by
  rcases Nat.eq_zero_or_pos i with e | e
  · subst e
    have := p.first (j - 1) (by omega)
    rw [show j - 1 + 1 = j by omega] at this
    exact lt2_ne this
  · have fwd : ∀ k, 0 < k → k < h.length → fw (sb (g h k) (g h 0)) := fun k k0 k1 => by
      have := p.first (k - 1) (by omega)
      rw [show k - 1 + 1 = k by omega] at this
      exact fw_sb.2 this
    have key : ∀ d, i + d + 1 < h.length → 0 < crs (sb (g h i) (g h 0)) (sb (g h (i + d + 1)) (g h 0)) := by
      intro d
      induction d with
      | zero => intro hd; have := p.fan i e hd; rwa [dt_eq] at this
      | succ d ih =>
        intro hd
        have a := ih (by omega)
        have b := p.fan (i + d + 1) (by omega) (by omega)
        rw [dt_eq] at b
        rw [show i + (d + 1) + 1 = i + d + 1 + 1 by omega] at hd ⊢
        exact crs_trans_l (fwd i e (by omega)) (fwd _ (by omega) (by omega)) (fwd _ (by omega) (by omega)) a (by omega)
    have := key (j - i - 1) (by omega)
    rw [show i + (j - i - 1) + 1 = j by omega] at this
    intro e2
    rw [e2] at this
    have z : crs (sb (g h j) (g h 0)) (sb (g h j) (g h 0)) = 0 := by unfold crs; grind
    omega
/-- Without a corner the hull does not contain it. -/
theorem without {h R : List P2} (p : Poly h) (h2 : 2 ≤ h.length) {i : Nat} (hi : i < h.length) (hR : ∀ r ∈ R, ∃ j, j < h.length ∧ j ≠ i ∧ r = g h j) : ¬ SC R (g h i) := by
  intro hs
  have other : ∀ r ∈ R, r ∈ h ∧ r ≠ g h i := by
    intro r hr
    obtain ⟨j, hj, hji, rfl⟩ := hR r hr
    refine ⟨g_mem hj, ?_⟩
    rcases Nat.lt_or_ge j i with c | c
    · exact corners_ne p.toIsH c hi
    · exact fun e => corners_ne p.toIsH (show i < j by omega) hj e.symm
  rcases Nat.lt_or_ge 2 h.length with c | c
  · obtain ⟨w, hw⟩ := corner_side p c hi
    obtain ⟨r, hr, e⟩ := hs w
    have := hw r (other r hr).1 (other r hr).2
    omega
  · -- two corners: the one behind the other one
    have hl : h.length = 2 := by omega
    match h, hl, p, other, hi, hs with
    | [a, b], _, p, other, hi, hs =>
      have hab : lt2 a b := p.toIsH.first 0 (by simp)
      match i, hi with
      | 0, _ =>
        have hb : ∀ r ∈ R, r = b := fun r hr => by
          have := other r hr
          simp only [List.mem_cons, List.not_mem_nil, or_false, g_zero] at this
          rcases this with ⟨h | h, k⟩
          · exact absurd h k
          · exact h
        obtain ⟨r, hr, e⟩ := hs (0, -1)
        obtain ⟨r', hr', e'⟩ := hs (1, 0)
        rw [hb r hr] at e
        rw [hb r' hr'] at e'
        unfold crs g at e e'
        unfold lt2 at hab
        simp at e e'
        omega
      | 1, _ =>
        have hb : ∀ r ∈ R, r = a := fun r hr => by
          have := other r hr
          simp only [List.mem_cons, List.not_mem_nil, or_false] at this
          rcases this with ⟨h | h, k⟩
          · exact h
          · exact absurd h k
        obtain ⟨r, hr, e⟩ := hs (0, 1)
        obtain ⟨r', hr', e'⟩ := hs (-1, 0)
        rw [hb r hr] at e
        rw [hb r' hr'] at e'
        unfold crs g at e e'
        unfold lt2 at hab
        simp at e e'
        omega
end Go.Proofs.Gx
namespace Go.Proofs.Gx
/-- Equal neighbours become one. -/
def dedup : List P2 → List P2
  | a :: b :: t => if a = b then dedup (b :: t) else a :: dedup (b :: t)
  | l => l
theorem dedup_mem (q : P2) : ∀ l, q ∈ dedup l ↔ q ∈ l := by
  intro l
  induction l with
  | nil => exact Iff.rfl
  | cons a l ih =>
    match l, ih with
    | [], _ => exact Iff.rfl
    | b :: t, ih =>
      unfold dedup
      split
      · rename_i h
        subst h
        rw [ih]
        simp
      · rw [List.mem_cons, ih, List.mem_cons (a := q) (b := a)]
theorem dedup_incr : ∀ l : List P2, l.Pairwise le2 → Incr (dedup l) := by
  intro l
  induction l with
  | nil => intro _; exact List.Pairwise.nil
  | cons a l ih =>
    intro h
    match l, ih, h with
    | [], _, _ => exact List.pairwise_singleton _ _
    | b :: t, ih, h =>
      have h1 := List.pairwise_cons.1 h
      have h2 := List.pairwise_cons.1 h1.2
      unfold dedup
      split
      · exact ih h1.2
      · rename_i hne
        refine List.pairwise_cons.2 ⟨fun q hq => ?_, ih h1.2⟩
        have hab : lt2 a b := (h1.1 b (by simp)).resolve_left hne
        rcases List.mem_cons.1 ((dedup_mem q _).1 hq) with rfl | hq
        · exact hab
        · exact lt2_le2 hab (h2.1 q hq)
theorem incr_unique : ∀ a b : List P2, Incr a → Incr b → (∀ q, q ∈ a ↔ q ∈ b) → a = b := by
  intro a
  induction a with
  | nil =>
    intro b _ _ h
    match b with
    | [] => rfl
    | y :: t => exact absurd ((h y).2 (by simp)) (by simp)
  | cons x a ih =>
    intro b ha hb h
    match b, hb, h with
    | [], _, h => exact absurd ((h x).1 (by simp)) (by simp)
    | y :: t, hb, h =>
      have a1 := List.pairwise_cons.1 ha
      have b1 := List.pairwise_cons.1 hb
      have hxy : x = y := by
        rcases List.mem_cons.1 ((h x).1 (by simp)) with e | e
        · exact e
        · rcases List.mem_cons.1 ((h y).2 (by simp)) with e' | e'
          · exact e'.symm
          · exact absurd (a1.1 y e') (lt2_asymm (b1.1 x e))
      subst hxy
      have : a = t := ih t a1.2 b1.2 fun q => by
        constructor
        · intro hq
          rcases List.mem_cons.1 ((h q).1 (List.mem_cons_of_mem _ hq)) with e | e
          · subst e; exact absurd (a1.1 q hq) (lt2_irrefl q)
          · exact e
        · intro hq
          rcases List.mem_cons.1 ((h q).2 (List.mem_cons_of_mem _ hq)) with e | e
          · subst e; exact absurd (b1.1 q hq) (lt2_irrefl q)
          · exact e
      rw [this]
def insU (p : P2) : List P2 → List P2
  | [] => [p]
  | q :: t => if lt2 q p then q :: insU p t else if q = p then q :: t else p :: q :: t
theorem insU_mem (p q : P2) : ∀ l, q ∈ insU p l ↔ q = p ∨ q ∈ l := by
  intro l
  induction l with
  | nil => simp [insU]
  | cons a l ih =>
    unfold insU
    split
    · rw [List.mem_cons, ih, List.mem_cons]
      constructor
      · rintro (h | h | h)
        · exact .inr (.inl h)
        · exact .inl h
        · exact .inr (.inr h)
      · rintro (h | h | h)
        · exact .inr (.inl h)
        · exact .inl h
        · exact .inr (.inr h)
    · split
      · rename_i h
        subst h
        simp
      · simp
theorem insU_incr (p : P2) : ∀ l, Incr l → Incr (insU p l) := by
  intro l
  induction l with
  | nil => intro _; exact List.pairwise_singleton _ _
  | cons a l ih =>
    intro h
    have h1 := List.pairwise_cons.1 h
    unfold insU
    split
    · rename_i hap
      refine List.pairwise_cons.2 ⟨fun q hq => ?_, ih h1.2⟩
      rcases (insU_mem p q l).1 hq with rfl | hq
      · exact hap
      · exact h1.1 q hq
    · split
      · exact h
      · rename_i h2 h3
        have hpa : lt2 p a := by
          rcases lt2_tri p a with k | k | k
          · exact k
          · exact absurd k.symm h3
          · exact absurd k h2
        refine List.pairwise_cons.2 ⟨fun q hq => ?_, h⟩
        rcases List.mem_cons.1 hq with rfl | hq
        · exact hpa
        · exact lt2_trans hpa (h1.1 q hq)
/-- The points in order, each one once. -/
def sortU (l : List P2) : List P2 := l.foldl (fun s p => insU p s) []
theorem sortU_snoc (l : List P2) (p : P2) : sortU (l ++ [p]) = insU p (sortU l) := by simp [sortU]
theorem sortU_ok : ∀ l : List P2, Incr (sortU l) ∧ ∀ q, q ∈ sortU l ↔ q ∈ l := by
  intro l
  generalize hr : l.reverse = r
  induction r generalizing l with
  | nil =>
    have : l = [] := by simpa using hr
    subst this
    exact ⟨List.Pairwise.nil, fun q => Iff.rfl⟩
  | cons p r ih =>
    have e : l = r.reverse ++ [p] := by rw [← List.reverse_reverse l, hr]; simp
    have h := ih r.reverse (by simp)
    subst e
    rw [sortU_snoc]
    refine ⟨insU_incr p _ h.1, fun q => ?_⟩
    rw [insU_mem, h.2, List.mem_append, List.mem_singleton]
    exact Or.comm
theorem sortU_ne {l : List P2} (h : l ≠ []) : sortU l ≠ [] := by
  intro e
  match l, h with
  | a :: t, _ =>
    have := ((sortU_ok (a :: t)).2 a).2 (by simp)
    rw [e] at this
    simp at this
theorem sort_unique {l s : List P2} (hs : Incr s) (hm : ∀ q, q ∈ s ↔ q ∈ l) : s = sortU l :=
  incr_unique s (sortU l) hs (sortU_ok l).1 fun q => by rw [hm, (sortU_ok l).2]
/-- The hull of points. -/
def hullF (l : List P2) : List P2 := hullS (sortU l)
theorem hullF_same {a b : List P2} (h : ∀ q, q ∈ a ↔ q ∈ b) : hullF a = hullF b := by
  have e : sortU a = sortU b := sort_unique (sortU_ok a).1 (fun q => by rw [(sortU_ok a).2, h])
  unfold hullF
  rw [e]
theorem hullF_poly {l : List P2} (h : l ≠ []) : Poly (hullF l) ∧ (∀ q ∈ l, SC (hullF l) q) ∧ (∀ r ∈ hullF l, r ∈ l) := by
  obtain ⟨h1, h2, h3, _⟩ := hull_poly (sortU_ok l).1 (sortU_ne h)
  exact ⟨h1, fun q hq => h2 q (((sortU_ok l).2 q).2 hq), fun r hr => ((sortU_ok l).2 r).1 (h3 r hr)⟩
theorem dedup_sort {l s : List P2} (hp : s.Perm l) (hs : s.Pairwise le2) : dedup s = sortU l :=
  sort_unique (dedup_incr s hs) fun q => by rw [dedup_mem, hp.mem_iff]
end Go.Proofs.Gx
namespace Go.Proofs.Hin
open Go
section
variable {F : Fence} {n : Nat} {P : Program} {ops : Array Oper} {Q : Exit → Act → World → Prop} {md : Region.Mode} {S : World → Prop} {L : Nat}
/-- It yields v in the worlds of S, and calls nothing. -/
def Sure (P : Program) (ops : Array Oper) (S : World → Prop) (o : Oper) (v : Value) (a : Act) : Prop := YieldsIf P ops S o v a ∧ ∀ w, o.about P w a.eval = none
theorem Sure.now {i : Nat} {o : Oper} {v : Value} {a : Act} {w : World} {K : Act → World → Prop} (hro : F.round = none) (hi : ops[i]? = some o) (s : Sure P ops S o v a) (hS : S w) (h : K (a.put o.dst v) w) :
    wpOpIn F n P ops Q i K a w := by
  have free : ∀ f, o.about P w a.eval = some f → F.fn f := fun f e => absurd ((s.2 w).symm.trans e) (by simp)
  rw [show wpOpIn F n P ops Q i K a w = (if Region.wanted o (yielded ops a.tmps) then o.wpIn F n P a w K Q else (∀ f, o.about P w a.eval = some f → F.fn f) ∧ K (a.put o.dst undef) w) by unfold wpOpIn; rw [hi]]
  rcases s.1 with ⟨e, r⟩ | ⟨e, rfl⟩
  · rw [if_pos e]
    unfold Oper.wpIn
    rw [hro, Oper.semAt_none, r w hS]
    exact ⟨free, h⟩
  · rw [if_neg (by rw [e]; simp)]
    exact ⟨free, h⟩
/-- Every order, and S behind each operation but L, behind which nothing is asked. -/
def AnyS (F : Fence) (n : Nat) (P : Program) (md : Region.Mode) (ops : Array Oper) (Q : Exit → Act → World → Prop) (S : World → Prop) (L : Nat) : Nat → Array Bool → Act → World → Prop
  | 0, listed, a, w => Region.ready md ops listed = [] ∧ Q .normal a w
  | k + 1, listed, a, w => (Region.ready md ops listed = [] → Q .normal a w) ∧ ∀ i ∈ Region.ready md ops listed, wpOpIn F n P ops Q i (fun b u => (i = L → wpAnyIn F n P md ops Q k (listed.setIfInBounds i true) b u) ∧ (i ≠ L → S u ∧ AnyS F n P md ops Q S L k (listed.setIfInBounds i true) b u)) a w
theorem AnyS.plain (k : Nat) : ∀ (listed : Array Bool) (a : Act) (w : World), AnyS F n P md ops Q S L k listed a w → wpAnyIn F n P md ops Q k listed a w := by
  induction k with
  | zero => exact fun _ _ _ h => h
  | succ k ih => exact fun _ _ _ h => ⟨h.1, fun i hi => wpOpIn_mono (fun b u q => if e : i = L then q.1 e else ih _ b u (q.2 e).2) (h.2 i hi)⟩
/-- What is listed, is listed with all that it waits for. -/
def Closed (md : Region.Mode) (ops : Array Oper) (listed : Array Bool) : Prop := ∀ j oj, ops[j]? = some oj → listed.getD j false = true → ∀ e ∈ oj.after, Region.binds md e = true → listed.getD e.on false = true
theorem closed_none (k : Nat) : Closed md ops (Array.replicate k false) := fun j _ _ h => by
  by_cases c : j < k <;> simp [c] at h
theorem getD_tf {listed : Array Bool} {j : Nat} (h : listed.getD j true = false) : j < listed.size ∧ listed.getD j false = false := by
  rcases Nat.lt_or_ge j listed.size with c | c
  · simp [c] at h ⊢; exact h
  · simp [Array.getElem?_eq_none c] at h
theorem closed_set {listed : Array Bool} {j : Nat} (h : Closed md ops listed) (hj : j ∈ Region.ready md ops listed) : Closed md ops (listed.setIfInBounds j true) := by
  obtain ⟨_, oj, hoj, hall⟩ := mem_ready.1 hj
  intro m om hm hl e he hb
  by_cases c : j = m
  · subst c
    obtain rfl : oj = om := Option.some.inj (hoj.symm.trans hm)
    exact getD_set_true (hall e he hb)
  · rw [getD_set_ne false c] at hl
    exact getD_set_true (h m om hm hl e he hb)
def closedB (md : Region.Mode) (ops : Array Oper) (listed : Array Bool) : Bool := (List.range ops.size).all fun j => ((ops[j]?).map fun o => !listed.getD j false || o.after.all fun e => !Region.binds md e || listed.getD e.on false).getD true
theorem closed_of {listed : Array Bool} (h : closedB md ops listed = true) : Closed md ops listed := fun j oj hj hl e he hb => by
  have := List.all_eq_true.1 h j (List.mem_range.2 (Array.getElem?_eq_some_iff.1 hj).1)
  rw [hj] at this
  simp only [Option.map_some, Option.getD_some, Bool.or_eq_true, Bool.not_eq_true', Array.all_eq_true_iff_forall_mem] at this
  rcases this with c | c
  · rw [hl] at c; cases c
  · rcases c e he with c | c
    · rw [hb] at c; cases c
    · exact c
/-- Each of these waits for the next one. -/
def waits (md : Region.Mode) (ops : Array Oper) : List Nat → Bool
  | a :: b :: t => ((ops[a]?).map fun o => o.after.any fun e => Region.binds md e && e.on == b).getD false && waits md ops (b :: t)
  | _ => true
theorem waits_listed {listed : Array Bool} (h : Closed md ops listed) : ∀ (t : List Nat) (a : Nat), waits md ops (a :: t) = true → listed.getD a false = true → listed.getD ((a :: t).getLastD 0) false = true
  | [], _, _, hl => hl
  | b :: t, a, hw, hl => by
    simp only [waits, Bool.and_eq_true] at hw
    obtain ⟨h1, h2⟩ := hw
    cases ho : ops[a]? with
    | none => rw [ho] at h1; simp at h1
    | some o =>
      rw [ho] at h1
      simp only [Option.map_some, Option.getD_some, Array.any_eq_true, Bool.and_eq_true, beq_iff_eq] at h1
      obtain ⟨k, hk, hb, rfl⟩ := h1
      have := waits_listed h t (o.after[k].on) h2 (h a o ho hl _ (Array.getElem_mem hk) hb)
      simpa using this
theorem not_ready {listed : Array Bool} (h : Closed md ops listed) {i : Nat} {p : List Nat} (hp : waits md ops (L :: p) = true) (he : (L :: p).getLastD 0 = i) (hne : i ≠ L) (hi : listed.getD i true = false) : L ∉ Region.ready md ops listed := fun hL => by
  have h1 := getD_tf (mem_ready.1 hL).1
  have h2 := waits_listed (closed_set h hL) p L hp (by simp [h1.1])
  rw [he, getD_set_ne false (Ne.symm hne), (getD_tf hi).2] at h2
  cases h2
theorem AnyS.start {id : Nat} {a : Act} {w : World} (hm : P.follows .mixedOrders = true) (S : World → Prop) (L : Nat) (h : AnyS F n P .any ops Q S L ops.size (Array.replicate ops.size false) a { w with drawn := w.drawn + 1 }) :
    (Code.region id ops true).wpIn F n P Q a w := wpIn_region_any hm (h.plain _ _ _ _)
theorem AnyS.done {listed : Array Bool} {a : Act} {w : World} (hr : Region.ready md ops listed = []) (h : Q .normal a w) (k : Nat) : AnyS F n P md ops Q S L k listed a w := by
  cases k with
  | zero => exact ⟨hr, h⟩
  | succ k => exact ⟨fun _ => h, fun i hi => absurd (hr ▸ hi) (by simp)⟩
/-- Another operation than i, behind i's value or ahead of it. -/
theorem swap {j : Nat} {oi oj : Oper} {v : Value} (hro : F.round = none) (hj : ops[j]? = some oj) (hap : oi.apart ops oj = true) (ni : ∀ cs b, oi.op ≠ .select cs b) (nj : ∀ cs b, oj.op ≠ .select cs b)
    (hQ : ∀ c a w, Q (.panic c) (a.put oi.dst v) w → Q (.panic c) a w) {K : Act → World → Prop} {a : Act} {w : World} (s : Sure P ops S oi v a) (h : wpOpIn F n P ops Q j K (a.put oi.dst v) w) :
    wpOpIn F n P ops Q j (fun b u => Sure P ops S oi v b ∧ K (b.put oi.dst v) u) a w := by
  obtain ⟨q1, q2, q3⟩ := Oper.apart_spec hap
  have put : ∀ b : Act, Sure P ops S oi v b → ∀ u, Sure P ops S oi v (b.put oj.dst u) := fun b hb u =>
    ⟨hb.1.of_same (execOp_put oi ni b oj.dst u q3) (wanted_put oi b oj.dst u q3), fun w => by rw [about_put oi w b oj.dst u q3]; exact hb.2 w⟩
  have dfr : ∀ d, Sure P ops S oi v { a with defers := d :: a.defers } := fun d => ⟨s.1.of_same rfl rfl, s.2⟩
  have swp : ∀ u, (a.put oj.dst u).put oi.dst v = (a.put oi.dst v).put oj.dst u := fun u => (Act.put_comm a v u q2).symm
  unfold wpOpIn at h ⊢
  rw [hj] at h ⊢
  dsimp only at h ⊢
  rw [wanted_put oj a oi.dst v q1, about_put oj w a oi.dst v q1] at h
  by_cases hw : Region.wanted oj (yielded ops a.tmps) = true
  · rw [if_pos hw] at h ⊢
    unfold Oper.wpIn at h ⊢
    rw [about_put oj w a oi.dst v q1, hro, Oper.semAt_none, execOp_put oj nj a oi.dst v q1] at h
    rw [hro, Oper.semAt_none]
    refine ⟨h.1, ?_⟩
    replace h := h.2
    cases hr : (execOp a.eval oj).run P w with
    | halt x u =>
      rw [hr] at h
      cases x <;> simp only [Oper.uponIn] at h ⊢
      exact hQ _ _ _ h
    | ok x u =>
      rw [hr] at h
      cases x <;> simp only [Oper.uponIn] at h ⊢
      case value y => exact ⟨put a s y, by rw [swp]; exact h⟩
      case skip => exact ⟨put a s _, by rw [swp]; exact h⟩
      case defer d =>
        refine ⟨⟨(dfr d).1.of_same (execOp_put oi ni _ oj.dst undef q3) (wanted_put oi _ oj.dst undef q3), fun w => by rw [about_put oi w _ oj.dst undef q3]; exact (dfr d).2 w⟩, ?_⟩
        rw [← Act.put_comm _ v undef q2, ← Act.put_defers]
        exact h
      case enter f args =>
        refine ⟨h.1, CallsIn.mono h.2 fun e u' he => ?_⟩
        cases e with
        | returned y => exact ⟨put a s y, by rw [swp]; exact he⟩
        | panicked c => exact hQ _ _ _ he
        | outgrown => exact he
      case row row args => exact ⟨h.1, RowsIn.mono h.2 fun y u' he => ⟨put a s y, by rw [swp]; exact he⟩⟩
      case round l f tmps assign body =>
        refine ⟨h.1, RoundIn.mono h.2 fun e u' he => ?_⟩
        cases e with
        | returned y => exact ⟨put a s y, by rw [swp]; exact he⟩
        | panicked c => exact hQ _ _ _ he
        | outgrown => exact he
  · rw [if_neg hw] at h ⊢
    exact ⟨h.1, put a s _, by rw [swp]; exact h.2⟩
theorem AnyS.first {i : Nat} {oi : Oper} {v : Value} (hro : F.round = none) (hi : ops[i]? = some oi) (hn : ∀ (j : Nat) (o : Oper) cs b, ops[j]? = some o → o.op ≠ .select cs b)
    (hQ : ∀ c a w, Q (.panic c) (a.put oi.dst v) w → Q (.panic c) a w) (hiL : i ≠ L) {p : List Nat} (hp : waits md ops (L :: p) = true) (he : (L :: p).getLastD 0 = i) (k : Nat) : ∀ (listed : Array Bool) (a : Act) (w : World),
      (∀ j oj, ops[j]? = some oj → j ≠ i → listed.getD j true = false → (∀ e ∈ oj.after, Region.binds md e = true → e.on ≠ i) → oi.apart ops oj = true) →
      Closed md ops listed → i ∈ Region.ready md ops listed → Sure P ops S oi v a → S w → AnyS F n P md ops Q S L k (listed.setIfInBounds i true) (a.put oi.dst v) w → AnyS F n P md ops Q S L (k + 1) listed a w := by
  induction k with
  | zero =>
    intro listed a w _ _ hr s hS H
    refine ⟨fun e => absurd (e ▸ hr) (by simp), fun j hj => ?_⟩
    by_cases e : j = i
    · subst e; exact s.now hro hi hS ⟨fun e => absurd e hiL, fun _ => ⟨hS, H⟩⟩
    · exact absurd (H.1 ▸ ready_mono hj e) (by simp)
  | succ k ih =>
    intro listed a w far hc hr s hS H
    refine ⟨fun e => absurd (e ▸ hr) (by simp), fun j hj => ?_⟩
    by_cases e : j = i
    · subst e; exact s.now hro hi hS ⟨fun e => absurd e hiL, fun _ => ⟨hS, H⟩⟩
    · obtain ⟨hun, oj, hoj, hall⟩ := mem_ready.1 hj
      have hni : listed.getD i true = false := (mem_ready.1 hr).1
      have hnot : ∀ e ∈ oj.after, Region.binds md e = true → e.on ≠ i := fun e he hb heq => by
        have h1 := hall e he hb
        rw [heq] at h1
        rcases Nat.lt_or_ge i listed.size with h' | h'
        · simp [h'] at hni h1
          rw [hni] at h1
          cases h1
        · simp [Array.getElem?_eq_none h'] at h1
      have hjL : j ≠ L := fun e => not_ready hc hp he hiL hni (e ▸ hj)
      refine wpOpIn_mono (fun b u q => ⟨fun e => absurd e hjL, fun _ => ⟨(q.2.2 hjL).1, ih (listed.setIfInBounds j true) b u (fun m om hm hmi hun' hno => far m om hm hmi ?_ hno) (closed_set hc hj) (ready_mono hr (Ne.symm e)) q.1 (q.2.2 hjL).1 ?_⟩⟩)
        (swap hro hoj (far j oj hoj e hun hnot) (fun cs b => hn i oi cs b hi) (fun cs b => hn j oj cs b hoj) hQ s (H.2 j (ready_mono hj e)))
      · by_cases hjm : j = m
        · subst hjm; exact hun
        · rwa [getD_set_ne true hjm] at hun'
      · rw [Array.setIfInBounds_comm _ _ e]
        exact (q.2.2 hjL).2
/-- Take operation i now; p: the way from L to i along what waits. -/
theorem AnyS.take {i : Nat} {oi : Oper} {v : Value} {k : Nat} {listed : Array Bool} {a : Act} {w : World} (p : List Nat) (hro : F.round = none) (hi : ops[i]? = some oi) (hs : Region.noSelect ops = true) (hf : Region.free md ops listed i = true)
    (hr : (Region.ready md ops listed).contains i = true) (hiL : Nat.beq i L = false) (hp : waits md ops (L :: p) = true) (he : (L :: p).getLastD 0 = i) (hc : closedB md ops listed = true)
    (hQ : ∀ c a w, Q (.panic c) (a.put oi.dst v) w → Q (.panic c) a w) (hy : YieldsIf P ops S oi v a) (hab : ∀ w, oi.about P w a.eval = none) (hS : S w)
    (h : AnyS F n P md ops Q S L k (listed.setIfInBounds i true) (a.put oi.dst v) w) : AnyS F n P md ops Q S L (k + 1) listed a w :=
  AnyS.first hro hi (Region.noSelect_spec hs) hQ (fun e => by subst e; simp at hiL) hp he k listed a w (Region.free_spec hi hf) (closed_of hc) (by simpa using hr) ⟨hy, hab⟩ hS h
/-- The late operation: from here on any order. -/
theorem AnyS.late {i : Nat} {o : Oper} {k : Nat} {listed : Array Bool} {a : Act} {w : World} (hr : Region.ready md ops listed = [i]) (ho : ops[i]? = some o) (hw : Region.wanted o (yielded ops a.tmps) = true) (hL : i = L)
    (h : ∀ K : Act → World → Prop, (∀ b u, wpAnyIn F n P md ops Q k (listed.setIfInBounds i true) b u → K b u) → o.wpIn F n P a w K Q) : AnyS F n P md ops Q S L (k + 1) listed a w := by
  refine ⟨fun e => absurd (hr.symm.trans e) (by simp), fun j hj => ?_⟩
  rw [hr] at hj
  obtain rfl : j = i := by simpa using hj
  unfold wpOpIn
  rw [ho]
  dsimp only
  rw [if_pos hw]
  exact h _ fun b u h1 => ⟨fun _ => h1, fun e => absurd hL e⟩
end
end Go.Proofs.Hin
