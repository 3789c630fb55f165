/- Chains of points: the corners that are left when a sorted list is walked along. -/
namespace Go.Proofs.Gx
abbrev P2 := Int × Int
/-- The cross product. -/
def crs (u v : P2) : Int := u.1 * v.2 - u.2 * v.1
def sb (a b : P2) : P2 := (a.1 - b.1, a.2 - b.2)
def ad (a b : P2) : P2 := (a.1 + b.1, a.2 + b.2)
def ng (a : P2) : P2 := (-a.1, -a.2)
/-- The turn of three points, before its sign is taken. -/
def dt (a b c : P2) : Int := (b.1 - a.1) * (c.2 - a.2) - (b.2 - a.2) * (c.1 - a.1)
/-- Forward: to the right, or straight up. -/
def fw (u : P2) : Prop := 0 < u.1 ∨ u.1 = 0 ∧ 0 < u.2
def lt2 (a b : P2) : Prop := a.1 < b.1 ∨ a.1 = b.1 ∧ a.2 < b.2
def le2 (a b : P2) : Prop := a = b ∨ lt2 a b
instance (a b : P2) : Decidable (lt2 a b) := by unfold lt2; exact inferInstance
instance (a b : P2) : Decidable (le2 a b) := by unfold le2; exact inferInstance
theorem fw_sb {a b : P2} : fw (sb b a) ↔ lt2 a b := by unfold fw sb lt2; simp only; omega
theorem lt2_irrefl (a : P2) : ¬ lt2 a a := by unfold lt2; omega
theorem lt2_trans {a b c : P2} (h : lt2 a b) (k : lt2 b c) : lt2 a c := by unfold lt2 at *; omega
theorem lt2_asymm {a b : P2} (h : lt2 a b) : ¬ lt2 b a := by unfold lt2 at *; omega
theorem lt2_tri (a b : P2) : lt2 a b ∨ a = b ∨ lt2 b a := by
  obtain ⟨a1, a2⟩ := a; obtain ⟨b1, b2⟩ := b
  unfold lt2; simp only [Prod.mk.injEq]; omega
theorem lt2_ne {a b : P2} (h : lt2 a b) : a ≠ b := fun e => lt2_irrefl b (e ▸ h)
theorem le2_lt2 {a b c : P2} (h : le2 a b) (k : lt2 b c) : lt2 a c := by rcases h with rfl | h; exact k; exact lt2_trans h k
theorem lt2_le2 {a b c : P2} (h : lt2 a b) (k : le2 b c) : lt2 a c := by rcases k with rfl | k; exact h; exact lt2_trans h k
theorem le2_trans {a b c : P2} (h : le2 a b) (k : le2 b c) : le2 a c := by rcases h with rfl | h; exact k; exact .inr (lt2_le2 h k)
theorem le2_refl (a : P2) : le2 a a := .inl rfl
theorem pos_left {a b : Int} (h : 0 < a * b) (hb : 0 < b) : 0 < a := by
  rcases Int.lt_trichotomy a 0 with c | c | c
  · have := Int.mul_neg_of_neg_of_pos c hb; omega
  · subst c; simp at h
  · exact c
theorem nonneg_left {a b : Int} (h : 0 ≤ a * b) (hb : 0 < b) : 0 ≤ a := by
  rcases Int.lt_trichotomy a 0 with c | c | c
  · have := Int.mul_neg_of_neg_of_pos c hb; omega
  · omega
  · omega
theorem cramer1 (u v w : P2) : crs u w * v.1 = crs v w * u.1 + crs u v * w.1 := by unfold crs; grind
theorem cramer2 (u v w : P2) : crs u w * v.2 = crs v w * u.2 + crs u v * w.2 := by unfold crs; grind
/-- Among ways forward, to be to the left is transitive. -/
theorem crs_trans {u v w : P2} (hu : fw u) (hv : fw v) (hw : fw w) (h1 : 0 ≤ crs u v) (h2 : 0 ≤ crs v w) : 0 ≤ crs u w := by
  have c := cramer1 u v w
  rcases hv with v1 | ⟨v1, v2⟩
  · refine nonneg_left (b := v.1) ?_ v1
    rw [c]
    have a1 : 0 ≤ u.1 := by rcases hu with h | h <;> omega
    have a2 : 0 ≤ w.1 := by rcases hw with h | h <;> omega
    have := Int.mul_nonneg h2 a1
    have := Int.mul_nonneg h1 a2
    omega
  · have e : w.1 = 0 := by
      rcases hw with h | h
      · exfalso
        have : crs v w = - (v.2 * w.1) := by unfold crs; rw [v1]; omega
        have := Int.mul_pos v2 h
        omega
      · exact h.1
    have w2 : 0 < w.2 := by rcases hw with h | h <;> omega
    have : crs u w = u.1 * w.2 := by unfold crs; rw [e]; omega
    rw [this]
    exact Int.mul_nonneg (by rcases hu with h | h <;> omega) (by omega)
theorem crs_trans_l {u v w : P2} (hu : fw u) (hv : fw v) (hw : fw w) (h1 : 0 < crs u v) (h2 : 0 ≤ crs v w) : 0 < crs u w := by
  have c := cramer1 u v w
  rcases hv with v1 | ⟨v1, v2⟩
  · have a1 : 0 ≤ u.1 := by rcases hu with h | h <;> omega
    rcases hw with w1 | ⟨w1, w2⟩
    · refine pos_left (b := v.1) ?_ v1
      rw [c]
      have := Int.mul_nonneg h2 a1
      have := Int.mul_pos h1 w1
      omega
    · have e : crs u w = u.1 * w.2 := by unfold crs; rw [w1]; omega
      rw [e]
      refine Int.mul_pos ?_ w2
      rcases hu with u1 | ⟨u1, u2⟩
      · exact u1
      · exfalso
        have : crs u v = - (u.2 * v.1) := by unfold crs; rw [u1]; omega
        have := Int.mul_pos u2 v1
        omega
  · have e : w.1 = 0 := by
      rcases hw with h | h
      · exfalso
        have : crs v w = - (v.2 * w.1) := by unfold crs; rw [v1]; omega
        have := Int.mul_pos v2 h
        omega
      · exact h.1
    have w2 : 0 < w.2 := by rcases hw with h | h <;> omega
    have e2 : crs u w = u.1 * w.2 := by unfold crs; rw [e]; omega
    have e3 : crs u v = u.1 * v.2 := by unfold crs; rw [v1]; omega
    rw [e2]
    rw [e3] at h1
    exact Int.mul_pos (pos_left h1 v2) w2
theorem crs_swap (u v : P2) : crs u v = - crs v u := by unfold crs; grind
theorem crs_trans_r {u v w : P2} (hu : fw u) (hv : fw v) (hw : fw w) (h1 : 0 ≤ crs u v) (h2 : 0 < crs v w) : 0 < crs u w := by
  rcases Int.lt_trichotomy (crs u v) 0 with c | c | c
  · omega
  · have k := crs_trans hu hv hw h1 (by omega)
    rcases Int.lt_or_le 0 (crs u w) with d | d
    · exact d
    · -- u and w on one line, and v and u: then v and w, too
      have e0 : crs u w = 0 := by omega
      have c1 := cramer1 u v w
      have c2 := cramer2 u v w
      rw [c, e0] at c1 c2
      exfalso
      rcases hu with h | ⟨h, h'⟩
      · have := Int.mul_pos h2 h; omega
      · have := Int.mul_pos h2 h'; omega
  · exact crs_trans_l hu hv hw c (by omega)
theorem dt_eq (a b c : P2) : dt a b c = crs (sb b a) (sb c a) := rfl
theorem dt_b (a b c : P2) : dt a b c = crs (sb b a) (sb c b) := by unfold dt crs sb; grind
theorem dt_c (a b c : P2) : dt a b c = crs (sb c a) (sb c b) := by unfold dt crs sb; grind
theorem dt_rot (a b c : P2) : dt a b c = dt b c a := by unfold dt; grind
theorem dt_self1 (a b : P2) : dt a b a = 0 := by unfold dt; grind
theorem dt_self2 (a b : P2) : dt a b b = 0 := by unfold dt; grind
theorem dt_self0 (a b : P2) : dt a a b = 0 := by unfold dt; grind

/-! ### A chain: a stack of points, the last one first -/
def Turns : List P2 → Prop
  | c :: b :: a :: t => 0 < dt a b c ∧ Turns (b :: a :: t)
  | _ => True
theorem turns_tail {c : P2} {t : List P2} (h : Turns (c :: t)) : Turns t := by
  match t, h with
  | [], _ => trivial
  | [_], _ => trivial
  | _ :: _ :: _, h => exact h.2
def Desc (st : List P2) : Prop := st.Pairwise fun x y => lt2 y x
/-- The point q is above the chain, at its place. -/
def Cov (q : P2) : List P2 → Prop
  | b :: a :: t => (le2 a q ∧ le2 q b ∧ 0 ≤ dt a b q) ∨ Cov q (a :: t)
  | [b] => q = b
  | [] => False
def AllLeft (q : P2) : List P2 → Prop
  | d :: c :: t => 0 ≤ dt c d q ∧ AllLeft q (c :: t)
  | _ => True
/-- Behind a chain's top, and to the left of its last piece: then to the left of all pieces. -/
theorem left_fwd {q : P2} : ∀ (t : List P2) (d c : P2), Turns (d :: c :: t) → Desc (d :: c :: t) → le2 c q → 0 ≤ dt c d q → AllLeft q (c :: t) := by
  intro t
  induction t with
  | nil => intros; trivial
  | cons b t ih =>
    intro d c ht hd hq h
    have hbc : lt2 b c := by
      have := (List.pairwise_cons.1 (List.pairwise_cons.1 hd).2).1 b (by simp); exact this
    have hcd : lt2 c d := (List.pairwise_cons.1 hd).1 c (by simp)
    have k : 0 ≤ dt b c q := by
      rcases hq with rfl | hq
      · rw [dt_self2]; exact Int.le_refl _
      · rw [dt_b]
        refine crs_trans (fw_sb.2 hbc) (fw_sb.2 hcd) (fw_sb.2 hq) ?_ ?_
        · have := ht.1; rw [dt_b] at this; omega
        · rw [dt_eq] at h; exact h
    exact ⟨k, ih c b ht.2 (List.pairwise_cons.1 hd).2 (.inr (lt2_le2 hbc hq)) k⟩
/-- Ahead of a piece, and above the chain. -/
theorem left_bwd {q : P2} : ∀ (t : List P2) (d c : P2), Turns (d :: c :: t) → Desc (d :: c :: t) → Cov q (c :: t) → le2 q c ∧ 0 ≤ dt c d q := by
  intro t
  induction t with
  | nil =>
    intro d c _ _ h
    have : q = c := h
    subst this
    exact ⟨le2_refl _, by rw [dt_self1]; exact Int.le_refl _⟩
  | cons b t ih =>
    intro d c ht hd h
    have hbc : lt2 b c := (List.pairwise_cons.1 (List.pairwise_cons.1 hd).2).1 b (by simp)
    have hcd : lt2 c d := (List.pairwise_cons.1 hd).1 c (by simp)
    have hq : le2 q c ∧ 0 ≤ dt b c q := by
      rcases h with ⟨_, h2, h3⟩ | h
      · exact ⟨h2, h3⟩
      · have := ih c b ht.2 (List.pairwise_cons.1 hd).2 h
        exact ⟨.inr (le2_lt2 this.1 hbc), this.2⟩
    refine ⟨hq.1, ?_⟩
    rcases hq.1 with e | hqc
    · subst e; rw [dt_self1]; exact Int.le_refl _
    · have h1 : 0 ≤ crs (sb c q) (sb c b) := by
        have e : dt b c q = crs (sb c q) (sb c b) := by unfold dt crs sb; grind
        rw [← e]; exact hq.2
      have h2 : 0 < crs (sb c b) (sb d c) := by have := ht.1; rw [dt_b] at this; exact this
      have h3 := crs_trans_r (fw_sb.2 hqc) (fw_sb.2 hbc) (fw_sb.2 hcd) h1 h2
      have e : dt c d q = crs (sb c q) (sb d c) := by unfold dt crs sb; grind
      rw [e]; omega
theorem cov_left {q : P2} : ∀ (st : List P2), Turns st → Desc st → Cov q st → AllLeft q st := by
  intro st
  induction st with
  | nil => intros; trivial
  | cons d st ih =>
    intro ht hd h
    match st, ih, ht, hd, h with
    | [], _, _, _, _ => trivial
    | c :: t, ih, ht, hd, h =>
      rcases h with ⟨h1, h2, h3⟩ | h
      · exact ⟨h3, left_fwd t d c ht hd h1 h3⟩
      · exact ⟨(left_bwd t d c ht hd h).2, ih (turns_tail ht) (List.pairwise_cons.1 hd).2 h⟩
/-- Strictly, for corners ahead of a piece. -/
theorem strict_bwd {q : P2} : ∀ (t : List P2) (d c : P2), Turns (d :: c :: t) → Desc (d :: c :: t) → q ∈ t → 0 < dt c d q := by
  intro t
  induction t with
  | nil => intro d c _ _ h; simp at h
  | cons b t ih =>
    intro d c ht hd h
    have hbc : lt2 b c := (List.pairwise_cons.1 (List.pairwise_cons.1 hd).2).1 b (by simp)
    have hcd : lt2 c d := (List.pairwise_cons.1 hd).1 c (by simp)
    have hqc : lt2 q c := (List.pairwise_cons.1 (List.pairwise_cons.1 hd).2).1 q h
    have hq : 0 ≤ dt b c q := by
      rcases List.mem_cons.1 h with rfl | h
      · rw [dt_self1]; exact Int.le_refl _
      · have := ih c b ht.2 (List.pairwise_cons.1 hd).2 h; omega
    have h1 : 0 ≤ crs (sb c q) (sb c b) := by
      have e : dt b c q = crs (sb c q) (sb c b) := by unfold dt crs sb; grind
      rw [← e]; exact hq
    have h2 : 0 < crs (sb c b) (sb d c) := by have := ht.1; rw [dt_b] at this; exact this
    have h3 := crs_trans_r (fw_sb.2 hqc) (fw_sb.2 hbc) (fw_sb.2 hcd) h1 h2
    have e : dt c d q = crs (sb c q) (sb d c) := by unfold dt crs sb; grind
    rw [e]; exact h3
def AllStrict (q : P2) : List P2 → Prop
  | d :: c :: t => 0 < dt c d q ∧ AllStrict q (c :: t)
  | _ => True
/-- Strictly, for corners behind a piece. -/
theorem strict_fwd {q : P2} : ∀ (t : List P2) (d c : P2), Turns (d :: c :: t) → Desc (d :: c :: t) → lt2 c q → 0 < dt c d q → AllStrict q (c :: t) := by
  intro t
  induction t with
  | nil => intros; trivial
  | cons b t ih =>
    intro d c ht hd hq h
    have hbc : lt2 b c := (List.pairwise_cons.1 (List.pairwise_cons.1 hd).2).1 b (by simp)
    have hcd : lt2 c d := (List.pairwise_cons.1 hd).1 c (by simp)
    have k : 0 < dt b c q := by
      rw [dt_b]
      refine crs_trans_l (fw_sb.2 hbc) (fw_sb.2 hcd) (fw_sb.2 hq) ?_ ?_
      · have := ht.1; rw [dt_b] at this; exact this
      · rw [dt_eq] at h; omega
    exact ⟨k, ih c b ht.2 (List.pairwise_cons.1 hd).2 (lt2_trans hbc hq) k⟩
theorem strict_top : ∀ (t : List P2) (x y : P2), Turns (x :: y :: t) → Desc (x :: y :: t) → AllStrict x (y :: t) := by
  intro t x y ht hd
  match t, ht, hd with
  | [], _, _ => trivial
  | c :: t, ht, hd =>
    have hcx : lt2 c x := (List.pairwise_cons.1 hd).1 c (by simp)
    exact ⟨ht.1, strict_fwd t y c ht.2 (List.pairwise_cons.1 hd).2 hcx ht.1⟩

/-! ### The stack of a sorted list -/
def popS (p : P2) : List P2 → List P2
  | b :: a :: t => if dt a b p ≤ 0 then popS p (a :: t) else b :: a :: t
  | st => st
def pushS (st : List P2) (p : P2) : List P2 := p :: popS p st
def chainR (l : List P2) : List P2 := l.foldl pushS []
def Near (q p : P2) : List P2 → Prop
  | b :: t => Cov q (b :: t) ∨ (le2 b q ∧ lt2 q p ∧ 0 ≤ dt b p q)
  | [] => False
structure Good (st : List P2) : Prop where
  turns : Turns st
  desc : Desc st
theorem pop_good {p : P2} : ∀ (st : List P2), Good st → (∀ q ∈ st, lt2 q p) → Good (p :: popS p st) := by
  intro st
  induction st with
  | nil => intro _ _; exact ⟨trivial, List.pairwise_singleton _ _⟩
  | cons b st ih =>
    intro hg hl
    match st, ih, hg, hl with
    | [], _, _, hl => exact ⟨trivial, List.pairwise_cons.2 ⟨by simpa [popS] using hl, List.pairwise_singleton _ _⟩⟩
    | a :: t, ih, hg, hl =>
      unfold popS
      split
      · exact ih ⟨turns_tail hg.turns, (List.pairwise_cons.1 hg.desc).2⟩ (fun q hq => hl q (List.mem_cons_of_mem _ hq))
      · rename_i h
        exact ⟨⟨by omega, hg.turns⟩, List.pairwise_cons.2 ⟨hl, hg.desc⟩⟩
theorem pop_near {p q : P2} : ∀ (st : List P2), Good st → (∀ x ∈ st, lt2 x p) → Near q p st → Near q p (popS p st) := by
  intro st
  induction st with
  | nil => intro _ _ h; exact h
  | cons b st ih =>
    intro hg hl h
    match st, ih, hg, hl, h with
    | [], _, _, _, h => exact h
    | a :: t, ih, hg, hl, h =>
      unfold popS
      split
      · rename_i hdt
        refine ih ⟨turns_tail hg.turns, (List.pairwise_cons.1 hg.desc).2⟩ (fun q hq => hl q (List.mem_cons_of_mem _ hq)) ?_
        have hab : lt2 a b := (List.pairwise_cons.1 hg.desc).1 a (by simp)
        have hbp : lt2 b p := hl b (by simp)
        have hap : lt2 a p := lt2_trans hab hbp
        have hpb : 0 ≤ crs (sb p a) (sb b a) := by
          have e : dt a b p = - crs (sb p a) (sb b a) := by unfold dt crs sb; grind
          omega
        rcases h with h | ⟨h1, h2, h3⟩
        · rcases h with ⟨h1, h2, h3⟩ | h
          · right
            refine ⟨h1, le2_lt2 h2 hbp, ?_⟩
            rcases h1 with e | h1
            · subst e; rw [dt_self1]; exact Int.le_refl _
            · rw [dt_eq] at h3 ⊢
              exact crs_trans (fw_sb.2 hap) (fw_sb.2 hab) (fw_sb.2 h1) hpb h3
          · exact .inl h
        · right
          refine ⟨.inr (lt2_le2 hab h1), h2, ?_⟩
          have e1 : 0 ≤ crs (sb p q) (sb p b) := by
            have e : dt b p q = crs (sb p q) (sb p b) := by unfold dt crs sb; grind
            omega
          have e2 : 0 ≤ crs (sb p b) (sb p a) := by
            have e : crs (sb p a) (sb b a) = crs (sb p b) (sb p a) := by unfold crs sb; grind
            omega
          have e3 := crs_trans (fw_sb.2 h2) (fw_sb.2 hbp) (fw_sb.2 hap) e1 e2
          have e : dt a p q = crs (sb p q) (sb p a) := by unfold dt crs sb; grind
          omega
      · exact h
theorem pop_suffix (p : P2) : ∀ st : List P2, popS p st <:+ st := by
  intro st
  induction st with
  | nil => exact List.suffix_refl _
  | cons b st ih =>
    match st, ih with
    | [], _ => exact List.suffix_refl _
    | a :: t, ih =>
      unfold popS
      split
      · exact ih.trans (List.suffix_cons _ _)
      · exact List.suffix_refl _
theorem pop_ne {p : P2} : ∀ st : List P2, st ≠ [] → popS p st ≠ [] ∧ (popS p st).getLast? = st.getLast? := by
  intro st
  induction st with
  | nil => intro h; exact absurd rfl h
  | cons b st ih =>
    intro _
    match st, ih with
    | [], _ => exact ⟨by simp [popS], rfl⟩
    | a :: t, ih =>
      unfold popS
      split
      · have := ih (by simp)
        exact ⟨this.1, by rw [this.2]; simp⟩
      · exact ⟨by simp, rfl⟩
/-- What the stack of the points so far is. -/
structure Chained (l st : List P2) : Prop where
  good : Good st
  cov : ∀ q ∈ l, Cov q st
  sub : ∀ q ∈ st, q ∈ l
  top : st.head? = l.getLast?
  bot : st.getLast? = l.head?
theorem chained_snoc {l st : List P2} {p : P2} (h : Chained l st) (hp : ∀ q ∈ l, lt2 q p) : Chained (l ++ [p]) (pushS st p) := by
  unfold pushS
  have hl : ∀ x ∈ st, lt2 x p := fun x hx => hp x (h.sub x hx)
  refine ⟨pop_good st h.good hl, ?_, ?_, by simp, ?_⟩
  · intro q hq
    rcases List.mem_append.1 hq with hq | hq
    · have hc := h.cov q hq
      have hn : Near q p st := by
        match st, hc with
        | b :: t, hc => exact .inl hc
      have hn2 := pop_near st h.good hl hn
      match hst : popS p st, hn2 with
      | b :: t, hn2 =>
        rcases hn2 with h1 | ⟨h1, h2, h3⟩
        · exact .inr h1
        · exact .inl ⟨h1, .inr h2, h3⟩
    · have : q = p := by simpa using hq
      subst this
      match hst : popS q st with
      | [] => rfl
      | b :: t =>
        have hb : b ∈ st := (pop_suffix q st).subset (by rw [hst]; simp)
        exact .inl ⟨.inr (hl b hb), le2_refl _, by rw [dt_self2]; exact Int.le_refl _⟩
  · intro q hq
    rcases List.mem_cons.1 hq with rfl | hq
    · simp
    · exact List.mem_append_left _ (h.sub q ((pop_suffix p st).subset hq))
  · match l, st, h with
    | [], [], _ => rfl
    | [], b :: t, h => have := h.sub b (by simp); simp at this
    | a :: l, [], h => have := h.cov a (by simp); exact this.elim
    | a :: l, b :: t, h =>
      have := pop_ne (p := p) (b :: t) (by simp)
      rw [List.getLast?_cons]
      have e := this.2.trans h.bot
      simp only [List.head?_cons] at e
      rw [e]
      simp
theorem chainR_snoc (l : List P2) (p : P2) : chainR (l ++ [p]) = pushS (chainR l) p := by simp [chainR]
def Incr (l : List P2) : Prop := l.Pairwise lt2
theorem chain_ok : ∀ (l : List P2), Incr l → Chained l (chainR l) := by
  intro l
  generalize hr : l.reverse = r
  induction r generalizing l with
  | nil =>
    intro _
    have : l = [] := by simpa using hr
    subst this
    exact ⟨⟨trivial, List.Pairwise.nil⟩, fun q hq => by simp at hq, fun q hq => by simp [chainR] at hq, rfl, rfl⟩
  | cons p r ih =>
    intro hi
    have e : l = r.reverse ++ [p] := by rw [← List.reverse_reverse l, hr]; simp
    subst e
    rw [chainR_snoc]
    have hs := List.pairwise_append.1 hi
    exact chained_snoc (ih r.reverse (by simp) hs.1) (fun q hq => hs.2.2 q hq p (by simp))
end Go.Proofs.Gx
