/- The chains of a sorted list, by indexes. -/
import Derived.Test.YtihckoenfklhpaaHullM
namespace Go.Proofs.Gx
def g (l : List P2) (i : Nat) : P2 := l.getD i (0, 0)
theorem g_zero (a : P2) (t : List P2) : g (a :: t) 0 = a := rfl
theorem g_succ (a : P2) (t : List P2) (i : Nat) : g (a :: t) (i + 1) = g t i := rfl
theorem g_eq {l : List P2} {i : Nat} (h : i < l.length) : g l i = l[i] := by unfold g; rw [List.getD_eq_getElem?_getD, List.getElem?_eq_getElem h]; rfl
theorem g_mem {l : List P2} {i : Nat} (h : i < l.length) : g l i ∈ l := by rw [g_eq h]; exact List.getElem_mem h
theorem mem_g {l : List P2} {q : P2} (h : q ∈ l) : ∃ i, i < l.length ∧ g l i = q := by
  obtain ⟨i, hi, rfl⟩ := List.mem_iff_getElem.1 h
  exact ⟨i, hi, g_eq hi⟩
theorem left_idx {q : P2} : ∀ st : List P2, AllLeft q st → ∀ i, i + 1 < st.length → 0 ≤ dt (g st (i + 1)) (g st i) q := by
  intro st
  induction st with
  | nil => intro _ i h; simp at h
  | cons d st ih =>
    intro h i hi
    match st, ih, h, hi with
    | [], _, _, hi => simp at hi
    | c :: t, ih, h, hi =>
      cases i with
      | zero => exact h.1
      | succ i => exact ih h.2 i (by simpa using hi)
theorem strict_idx {q : P2} : ∀ st : List P2, AllStrict q st → ∀ i, i + 1 < st.length → 0 < dt (g st (i + 1)) (g st i) q := by
  intro st
  induction st with
  | nil => intro _ i h; simp at h
  | cons d st ih =>
    intro h i hi
    match st, ih, h, hi with
    | [], _, _, hi => simp at hi
    | c :: t, ih, h, hi =>
      cases i with
      | zero => exact h.1
      | succ i => exact ih h.2 i (by simpa using hi)
theorem turns_idx : ∀ st : List P2, Turns st → ∀ i, i + 2 < st.length → 0 < dt (g st (i + 2)) (g st (i + 1)) (g st i) := by
  intro st
  induction st with
  | nil => intro _ i h; simp at h
  | cons d st ih =>
    intro h i hi
    match st, ih, h, hi with
    | [], _, _, hi => simp at hi
    | [_], _, _, hi => simp at hi; omega
    | c :: b :: t, ih, h, hi =>
      cases i with
      | zero => exact h.1
      | succ i => exact ih h.2 i (by simpa using hi)
theorem desc_idx : ∀ st : List P2, Desc st → ∀ i j, i < j → j < st.length → lt2 (g st j) (g st i) := by
  intro st h i j hij hj
  rw [g_eq hj, g_eq (by omega)]
  exact List.pairwise_iff_getElem.1 h i j (by omega) hj hij
theorem sb_idx : ∀ st : List P2, Good st → ∀ i j, i + 1 < j → j < st.length → 0 < dt (g st (i + 1)) (g st i) (g st j) := by
  intro st
  induction st with
  | nil => intro _ i j _ h; simp at h
  | cons d st ih =>
    intro h i j hij hj
    match st, ih, h, hj with
    | [], _, _, hj => simp at hj; omega
    | c :: t, ih, h, hj =>
      cases i with
      | zero =>
        match j, hij, hj with
        | j + 2, _, hj =>
          refine strict_bwd t d c h.turns h.desc ?_
          have : j < t.length := by simpa using hj
          exact g_mem this
      | succ i =>
        match j, hij, hj with
        | j + 1, hij, hj => exact ih ⟨turns_tail h.turns, (List.pairwise_cons.1 h.desc).2⟩ i j (by omega) (by simpa using hj)
theorem sf_idx : ∀ st : List P2, Good st → ∀ i j, i + 1 < st.length → j < i → 0 < dt (g st (i + 1)) (g st i) (g st j) := by
  intro st
  induction st with
  | nil => intro _ i j h; simp at h
  | cons x st ih =>
    intro h i j hi hj
    match st, ih, h, hi with
    | [], _, _, hi => simp at hi
    | y :: t, ih, h, hi =>
      cases j with
      | zero =>
        match i, hj, hi with
        | i + 1, _, hi =>
          exact strict_idx (y :: t) (strict_top t x y h.turns h.desc) i (by simpa using hi)
      | succ j =>
        match i, hj, hi with
        | i + 1, hj, hi => exact ih ⟨turns_tail h.turns, (List.pairwise_cons.1 h.desc).2⟩ i j (by simpa using hi) (by omega)
/-- A stack, by indexes. -/
structure Idx (s st : List P2) (m : Nat) : Prop where
  len : st.length = m + 1
  ord : ∀ i j, i < j → j ≤ m → lt2 (g st j) (g st i)
  turn : ∀ i, i + 2 ≤ m → 0 < dt (g st (i + 2)) (g st (i + 1)) (g st i)
  left : ∀ q ∈ s, ∀ i, i + 1 ≤ m → 0 ≤ dt (g st (i + 1)) (g st i) q
  sb : ∀ i j, i + 1 < j → j ≤ m → 0 < dt (g st (i + 1)) (g st i) (g st j)
  sf : ∀ i j, i + 1 ≤ m → j < i → 0 < dt (g st (i + 1)) (g st i) (g st j)
  mem : ∀ i, i ≤ m → g st i ∈ s
theorem g_last {l : List P2} {m : Nat} (h : l.length = m + 1) : l.getLast? = some (g l m) := by
  rw [List.getLast?_eq_getElem?, h, Nat.add_sub_cancel, g_eq (by omega), List.getElem?_eq_getElem]
theorem g_head {l : List P2} (h : l ≠ []) : l.head? = some (g l 0) := by
  match l, h with
  | a :: t, _ => rfl
theorem idx_of {s : List P2} (hi : Incr s) {n : Nat} (hn : s.length = n + 1) : ∃ m, Idx s (chainR s) m ∧ g (chainR s) m = g s 0 ∧ g (chainR s) 0 = g s n := by
  have c := chain_ok s hi
  have hs : s ≠ [] := by intro e; rw [e] at hn; simp at hn
  have hne : chainR s ≠ [] := by
    intro e
    have := c.top
    rw [e, g_last hn] at this
    simp at this
  obtain ⟨m, hm⟩ : ∃ m, (chainR s).length = m + 1 := by
    match h : chainR s, hne with
    | a :: t, _ => exact ⟨t.length, rfl⟩
  have b := c.bot
  rw [g_last hm, g_head hs] at b
  have t := c.top
  rw [g_last hn, g_head hne] at t
  exact ⟨m, ⟨hm, fun i j h k => desc_idx _ c.good.desc i j h (by omega), fun i h => turns_idx _ c.good.turns i (by omega),
    fun q hq i h => left_idx _ (cov_left _ c.good.turns c.good.desc (c.cov q hq)) i (by omega), fun i j h k => sb_idx _ c.good i j h (by omega),
    fun i j h k => sf_idx _ c.good i j (by omega) k, fun i h => c.sub _ (g_mem (by omega))⟩, by simpa using b, by simpa using t⟩
/-! ### The other half of the way: seen from behind -/
theorem dt_ng (a b c : P2) : dt (ng a) (ng b) (ng c) = dt a b c := by unfold dt ng; grind
theorem lt2_ng {a b : P2} : lt2 (ng a) (ng b) ↔ lt2 b a := by unfold lt2 ng; simp only; omega
theorem ng_ng (a : P2) : ng (ng a) = a := by obtain ⟨x, y⟩ := a; simp [ng]
theorem popS_ng (p : P2) : ∀ st, popS (ng p) (st.map ng) = (popS p st).map ng := by
  intro st
  induction st with
  | nil => rfl
  | cons b st ih =>
    match st, ih with
    | [], _ => rfl
    | a :: t, ih =>
      simp only [List.map_cons] at ih ⊢
      unfold popS
      rw [dt_ng]
      split
      · exact ih
      · rfl
theorem chainR_ng (l : List P2) : chainR (l.map ng) = (chainR l).map ng := by
  have : ∀ (l st : List P2), (l.map ng).foldl pushS (st.map ng) = (l.foldl pushS st).map ng := by
    intro l
    induction l with
    | nil => intro st; rfl
    | cons a l ih =>
      intro st
      simp only [List.map_cons, List.foldl_cons]
      rw [← ih]
      congr 1
      unfold pushS
      rw [popS_ng]
      rfl
  exact this l []
theorem g_map {l : List P2} {i : Nat} (h : i < l.length) : g (l.map ng) i = ng (g l i) := by
  rw [g_eq (by simpa using h), g_eq h]; simp
theorem map_ng_ng (l : List P2) : (l.map ng).map ng = l := by simp [ng_ng, Function.comp_def]
theorem incr_back {s : List P2} (h : Incr s) : Incr (s.reverse.map ng) := by
  unfold Incr at *
  rw [List.pairwise_map, List.pairwise_reverse]
  exact h.imp (fun h => lt2_ng.2 h)
structure Idy (s su : List P2) (m : Nat) : Prop where
  len : su.length = m + 1
  ord : ∀ i j, i < j → j ≤ m → lt2 (g su i) (g su j)
  turn : ∀ i, i + 2 ≤ m → 0 < dt (g su (i + 2)) (g su (i + 1)) (g su i)
  left : ∀ q ∈ s, ∀ i, i + 1 ≤ m → 0 ≤ dt (g su (i + 1)) (g su i) q
  sb : ∀ i j, i + 1 < j → j ≤ m → 0 < dt (g su (i + 1)) (g su i) (g su j)
  sf : ∀ i j, i + 1 ≤ m → j < i → 0 < dt (g su (i + 1)) (g su i) (g su j)
  mem : ∀ i, i ≤ m → g su i ∈ s
theorem idy_of {s : List P2} (hi : Incr s) {n : Nat} (hn : s.length = n + 1) : ∃ m, Idy s (chainR s.reverse) m ∧ g (chainR s.reverse) m = g s n ∧ g (chainR s.reverse) 0 = g s 0 := by
  obtain ⟨m, h, e1, e2⟩ := idx_of (incr_back hi) (n := n) (by simpa using hn)
  rw [chainR_ng] at h e1 e2
  have hl : (chainR s.reverse).length = m + 1 := by have := h.len; simpa using this
  have gm : ∀ i, i ≤ m → g ((chainR s.reverse).map ng) i = ng (g (chainR s.reverse) i) := fun i hi => g_map (by omega)
  have hs : s.reverse.length = n + 1 := by simpa using hn
  have r0 : g s.reverse 0 = g s n := by rw [g_eq (by omega), g_eq (by omega), List.getElem_reverse]; simp [hn]
  have rn : g s.reverse n = g s 0 := by rw [g_eq (by omega), g_eq (by omega), List.getElem_reverse]; simp [hn]
  rw [gm m (by omega), g_map (by omega), r0] at e1
  rw [gm 0 (by omega), g_map (by omega), rn] at e2
  have inj : ∀ a b : P2, ng a = ng b → a = b := fun a b h => by rw [← ng_ng a, h, ng_ng]
  refine ⟨m, ⟨hl, ?_, ?_, ?_, ?_, ?_, ?_⟩, inj _ _ e1, inj _ _ e2⟩
  · intro i j a b
    have := h.ord i j a b
    rw [gm _ b, gm _ (by omega)] at this
    exact lt2_ng.1 this
  · intro i a
    have := h.turn i a
    rwa [gm _ a, gm _ (by omega), gm _ (by omega), dt_ng] at this
  · intro q hq i a
    have := h.left (ng q) (by simp; exact ⟨q.1, q.2, hq, rfl⟩) i a
    rwa [gm _ a, gm _ (by omega), dt_ng] at this
  · intro i j a b
    have := h.sb i j a b
    rwa [gm _ (by omega), gm _ (by omega), gm _ b, dt_ng] at this
  · intro i j a b
    have := h.sf i j a b
    rwa [gm _ (by omega), gm _ (by omega), gm _ (by omega), dt_ng] at this
  · intro i a
    have := h.mem i a
    rw [gm _ a] at this
    simp at this
    obtain ⟨x, y, hxy, e⟩ := this
    rw [← inj _ _ e]; exact hxy
end Go.Proofs.Gx
