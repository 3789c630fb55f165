/- The hull of a sorted list: a polygon that turns to the left, with all points on its left. What it contains. -/
import Derived.Test.YtihckoenfklhpaaHullN
namespace Go.Proofs.Gx
/-- The corner i, around and around. -/
def gc (h : List P2) (i : Nat) : P2 := g h (i % h.length)
structure IsH (h : List P2) : Prop where
  ne : h ≠ []
  first : ∀ i, i + 1 < h.length → lt2 (g h 0) (g h (i + 1))
  fan : ∀ i, 0 < i → i + 1 < h.length → 0 < dt (g h 0) (g h i) (g h (i + 1))
  turn : 3 ≤ h.length → ∀ i, i < h.length → 0 < dt (g h i) (gc h (i + 1)) (gc h (i + 2))
/-- All sides have the point on their left. -/
def Left (h : List P2) (q : P2) : Prop := ∀ i, i < h.length → 0 ≤ dt (g h i) (gc h (i + 1)) q
structure Poly (h : List P2) : Prop extends IsH h where
  left : ∀ q ∈ h, Left h q
def hullS (s : List P2) : List P2 := if s.length = 1 then s else (chainR s).reverse.dropLast ++ (chainR s.reverse).reverse.dropLast
/-- Contained: in every direction there is a corner that is not behind it. -/
def SC (h : List P2) (q : P2) : Prop := ∀ w : P2, ∃ r ∈ h, crs w r ≤ crs w q

theorem j1 {a' a M b : P2} (h1 : lt2 a' a) (h2 : lt2 a M) (h3 : lt2 b M) (t : 0 < dt a' a M) (l : 0 ≤ dt M b a') (z : dt a M b = 0) : False := by
  have u1 : 0 < crs (sb a a') (sb M a) := by rw [dt_b] at t; exact t
  have u2 : crs (sb M a) (sb M b) = 0 := by
    have e : dt a M b = - crs (sb M a) (sb M b) := by unfold dt crs sb; grind
    omega
  have u3 := crs_trans_l (fw_sb.2 h1) (fw_sb.2 h2) (fw_sb.2 h3) u1 (by omega)
  have e : dt M b a' = - crs (sb a a') (sb M b) - crs (sb M a) (sb M b) := by unfold dt crs sb; grind
  omega
theorem j2 {a M b b' : P2} (h2 : lt2 a M) (h3 : lt2 b M) (h4 : lt2 b' b) (t : 0 < dt M b b') (l : 0 ≤ dt a M b') (z : dt a M b = 0) : False := by
  have u1 : 0 < crs (sb M b) (sb b b') := by
    have e : dt M b b' = crs (sb M b) (sb b b') := by unfold dt crs sb; grind
    omega
  have u2 : crs (sb M a) (sb M b) = 0 := by
    have e : dt a M b = - crs (sb M a) (sb M b) := by unfold dt crs sb; grind
    omega
  have u3 := crs_trans_r (fw_sb.2 h2) (fw_sb.2 h3) (fw_sb.2 h4) (by omega) u1
  have e : dt a M b' = - crs (sb M a) (sb M b) - crs (sb M a) (sb b b') := by unfold dt crs sb; grind
  omega
theorem g_app_l {a b : List P2} {i : Nat} (h : i < a.length) : g (a ++ b) i = g a i := by
  rw [g_eq (by simp; omega), g_eq h, List.getElem_append_left]
theorem g_app_r {a b : List P2} {i : Nat} (h : i < b.length) : g (a ++ b) (a.length + i) = g b i := by
  rw [g_eq (by simp; omega), g_eq h, List.getElem_append_right (by omega)]
  simp
theorem g_rev_drop {l : List P2} {m i : Nat} (hl : l.length = m + 1) (h : i < m) : g l.reverse.dropLast i = g l (m - i) := by
  rw [g_eq (by simp; omega), g_eq (by omega), List.getElem_dropLast, List.getElem_reverse]
  congr 1
  omega
/-- The corners in their order: first below, then above. -/
theorem hull_idx {s : List P2} (hi : Incr s) {n : Nat} (hn : s.length = n + 2) : ∃ m k, 0 < m ∧ 0 < k ∧ Idx s (chainR s) m ∧ Idy s (chainR s.reverse) k ∧ (hullS s).length = m + k ∧
    (∀ i, i ≤ m → g (hullS s) i = g (chainR s) (m - i)) ∧ (∀ j, j < k → g (hullS s) (m + j) = g (chainR s.reverse) (k - j)) ∧
    g (chainR s) m = g s 0 ∧ g (chainR s) 0 = g s (n + 1) ∧ g (chainR s.reverse) k = g s (n + 1) ∧ g (chainR s.reverse) 0 = g s 0 := by
  obtain ⟨m, hm, m1, m2⟩ := idx_of hi hn
  obtain ⟨k, hk, k1, k2⟩ := idy_of hi hn
  have hne : g s 0 ≠ g s (n + 1) := by
    have : lt2 (g s 0) (g s (n + 1)) := by
      rw [g_eq (by omega), g_eq (by omega)]
      exact List.pairwise_iff_getElem.1 hi 0 (n + 1) (by omega) (by omega) (by omega)
    exact lt2_ne this
  have hm0 : 0 < m := by
    rcases Nat.eq_zero_or_pos m with e | e
    · subst e; exact absurd (m1.symm.trans m2) hne
    · exact e
  have hk0 : 0 < k := by
    rcases Nat.eq_zero_or_pos k with e | e
    · subst e; exact absurd (k2.symm.trans k1) hne
    · exact e
  have e : hullS s = (chainR s).reverse.dropLast ++ (chainR s.reverse).reverse.dropLast := by unfold hullS; rw [if_neg (by omega)]
  have l1 : (chainR s).reverse.dropLast.length = m := by simp [hm.len]
  have l2 : (chainR s.reverse).reverse.dropLast.length = k := by simp [hk.len]
  refine ⟨m, k, hm0, hk0, hm, hk, by rw [e]; simp [hm.len, hk.len], ?_, ?_, m1, m2, k1, k2⟩
  · intro i him
    rcases Nat.lt_or_ge i m with c | c
    · rw [e, g_app_l (by omega), g_rev_drop hm.len c]
    · obtain rfl : i = m := by omega
      rw [e]
      have := g_app_r (a := (chainR s).reverse.dropLast) (b := (chainR s.reverse).reverse.dropLast) (i := 0) (by omega)
      rw [l1, Nat.add_zero] at this
      rw [this, g_rev_drop hk.len hk0, Nat.sub_zero, Nat.sub_self, k1, m2]
  · intro j hj
    rw [e]
    have := g_app_r (a := (chainR s).reverse.dropLast) (b := (chainR s.reverse).reverse.dropLast) (i := j) (by omega)
    rw [l1] at this
    rw [this, g_rev_drop hk.len hj]
theorem lt2_g {s : List P2} (hi : Incr s) {i j : Nat} (h : i < j) (hj : j < s.length) : lt2 (g s i) (g s j) := by
  rw [g_eq hj, g_eq (by omega)]
  exact List.pairwise_iff_getElem.1 hi i j (by omega) hj h
theorem hull_two {s : List P2} (hi : Incr s) {n : Nat} (hn : s.length = n + 2) :
    IsH (hullS s) ∧ (∀ q ∈ s, Left (hullS s) q) ∧ (∀ r ∈ hullS s, r ∈ s) ∧ g (hullS s) 0 = g s 0 ∧ 2 ≤ (hullS s).length ∧ g s (n + 1) ∈ hullS s := by
  obtain ⟨m, k, hm0, hk0, hm, hk, hl, gl, gu, e1, e2, e3, e4⟩ := hull_idx hi hn
  obtain ⟨H, hH⟩ : ∃ H, hullS s = H := ⟨_, rfl⟩
  rw [hH] at hl gl gu ⊢
  obtain ⟨L, hL⟩ : ∃ L, chainR s = L := ⟨_, rfl⟩
  obtain ⟨U, hU⟩ : ∃ U, chainR s.reverse = U := ⟨_, rfl⟩
  rw [hL] at hm gl e1 e2
  rw [hU] at hk gu e3 e4
  -- the closed way: i up to m + k
  have gu' : ∀ i, m ≤ i → i < m + k → g H i = g U (k - (i - m)) := fun i a b => by
    have := gu (i - m) (by omega); rwa [show m + (i - m) = i by omega] at this
  have c0 : g H 0 = g s 0 := by rw [gl 0 (by omega), Nat.sub_zero, e1]
  have nx : ∀ i, i < m + k → gc H (i + 1) = if i + 1 ≤ m then g L (m - (i + 1)) else g U (k - (i + 1 - m)) := by
    intro i hi
    unfold gc
    rw [hl]
    rcases Nat.lt_or_ge (i + 1) (m + k) with c | c
    · rw [Nat.mod_eq_of_lt c]
      split
      · rw [gl _ (by assumption)]
      · rw [gu' _ (by omega) c]
    · have ec : i + 1 = m + k := by omega
      rw [ec, Nat.mod_self, c0, if_neg (by omega), show k - (m + k - m) = 0 by omega, e4]
  have nx2 : ∀ i, i + 1 < m + k → gc H (i + 2) = if i + 2 ≤ m then g L (m - (i + 2)) else g U (k - (i + 2 - m)) := fun i hi => nx (i + 1) hi
  have memH : ∀ r ∈ H, r ∈ s := by
    intro r hr
    obtain ⟨i, hi, rfl⟩ := mem_g hr
    rw [hl] at hi
    rcases Nat.lt_or_ge i m with c | c
    · rw [gl i (by omega)]; exact hm.mem _ (by omega)
    · rw [gu' i c hi]; exact hk.mem _ (by omega)
  have leftH : ∀ q ∈ s, Left H q := by
    intro q hq i hi
    rw [hl] at hi
    rw [nx i hi]
    rcases Nat.lt_or_ge i m with c | c
    · rw [if_pos (by omega), gl i (by omega)]
      have := hm.left q hq (m - (i + 1)) (by omega)
      rwa [show m - (i + 1) + 1 = m - i by omega] at this
    · rw [if_neg (by omega), gu' i c hi]
      have := hk.left q hq (k - (i + 1 - m)) (by omega)
      rwa [show k - (i + 1 - m) + 1 = k - (i - m) by omega] at this
  refine ⟨⟨?_, ?_, ?_, ?_⟩, leftH, memH, c0, by omega, ?_⟩
  · intro e; rw [e] at hl; simp at hl; omega
  · intro i hi
    rw [hl] at hi
    rw [c0]
    rcases Nat.lt_or_ge m (i + 1) with c | c
    · rw [gu' _ (by omega) hi, ← e4]
      exact hk.ord 0 _ (by omega) (by omega)
    · rw [gl _ c, ← e1]
      exact hm.ord _ m (by omega) (by omega)
  · intro i hi hi2
    rw [hl] at hi2
    rw [dt_rot, c0]
    rcases Nat.lt_or_ge i m with c | c
    · rw [gl i (by omega), gl (i + 1) (by omega), ← e1]
      have := hm.sb (m - (i + 1)) m (by omega) (by omega)
      rwa [show m - (i + 1) + 1 = m - i by omega] at this
    · rw [gu' i c (by omega), gu' (i + 1) (by omega) hi2, ← e4]
      have := hk.sf (k - (i + 1 - m)) 0 (by omega) (by omega)
      rwa [show k - (i + 1 - m) + 1 = k - (i - m) by omega] at this
  · intro h3 i hi
    rw [hl] at hi h3
    rcases Nat.lt_or_ge (i + 1) (m + k) with c | c
    · rw [nx i hi, nx2 i c]
      rcases Nat.lt_or_ge i m with d | d
      · rw [gl i (by omega), if_pos (by omega)]
        rcases Nat.lt_or_ge m (i + 2) with f | f
        · -- the turn at the far end
          obtain rfl : m = i + 1 := by omega
          rw [if_neg (by omega), show i + 1 - i = 1 by omega, Nat.sub_self, show k - (i + 2 - (i + 1)) = k - 1 by omega]
          have a0 : 0 ≤ dt (g L 1) (g L 0) (g U (k - 1)) := hm.left _ (hk.mem _ (by omega)) 0 (by omega)
          rcases Int.lt_or_le 0 (dt (g L 1) (g L 0) (g U (k - 1))) with p | p
          · exact p
          · have z : dt (g L 1) (g L 0) (g U (k - 1)) = 0 := by omega
            exfalso
            have o1 : lt2 (g L 1) (g L 0) := hm.ord 0 1 (by omega) (by omega)
            have eM : g L 0 = g U k := by rw [e2, e3]
            have o2 : lt2 (g U (k - 1)) (g L 0) := by rw [eM]; exact hk.ord _ _ (by omega) (by omega)
            rcases Nat.lt_or_ge 0 i with q | q
            · refine j1 (hm.ord 1 2 (by omega) (by omega)) o1 o2 (hm.turn 0 (by omega)) ?_ z
              have := hk.left (g L 2) (hm.mem _ (by omega)) (k - 1) (by omega)
              rwa [show k - 1 + 1 = k by omega, ← eM] at this
            · refine j2 o1 o2 (hk.ord (k - 2) (k - 1) (by omega) (by omega)) ?_ (hm.left _ (hk.mem (k - 2) (by omega)) 0 (by omega)) z
              have := hk.turn (k - 2) (by omega)
              rwa [show k - 2 + 2 = k by omega, show k - 2 + 1 = k - 1 by omega, ← eM] at this
        · rw [if_pos (by omega)]
          have := hm.turn (m - (i + 2)) (by omega)
          rwa [show m - (i + 2) + 2 = m - i by omega, show m - (i + 2) + 1 = m - (i + 1) by omega] at this
      · rw [gu' i d hi, if_neg (by omega), if_neg (by omega)]
        have := hk.turn (k - (i + 2 - m)) (by omega)
        rwa [show k - (i + 2 - m) + 2 = k - (i - m) by omega, show k - (i + 2 - m) + 1 = k - (i + 1 - m) by omega] at this
    · -- the turn at the near end
      obtain rfl : i = m + k - 1 := by omega
      rw [nx _ hi, if_neg (by omega), show k - (m + k - 1 + 1 - m) = 0 by omega, gu' _ (by omega) hi, show k - (m + k - 1 - m) = 1 by omega]
      have w : gc H (m + k - 1 + 2) = g L (m - 1) := by
        unfold gc
        rw [hl, show m + k - 1 + 2 = 1 + (m + k) by omega, Nat.add_mod_right, Nat.mod_eq_of_lt (by omega), gl 1 (by omega)]
      rw [w]
      have a0 : 0 ≤ dt (g U 1) (g U 0) (g L (m - 1)) := hk.left _ (hm.mem _ (by omega)) 0 (by omega)
      rcases Int.lt_or_le 0 (dt (g U 1) (g U 0) (g L (m - 1))) with p | p
      · exact p
      · have z : dt (g U 1) (g U 0) (g L (m - 1)) = 0 := by omega
        exfalso
        have eN : g U 0 = g L m := by rw [e1, e4]
        have o1 : lt2 (ng (g U 1)) (ng (g U 0)) := lt2_ng.2 (hk.ord 0 1 (by omega) (by omega))
        have o2 : lt2 (ng (g L (m - 1))) (ng (g U 0)) := lt2_ng.2 (by rw [eN]; exact hm.ord _ _ (by omega) (by omega))
        rw [← dt_ng] at z
        rcases Nat.lt_or_ge 1 k with q | q
        · refine j1 (a' := ng (g U 2)) (lt2_ng.2 (hk.ord 1 2 (by omega) (by omega))) o1 o2 (by rw [dt_ng]; exact hk.turn 0 (by omega)) ?_ z
          rw [dt_ng]
          have := hm.left (g U 2) (hk.mem _ (by omega)) (m - 1) (by omega)
          rwa [show m - 1 + 1 = m by omega, ← eN] at this
        · refine j2 (b' := ng (g L (m - 2))) o1 o2 (lt2_ng.2 (hm.ord (m - 2) (m - 1) (by omega) (by omega))) ?_ (by rw [dt_ng]; exact hk.left _ (hm.mem (m - 2) (by omega)) 0 (by omega)) z
          rw [dt_ng]
          have := hm.turn (m - 2) (by omega)
          rwa [show m - 2 + 2 = m by omega, show m - 2 + 1 = m - 1 by omega, ← eN] at this
  · have := g_mem (l := H) (i := m) (by omega)
    rwa [gl m (by omega), Nat.sub_self, e2] at this
end Go.Proofs.Gx
