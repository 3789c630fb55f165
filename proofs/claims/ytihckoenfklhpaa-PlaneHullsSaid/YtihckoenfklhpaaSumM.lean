/- The sum of two hulls: the sides of both, in the order of their directions. Which list of points is a hull's polygon: what has to be shown of it. The state of the walk around two hulls. The list that the walk around two hulls leaves: a polygon, that contains just the sums. There is such a walk around two hulls, and it ends. The walk around two hulls is a path: what the list of its corners is. A hull turned by a half turn: what it is. How far away a hull is from (0, 0): how far it has to be grown to contain it. -/
import Derived.Test.YtihckoenfklhpaaHullM
namespace Go.Proofs.Gx
/-! ### Directions -/
def bw (u : P2) : Prop := fw (ng u)
theorem fw_bw {u : P2} (h : fw u) (k : bw u) : False := by unfold bw fw ng at *; simp only at k; omega
theorem crs_ng2 (u v : P2) : crs (ng u) (ng v) = crs u v := by unfold crs ng; grind
theorem crs_ngl (u v : P2) : crs (ng u) v = - crs u v := by unfold crs ng; grind
theorem crs_ngr (u v : P2) : crs u (ng v) = - crs u v := by unfold crs ng; grind
theorem crs_self (u : P2) : crs u u = 0 := by unfold crs; grind
theorem crs_adr (w u v : P2) : crs w (ad u v) = crs w u + crs w v := by unfold crs ad; grind
theorem crs_adl (u v w : P2) : crs (ad u v) w = crs u w + crs v w := by unfold crs ad; grind
theorem bw_ng {u : P2} (h : fw u) : bw (ng u) := by unfold bw; rw [ng_ng]; exact h
theorem fw_of_bw {u : P2} (h : bw u) : fw (ng u) := h
/-- Ahead in the order of directions: strictly; or not behind. -/
def ls (u v : P2) : Prop := (fw u ∧ bw v) ∨ (fw u ∧ fw v ∧ 0 < crs u v) ∨ (bw u ∧ bw v ∧ 0 < crs u v)
def lq (u v : P2) : Prop := (fw u ∧ bw v) ∨ (fw u ∧ fw v ∧ 0 ≤ crs u v) ∨ (bw u ∧ bw v ∧ 0 ≤ crs u v)
theorem ls_lq {u v : P2} (h : ls u v) : lq u v := by
  rcases h with h | ⟨a, b, c⟩ | ⟨a, b, c⟩
  · exact .inl h
  · exact .inr (.inl ⟨a, b, by omega⟩)
  · exact .inr (.inr ⟨a, b, by omega⟩)
theorem crs_trans_bl {u v w : P2} (hu : bw u) (hv : bw v) (hw : bw w) (h1 : 0 < crs u v) (h2 : 0 ≤ crs v w) : 0 < crs u w := by
  have := crs_trans_l hu hv hw (by rw [crs_ng2]; exact h1) (by rw [crs_ng2]; exact h2)
  rwa [crs_ng2] at this
theorem crs_trans_br {u v w : P2} (hu : bw u) (hv : bw v) (hw : bw w) (h1 : 0 ≤ crs u v) (h2 : 0 < crs v w) : 0 < crs u w := by
  have := crs_trans_r hu hv hw (by rw [crs_ng2]; exact h1) (by rw [crs_ng2]; exact h2)
  rwa [crs_ng2] at this
theorem lq_ls {u v w : P2} (h : lq u v) (k : ls v w) : ls u w := by
  rcases h with ⟨a, b⟩ | ⟨a, b, c⟩ | ⟨a, b, c⟩ <;> rcases k with ⟨d, e⟩ | ⟨d, e, f⟩ | ⟨d, e, f⟩
  · exact (fw_bw d b).elim
  · exact (fw_bw d b).elim
  · exact .inl ⟨a, e⟩
  · exact .inl ⟨a, e⟩
  · exact .inr (.inl ⟨a, e, crs_trans_r a b e c f⟩)
  · exact (fw_bw b d).elim
  · exact (fw_bw d b).elim
  · exact (fw_bw d b).elim
  · exact .inr (.inr ⟨a, e, crs_trans_br a b e c f⟩)
theorem ls_ls {u v w : P2} (h : ls u v) (k : ls v w) : ls u w := lq_ls (ls_lq h) k
/-! ### The sides of a hull -/
/-- The side from the corner i, around and around. -/
def sd (h : List P2) (i : Nat) : P2 := sb (gc h (i + 1)) (gc h i)
theorem gc_add (h : List P2) (i : Nat) : gc h (i + h.length) = gc h i := by unfold gc; rw [Nat.add_mod_right]
theorem sd_add (h : List P2) (i : Nat) : sd h (i + h.length) = sd h i := by unfold sd; rw [show i + h.length + 1 = i + 1 + h.length by omega, gc_add, gc_add]
theorem sd_lt {h : List P2} {i : Nat} (hi : i < h.length) : sd h i = sb (gc h (i + 1)) (g h i) := by unfold sd; rw [gc_lt hi]
/-- What is known of the sides of a hull with two corners, or more: p of them. -/
structure Sides (h : List P2) (p : Nat) : Prop where
  two : 2 ≤ p
  len : h.length = p
  s0 : fw (sd h 0)
  sl : bw (sd h (p - 1))
  half : ∀ i, fw (sd h i) ∨ bw (sd h i)
  stay : ∀ i, i + 1 < p → bw (sd h i) → bw (sd h (i + 1))
  ext : ∀ i, 0 < crs (sd h i) (sd h (i + 1)) ∨ (p = 2 ∧ sd h (i + 1) = ng (sd h i))
  left : ∀ i, ∀ x ∈ h, 0 ≤ crs (sd h i) (sb x (gc h i))
  next : ∀ i, 0 ≤ crs (sd h i) (sd h (i + 1))
theorem sd_mod {h : List P2} (hp : 0 < h.length) (i : Nat) : sd h i = sd h (i % h.length) := by
  unfold sd gc
  rw [Nat.mod_mod, show (i % h.length + 1) % h.length = (i + 1) % h.length by rw [Nat.mod_add_mod]]
theorem gc_mod {h : List P2} (i : Nat) : gc h i = gc h (i % h.length) := by
  unfold gc
  rw [Nat.mod_mod]
theorem corner_split {h : List P2} (p : IsH h) {i : Nat} (h1 : 1 ≤ i) (hi : i < h.length) : lt2 (g h 0) (g h i) := by
  have := p.first (i - 1) (by omega)
  rwa [show i - 1 + 1 = i by omega] at this
theorem side_half {h : List P2} (p : IsH h) (h2 : 2 ≤ h.length) {i : Nat} (hi : i < h.length) : fw (sd h i) ∨ bw (sd h i) := by
  rw [sd_lt hi]
  have hne : g h i ≠ gc h (i + 1) := by
    rcases Nat.lt_or_ge (i + 1) h.length with c | c
    · rw [gc_lt c]; exact corners_ne p (by omega) c
    · have : gc h (i + 1) = g h 0 := by unfold gc; rw [show i + 1 = h.length by omega, Nat.mod_self]
      rw [this]
      exact fun e => corners_ne p (i := 0) (j := i) (by omega) hi e.symm
  rcases lt2_tri (g h i) (gc h (i + 1)) with c | c | c
  · exact .inl (fw_sb.2 c)
  · exact absurd c hne
  · right
    have e : ng (sb (gc h (i + 1)) (g h i)) = sb (g h i) (gc h (i + 1)) := by unfold ng sb; simp only [Prod.mk.injEq]; omega
    unfold bw
    rw [e]
    exact fw_sb.2 c
theorem sides_of {h : List P2} (P : Poly h) {p : Nat} (hp : h.length = p) (h2 : 2 ≤ p) : Sides h p := by
  have p0 : 0 < h.length := by omega
  have I := P.toIsH
  have half : ∀ i, fw (sd h i) ∨ bw (sd h i) := fun i => by
    rw [sd_mod p0 i]
    exact side_half I (by omega) (Nat.mod_lt _ p0)
  have left : ∀ i, ∀ x ∈ h, 0 ≤ crs (sd h i) (sb x (gc h i)) := fun i x hx => by
    rw [sd_mod p0 i, gc_mod i]
    have hm := Nat.mod_lt i p0
    have := P.left x hx (i % h.length) hm
    rw [dt_eq] at this
    rw [sd_lt hm, gc_lt hm]
    exact this
  have next : ∀ i, 0 ≤ crs (sd h i) (sd h (i + 1)) := fun i => by
    have a := left i (gc h (i + 2)) (gc_mem I.ne _)
    have e : crs (sd h i) (sb (gc h (i + 2)) (gc h i)) = crs (sd h i) (sd h (i + 1)) := by unfold sd; unfold crs sb; grind
    rwa [e] at a
  have s0 : fw (sd h 0) := by
    rw [sd_lt p0]
    refine fw_sb.2 ?_
    rw [gc_lt (show 0 + 1 < h.length by omega)]
    exact I.first 0 (by omega)
  have lastc : gc h (p - 1 + 1) = g h 0 := by unfold gc; rw [show p - 1 + 1 = h.length by omega, Nat.mod_self]
  have sl : bw (sd h (p - 1)) := by
    rw [sd_lt (by omega), lastc]
    have e : ng (sb (g h 0) (g h (p - 1))) = sb (g h (p - 1)) (g h 0) := by unfold ng sb; simp only [Prod.mk.injEq]; omega
    unfold bw
    rw [e]
    exact fw_sb.2 (corner_split I (by omega) (by omega))
  refine ⟨h2, hp, s0, sl, half, ?_, ?_, left, next⟩
  · intro i hi hb
    rcases half (i + 1) with c | c
    · exfalso
      rcases Nat.lt_or_ge (i + 2) (p + 1) with d | d
      · have hz : lt2 (g h 0) (g h (i + 1)) := corner_split I (by omega) (by omega)
        have g1 : gc h (i + 1) = g h (i + 1) := gc_lt (by omega)
        have m0 : g h 0 ∈ h := g_mem p0
        have z := fw_sb.2 hz
        have l1 := left i _ m0
        have l2 := left (i + 1) _ m0
        have e1 : crs (sd h i) (sb (g h 0) (gc h i)) = crs (ng (sd h i)) (sb (gc h (i + 1)) (g h 0)) := by unfold sd; unfold crs sb ng; grind
        have e2 : crs (sd h (i + 1)) (sb (g h 0) (gc h (i + 1))) = crs (sb (gc h (i + 1)) (g h 0)) (sd h (i + 1)) := by unfold sd; unfold crs sb; grind
        rw [e1] at l1
        rw [e2] at l2
        rw [g1] at l1 l2
        have k := crs_trans hb z c l1 l2
        rw [crs_ngl] at k
        rcases Nat.lt_or_ge 2 p with q | q
        · have t := I.turn (by omega) i (by omega)
          rw [dt_b, ← gc_lt (h := h) (i := i) (by omega)] at t
          have : 0 < crs (sd h i) (sd h (i + 1)) := t
          omega
        · obtain rfl : i = 0 := by omega
          exact fw_bw s0 hb
      · omega
    · exact c
  · intro i
    rcases Nat.lt_or_ge 2 p with q | q
    · left
      have hm := Nat.mod_lt i p0
      have t := I.turn (by omega) (i % h.length) hm
      rw [dt_b, ← gc_lt hm] at t
      have e1 : sd h i = sd h (i % h.length) := sd_mod p0 i
      have e2 : sd h (i + 1) = sd h (i % h.length + 1) := by rw [sd_mod p0 (i + 1), sd_mod p0 (i % h.length + 1), Nat.mod_add_mod]
      rw [e1, e2]
      exact t
    · right
      refine ⟨by omega, ?_⟩
      have e : gc h (i + 2) = gc h i := by rw [show i + 2 = i + h.length by omega, gc_add]
      unfold sd
      rw [show i + 1 + 1 = i + 2 by omega, e]
      unfold ng sb
      simp only [Prod.mk.injEq]
      omega
theorem gc_step (h : List P2) (i : Nat) : gc h (i + 1) = ad (gc h i) (sd h i) := by unfold sd ad sb; exact Prod.ext (by simp only; omega) (by simp only; omega)
/-- A corner between its sides is first in a direction that is between them. -/
theorem first_at {h : List P2} {p : Nat} (S : Sides h p) {i : Nat} {w : P2} (h1 : crs w (sd h i) ≤ 0) (h2 : 0 ≤ crs w (sd h (i + 1))) : ∀ x ∈ h, 0 ≤ crs w (sb x (gc h (i + 1))) := by
  intro x hx
  have l1 := S.left i x hx
  have l2 := S.left (i + 1) x hx
  have e1 : crs (sd h i) (sb x (gc h i)) = crs (sd h i) (sb x (gc h (i + 1))) := by unfold sd; unfold crs sb; grind
  rw [e1] at l1
  rcases S.ext i with t | ⟨hp, t⟩
  · have c := cramer_at (sd h i) (sd h (i + 1)) w (sb x (gc h (i + 1)))
    have k1 := Int.mul_nonneg l1 h2
    have k2 : 0 ≤ crs (sb x (gc h (i + 1))) (sd h (i + 1)) * crs w (sd h i) := by
      rw [crs_swap]
      have := Int.mul_nonneg l2 (show 0 ≤ - crs w (sd h i) by omega)
      rw [Int.mul_neg] at this
      rw [Int.neg_mul]
      exact this
    have k3 : 0 ≤ crs w (sb x (gc h (i + 1))) * crs (sd h i) (sd h (i + 1)) := by rw [Int.mul_comm, c]; omega
    exact nonneg_left k3 t
  · have p0 : 0 < h.length := by have := S.len; omega
    obtain ⟨j, hj, rfl⟩ := mem_g hx
    have hj2 : j < 2 := by have := S.len; omega
    have key : g h j = gc h (i + 1) ∨ g h j = gc h (i + 2) := by
      have m : i % 2 = 0 ∨ i % 2 = 1 := by omega
      unfold gc
      rw [S.len, hp]
      have : j = (i + 1) % 2 ∨ j = (i + 2) % 2 := by omega
      rcases this with e | e
      · left; rw [← e]
      · right; rw [← e]
    rcases key with e | e
    · rw [e]
      have : crs w (sb (gc h (i + 1)) (gc h (i + 1))) = 0 := by unfold crs sb; grind
      omega
    · rw [e]
      exact h2
end Go.Proofs.Gx
namespace Go.Proofs.Gx
theorem gc_shift (h : List P2) (i : Nat) : gc h (i + 1 + h.length) = gc h (i + 1) := gc_add h (i + 1)
/-- A list that begins with its least point, turns to the left at each corner, and has all its points on its left, is a polygon. -/
theorem poly_of {L : List P2} (ne : L ≠ []) (first : ∀ i, i + 1 < L.length → lt2 (g L 0) (g L (i + 1))) (left : ∀ q ∈ L, Left L q)
    (turn : 3 ≤ L.length → ∀ i, i < L.length → 0 < dt (g L i) (gc L (i + 1)) (gc L (i + 2))) : Poly L := by
  refine ⟨⟨ne, first, fun i h1 h2 => ?_, turn⟩, left⟩
  have p0 : 0 < L.length := by omega
  have m0 : g L 0 ∈ L := g_mem p0
  have lt1 : lt2 (g L 0) (g L i) := by
    have := first (i - 1) (by omega)
    rwa [show i - 1 + 1 = i by omega] at this
  have lt2' : lt2 (g L 0) (g L (i + 1)) := first i h2
  have l0 : 0 ≤ dt (g L i) (g L (i + 1)) (g L 0) := by
    have := left _ m0 i (by omega)
    rwa [gc_lt h2] at this
  have e0 : dt (g L 0) (g L i) (g L (i + 1)) = dt (g L i) (g L (i + 1)) (g L 0) := dt_rot _ _ _
  rcases Int.lt_or_le 0 (dt (g L 0) (g L i) (g L (i + 1))) with c | c
  · exact c
  · exfalso
    have z : crs (sb (g L i) (g L 0)) (sb (g L (i + 1)) (g L 0)) = 0 := by
      have : dt (g L 0) (g L i) (g L (i + 1)) = 0 := by omega
      rwa [dt_eq] at this
    have z1 := fw_sb.2 lt1
    have z2 := fw_sb.2 lt2'
    have zr : crs (sb (g L i) (g L 0)) (sb (g L (i + 1)) (g L i)) = 0 := by
      have : crs (sb (g L i) (g L 0)) (sb (g L (i + 1)) (g L i)) = crs (sb (g L i) (g L 0)) (sb (g L (i + 1)) (g L 0)) := by unfold crs sb; grind
      omega
    have zs : crs (sb (g L (i + 1)) (g L 0)) (sb (g L i) (g L (i + 1))) = 0 := by
      have : crs (sb (g L (i + 1)) (g L 0)) (sb (g L i) (g L (i + 1))) = - crs (sb (g L i) (g L 0)) (sb (g L (i + 1)) (g L 0)) := by unfold crs sb; grind
      omega
    rcases lt2_tri (g L i) (g L (i + 1)) with d | d | d
    · -- the piece goes forward
      have r := fw_sb.2 d
      have t := turn (by omega) (i - 1) (by omega)
      rw [show i - 1 + 1 = i by omega, show i - 1 + 2 = i + 1 by omega, gc_lt (show i < L.length by omega), gc_lt h2, dt_b] at t
      have lp := left _ m0 (i - 1) (by omega)
      rw [show i - 1 + 1 = i by omega, gc_lt (show i < L.length by omega), dt_b] at lp
      have lp2 : crs (sb (g L i) (g L (i - 1))) (sb (g L i) (g L 0)) ≤ 0 := by
        have : crs (sb (g L i) (g L (i - 1))) (sb (g L 0) (g L i)) = - crs (sb (g L i) (g L (i - 1))) (sb (g L i) (g L 0)) := by unfold crs sb; grind
        omega
      have pw : fw (sb (g L i) (g L (i - 1))) := by
        rcases Nat.eq_or_lt_of_le h1 with e | e
        · have : i - 1 = 0 := by omega
          rw [this]; exact z1
        · rcases lt2_tri (g L (i - 1)) (g L i) with f | f | f
          · exact fw_sb.2 f
          · exfalso
            rw [f] at t
            have : crs (sb (g L i) (g L i)) (sb (g L (i + 1)) (g L i)) = 0 := by unfold crs sb; grind
            omega
          · exfalso
            -- backward, then forward: against the least point
            have u := fw_sb.2 f
            have l1 : 0 ≤ crs (sb (g L (i - 1)) (g L i)) (sb (g L i) (g L 0)) := by
              have : crs (sb (g L (i - 1)) (g L i)) (sb (g L i) (g L 0)) = - crs (sb (g L i) (g L (i - 1))) (sb (g L i) (g L 0)) := by unfold crs sb; grind
              omega
            have k := crs_trans u z1 r l1 (by omega)
            have : crs (sb (g L (i - 1)) (g L i)) (sb (g L (i + 1)) (g L i)) = - crs (sb (g L i) (g L (i - 1))) (sb (g L (i + 1)) (g L i)) := by unfold crs sb; grind
            omega
      have k := crs_trans_l pw r z1 t (by rw [crs_swap]; omega)
      omega
    · rw [d] at lt1
      have m1 : g L (i + 1) ∈ L := g_mem h2
      have := turn (by omega) (i - 1) (by omega)
      rw [show i - 1 + 1 = i by omega, show i - 1 + 2 = i + 1 by omega, gc_lt (show i < L.length by omega), gc_lt h2, d, dt_self2] at this
      omega
    · -- the piece goes back
      have r := fw_sb.2 d
      have t := turn (by omega) i (by omega)
      rw [gc_lt h2, dt_b] at t
      have ln := left _ m0 (i + 1) h2
      rw [dt_eq] at ln
      have ne2 : gc L (i + 1 + 1) ≠ g L (i + 1) := by
        intro e
        rw [show i + 1 + 1 = i + 2 by omega] at e
        rw [e] at t
        have : crs (sb (g L (i + 1)) (g L i)) (sb (g L (i + 1)) (g L (i + 1))) = 0 := by unfold crs sb; grind
        omega
      rw [show i + 1 + 1 = i + 2 by omega] at ln ne2
      obtain ⟨N, hN⟩ : ∃ N, gc L (i + 2) = N := ⟨_, rfl⟩
      rw [hN] at t ln ne2
      have ln2 : crs (sb N (g L (i + 1))) (sb (g L (i + 1)) (g L 0)) ≤ 0 := by
        have : crs (sb N (g L (i + 1))) (sb (g L 0) (g L (i + 1))) = - crs (sb N (g L (i + 1))) (sb (g L (i + 1)) (g L 0)) := by unfold crs sb; grind
        omega
      rcases lt2_tri N (g L (i + 1)) with f | f | f
      · have u := fw_sb.2 f
        have t' : 0 < crs (sb (g L i) (g L (i + 1))) (sb (g L (i + 1)) N) := by
          have : crs (sb (g L i) (g L (i + 1))) (sb (g L (i + 1)) N) = crs (sb (g L (i + 1)) (g L i)) (sb N (g L (i + 1))) := by unfold crs sb; grind
          omega
        have k := crs_trans_r z2 r u (by omega) t'
        have : crs (sb (g L (i + 1)) (g L 0)) (sb (g L (i + 1)) N) = crs (sb N (g L (i + 1))) (sb (g L (i + 1)) (g L 0)) := by unfold crs sb; grind
        omega
      · exact ne2 f
      · -- back, then forward: against the least point
        have v := fw_sb.2 f
        have k := crs_trans r z2 v (by rw [crs_swap]; omega) (by rw [crs_swap]; omega)
        have : crs (sb (g L i) (g L (i + 1))) (sb N (g L (i + 1))) = - crs (sb (g L (i + 1)) (g L i)) (sb N (g L (i + 1))) := by unfold crs sb; grind
        omega
/-! ### The walk around both -/
/-- One step: the side that comes first, or both. -/
def stp (a b : List P2) (s : Nat × Nat) : Nat × Nat :=
  (if 0 ≤ crs (sd a s.1) (sd b s.2) then s.1 + 1 else s.1, if crs (sd a s.1) (sd b s.2) ≤ 0 then s.2 + 1 else s.2)
def st (a b : List P2) : Nat → Nat × Nat
  | 0 => (0, 0)
  | k + 1 => stp a b (st a b k)
/-- The corner that the walk has come to. -/
def sp (a b : List P2) (k : Nat) : P2 := ad (gc a (st a b k).1) (gc b (st a b k).2)
/-- What holds of the walk, if both hulls have sides. -/
structure Inv (a b : List P2) (p q i j : Nat) : Prop where
  ia : i ≤ p
  jb : j ≤ q
  ba : 1 ≤ j → i < p → ls (sd b (j - 1)) (sd a i)
  ab : 1 ≤ i → j < q → ls (sd a (i - 1)) (sd b j)
theorem Inv.swap {a b : List P2} {p q i j : Nat} (h : Inv a b p q i j) : Inv b a q p j i := ⟨h.jb, h.ia, h.ab, h.ba⟩
/-- A side forward, and one back, of which the one before comes first. -/
theorem opp {b : List P2} {q j : Nat} (B : Sides b q) {s : P2} (hs : fw s) (ht : bw (sd b j)) (hj : j < q) (h : 1 ≤ j → ls (sd b (j - 1)) s) : 0 < crs s (sd b j) := by
  have j1 : 1 ≤ j := by
    rcases Nat.eq_zero_or_pos j with e | e
    · subst e; exact (fw_bw B.s0 ht).elim
    · exact e
  have l := h j1
  have l2 : fw (sd b (j - 1)) ∧ 0 < crs (sd b (j - 1)) s := by
    rcases l with ⟨_, y⟩ | ⟨x, _, z⟩ | ⟨_, y, _⟩
    · exact (fw_bw hs y).elim
    · exact ⟨x, z⟩
    · exact (fw_bw hs y).elim
  have x := B.ext (j - 1)
  rw [show j - 1 + 1 = j by omega] at x
  rcases x with x | ⟨_, x⟩
  · have k := crs_trans_l (u := ng (sd b j)) (v := sd b (j - 1)) (w := s) ht l2.1 hs (by rw [crs_ngl, crs_swap]; omega) (by omega)
    rw [crs_ngl, crs_swap] at k
    omega
  · rw [x, crs_ngr, crs_swap]; omega
/-- Behind all sides of a hull comes its first one: it is ahead of those that are left. -/
theorem opp2 {a : List P2} {p : Nat} (A : Sides a p) {t : P2} (h : ls (sd a (p - 1)) t) : bw t ∧ crs (sd a 0) t < 0 := by
  have l : bw t ∧ 0 < crs (sd a (p - 1)) t := by
    rcases h with ⟨x, _⟩ | ⟨x, _, _⟩ | ⟨_, y, z⟩
    · exact (fw_bw x A.sl).elim
    · exact (fw_bw x A.sl).elim
    · exact ⟨y, z⟩
  refine ⟨l.1, ?_⟩
  have e : sd a (p - 1 + 1) = sd a 0 := by
    have := sd_add a 0
    rw [A.len] at this
    rw [← this]; congr 1; have := A.two; omega
  have x := A.ext (p - 1)
  rw [e] at x
  have k1 : 0 < crs (ng (sd a (p - 1))) (ng t) := by rw [crs_ng2]; exact l.2
  rcases x with x | ⟨_, x⟩
  · have k := crs_trans_l (u := sd a 0) (v := ng (sd a (p - 1))) (w := ng t) A.s0 A.sl l.1 (by rw [crs_ngr, crs_swap]; omega) (by omega)
    rw [crs_ngr] at k
    omega
  · rw [← x, crs_ngr] at k1
    omega
/-- What a step may be. -/
theorem step_dir {a b : List P2} {p q i j : Nat} (A : Sides a p) (B : Sides b q) (I : Inv a b p q i j) (hi : i < p) (hj : j < q) :
    (0 < crs (sd a i) (sd b j) → ls (sd a i) (sd b j)) ∧ (crs (sd a i) (sd b j) < 0 → ls (sd b j) (sd a i)) ∧ (crs (sd a i) (sd b j) = 0 → (fw (sd a i) ∧ fw (sd b j)) ∨ (bw (sd a i) ∧ bw (sd b j))) := by
  rcases A.half i with s | s <;> rcases B.half j with t | t
  · exact ⟨fun h => .inr (.inl ⟨s, t, h⟩), fun h => .inr (.inl ⟨t, s, by rw [crs_swap]; omega⟩), fun _ => .inl ⟨s, t⟩⟩
  · have k := opp B s t hj (fun h => I.ba h hi)
    exact ⟨fun _ => .inl ⟨s, t⟩, fun h => by omega, fun h => by omega⟩
  · have k := opp A t s hi (fun h => I.ab h hj)
    rw [crs_swap] at k
    exact ⟨fun h => by omega, fun _ => .inl ⟨t, s⟩, fun h => by omega⟩
  · exact ⟨fun h => .inr (.inr ⟨s, t, h⟩), fun h => .inr (.inr ⟨t, s, by rw [crs_swap]; omega⟩), fun _ => .inr ⟨s, t⟩⟩
theorem sd_ls {a : List P2} {p : Nat} (A : Sides a p) {i : Nat} (hi : i + 1 < p) : ls (sd a i) (sd a (i + 1)) := by
  rcases A.half i with s | s
  · rcases A.half (i + 1) with t | t
    · rcases A.ext i with x | ⟨_, x⟩
      · exact .inr (.inl ⟨s, t, x⟩)
      · rw [x] at t; exact (fw_bw t (bw_ng s)).elim
    · exact .inl ⟨s, t⟩
  · have t := A.stay i hi s
    rcases A.ext i with x | ⟨_, x⟩
    · exact .inr (.inr ⟨s, t, x⟩)
    · exfalso
      rw [x] at t
      unfold bw at t
      rw [ng_ng] at t
      exact fw_bw t s
theorem last_a {a b : List P2} {p q j : Nat} (A : Sides a p) (I : Inv a b p q p j) (hj : j < q) : crs (sd a p) (sd b j) < 0 := by
  have e : sd a p = sd a 0 := by
    have := sd_add a 0
    rwa [A.len, Nat.zero_add] at this
  rw [e]
  exact (opp2 A (I.ab (by have := A.two; omega) hj)).2
/-- The state of a step: which side is taken. -/
theorem step_kind {a b : List P2} {p q i j : Nat} (A : Sides a p) (B : Sides b q) (I : Inv a b p q i j) (h : i < p ∨ j < q) :
    (0 < crs (sd a i) (sd b j) ∧ i < p ∧ (j < q → ls (sd a i) (sd b j))) ∨ (crs (sd a i) (sd b j) < 0 ∧ j < q ∧ (i < p → ls (sd b j) (sd a i))) ∨
    (crs (sd a i) (sd b j) = 0 ∧ i < p ∧ j < q ∧ ((fw (sd a i) ∧ fw (sd b j)) ∨ (bw (sd a i) ∧ bw (sd b j)))) := by
  rcases Nat.lt_or_ge i p with hi | hi
  · rcases Nat.lt_or_ge j q with hj | hj
    · obtain ⟨k1, k2, k3⟩ := step_dir A B I hi hj
      rcases Int.lt_trichotomy (crs (sd a i) (sd b j)) 0 with c | c | c
      · exact .inr (.inl ⟨c, hj, fun _ => k2 c⟩)
      · exact .inr (.inr ⟨c, hi, hj, k3 c⟩)
      · exact .inl ⟨c, hi, fun _ => k1 c⟩
    · obtain rfl : j = q := by have := I.jb; omega
      have := last_a B I.swap hi
      rw [crs_swap] at this
      exact .inl ⟨by omega, hi, fun h => by omega⟩
  · obtain rfl : i = p := by have := I.ia; omega
    have hj : j < q := by omega
    exact .inr (.inl ⟨last_a A I hj, hj, fun h => by omega⟩)
theorem lq_same {u v : P2} (h : crs u v = 0) (k : (fw u ∧ fw v) ∨ (bw u ∧ bw v)) : lq u v := by
  rcases k with ⟨a, b⟩ | ⟨a, b⟩
  · exact .inr (.inl ⟨a, b, by omega⟩)
  · exact .inr (.inr ⟨a, b, by omega⟩)
theorem inv_step {a b : List P2} {p q i j : Nat} (A : Sides a p) (B : Sides b q) (I : Inv a b p q i j) (h : i < p ∨ j < q) : Inv a b p q (stp a b (i, j)).1 (stp a b (i, j)).2 := by
  unfold stp
  rcases step_kind A B I h with ⟨c, hi, k⟩ | ⟨c, hj, k⟩ | ⟨c, hi, hj, k⟩
  · simp only [if_pos (show 0 ≤ crs (sd a i) (sd b j) by omega), if_neg (show ¬ crs (sd a i) (sd b j) ≤ 0 by omega)]
    exact ⟨hi, I.jb, fun h1 h2 => ls_ls (I.ba h1 hi) (sd_ls A h2), fun _ h2 => k h2⟩
  · simp only [if_neg (show ¬ 0 ≤ crs (sd a i) (sd b j) by omega), if_pos (show crs (sd a i) (sd b j) ≤ 0 by omega)]
    exact ⟨I.ia, hj, fun _ h2 => k h2, fun h1 h2 => ls_ls (I.ab h1 hj) (sd_ls B h2)⟩
  · simp only [if_pos (show 0 ≤ crs (sd a i) (sd b j) by omega), if_pos (show crs (sd a i) (sd b j) ≤ 0 by omega)]
    exact ⟨hi, hj, fun _ h2 => lq_ls (lq_same (show crs (sd b j) (sd a i) = 0 by rw [crs_swap]; omega) (k.imp And.symm And.symm)) (sd_ls A h2), fun _ h2 => lq_ls (lq_same c k) (sd_ls B h2)⟩
theorem inv_zero {a b : List P2} {p q : Nat} : Inv a b p q 0 0 := ⟨Nat.zero_le _, Nat.zero_le _, fun h => by omega, fun h => by omega⟩
/-- The other hull's corner is first in the direction of a side that is taken. -/
theorem left_b {a b : List P2} {p q i j : Nat} (A : Sides a p) (B : Sides b q) (I : Inv a b p q i j) (hi : i < p) (hc : 0 ≤ crs (sd a i) (sd b j)) : ∀ y ∈ b, 0 ≤ crs (sd a i) (sb y (gc b j)) := by
  have q2 := B.two
  have e1 : j + q - 1 + 1 = j + q := by omega
  have f1 : gc b (j + q - 1 + 1) = gc b j := by rw [e1]; have := gc_add b j; rwa [B.len] at this
  have f2 : sd b (j + q - 1 + 1) = sd b j := by rw [e1]; have := sd_add b j; rwa [B.len] at this
  have half : j < q → (bw (sd a i) → bw (sd b j)) ∧ (fw (sd b j) → fw (sd a i)) := fun hj => by
    rcases step_kind A B I (.inl hi) with ⟨_, _, k⟩ | ⟨c, _, _⟩ | ⟨_, _, _, k⟩
    · rcases k hj with ⟨x, y⟩ | ⟨x, y, _⟩ | ⟨x, y, _⟩
      · exact ⟨fun _ => y, fun _ => x⟩
      · exact ⟨fun z => (fw_bw x z).elim, fun _ => x⟩
      · exact ⟨fun _ => y, fun z => (fw_bw z y).elim⟩
    · omega
    · rcases k with ⟨x, y⟩ | ⟨x, y⟩
      · exact ⟨fun z => (fw_bw x z).elim, fun _ => x⟩
      · exact ⟨fun _ => y, fun z => (fw_bw z y).elim⟩
  have prev : crs (sd a i) (sd b (j + q - 1)) ≤ 0 := by
    rcases Nat.eq_zero_or_pos j with e | e
    · subst e
      rw [Nat.zero_add]
      have hs : fw (sd a i) := (half (by omega)).2 B.s0
      have e0 : sd b (q - 1 + 1) = sd b 0 := by rw [← f2]; congr 1; omega
      have x := B.ext (q - 1)
      rw [e0] at x
      rcases x with x | ⟨_, x⟩
      · have k := crs_trans_r (u := sd a i) (v := sd b 0) (w := ng (sd b (q - 1))) hs B.s0 B.sl hc (by rw [crs_ngr, crs_swap]; omega)
        rw [crs_ngr] at k
        omega
      · rw [x, crs_ngr] at hc
        omega
    · have e2 : sd b (j + q - 1) = sd b (j - 1) := by
        have := sd_add b (j - 1)
        rw [B.len] at this
        rw [← this]; congr 1; omega
      rw [e2, crs_swap]
      have l := I.ba e hi
      rcases l with ⟨x, y⟩ | ⟨_, _, z⟩ | ⟨_, _, z⟩
      · rcases Nat.lt_or_ge j q with hj | hj
        · have t := (half hj).1 y
          have w := B.ext (j - 1)
          rw [show j - 1 + 1 = j by omega] at w
          rcases w with w | ⟨_, w⟩
          · have k := crs_trans_r (u := ng (sd a i)) (v := ng (sd b j)) (w := sd b (j - 1)) y t x (by rw [crs_ng2]; exact hc) (by rw [crs_ngl, crs_swap]; omega)
            rw [crs_ngl, crs_swap] at k
            omega
          · rw [w, crs_ngr, crs_swap] at hc
            omega
        · obtain rfl : j = q := by have := I.jb; omega
          exact (fw_bw x B.sl).elim
      · omega
      · omega
  have := first_at B (i := j + q - 1) (w := sd a i) prev (by rw [f2]; exact hc)
  rwa [f1] at this
end Go.Proofs.Gx
namespace Go.Proofs.Gx
/-- On the left of all sides of both, as far as the sums reach. -/
def Sup (a b : List P2) (q : P2) : Prop :=
  (∀ i, ∃ x ∈ a, ∃ y ∈ b, crs (sd a i) (ad x y) ≤ crs (sd a i) q) ∧ (∀ j, ∃ x ∈ a, ∃ y ∈ b, crs (sd b j) (ad x y) ≤ crs (sd b j) q)
structure Path (a b L : List P2) : Prop where
  pos : 0 < L.length
  mem : ∀ r ∈ L, ∃ x ∈ a, ∃ y ∈ b, r = ad x y
  low : ∀ k, k + 1 < L.length → lt2 (g L 0) (g L (k + 1))
  base : ∀ x ∈ a, ∀ y ∈ b, le2 (g L 0) (ad x y)
  left : ∀ k, k < L.length → ∀ x ∈ a, ∀ y ∈ b, 0 ≤ crs (sd L k) (sb (ad x y) (g L k))
  sup : ∀ k, k < L.length → ∀ q, Sup a b q → 0 ≤ crs (sd L k) (sb q (g L k))
  chain : ∀ k, k + 1 < L.length → ls (sd L k) (sd L (k + 1))
  f0 : 2 ≤ L.length → fw (sd L 0)
  bl : 2 ≤ L.length → bw (sd L (L.length - 1))
  top : L.length = 2 → ∀ x ∈ a, ∀ y ∈ b, le2 (ad x y) (g L 1)
  one : L.length = 1 → a.length = 1 ∧ b.length = 1
theorem ad_comm (x y : P2) : ad x y = ad y x := by unfold ad; rw [Int.add_comm, Int.add_comm y.2]
theorem Sup.swap {a b : List P2} {q : P2} (h : Sup a b q) : Sup b a q := by
  refine ⟨fun j => ?_, fun i => ?_⟩
  · obtain ⟨x, hx, y, hy, e⟩ := h.2 j
    exact ⟨y, hy, x, hx, by rw [ad_comm]; exact e⟩
  · obtain ⟨x, hx, y, hy, e⟩ := h.1 i
    exact ⟨y, hy, x, hx, by rw [ad_comm]; exact e⟩
theorem Path.swap {a b L : List P2} (h : Path a b L) : Path b a L where
  pos := h.pos
  mem r hr := by obtain ⟨x, hx, y, hy, e⟩ := h.mem r hr; exact ⟨y, hy, x, hx, by rw [ad_comm]; exact e⟩
  low := h.low
  base x hx y hy := by rw [ad_comm]; exact h.base y hy x hx
  left k hk x hx y hy := by rw [ad_comm]; exact h.left k hk y hy x hx
  sup k hk q hq := h.sup k hk q hq.swap
  chain := h.chain
  f0 := h.f0
  bl := h.bl
  top hl x hx y hy := by rw [ad_comm]; exact h.top hl y hy x hx
  one hl := (h.one hl).symm
theorem flat {u v z : P2} (hu : fw u) (hv : fw v) (h : crs u v = 0) (h1 : 0 ≤ crs u z) (h2 : crs v z ≤ 0) : crs u z = 0 := by
  have c1 := cramer1 u v z
  have c2 := cramer2 u v z
  rw [h, Int.zero_mul, Int.add_zero] at c1 c2
  rcases Int.lt_or_le 0 (crs u z) with p | p
  · exfalso
    rcases hv with v1 | ⟨v1, v2⟩
    · have m := Int.mul_pos p v1
      have u1 : 0 ≤ u.1 := by rcases hu with h | h <;> omega
      have := Int.mul_nonneg (show 0 ≤ - crs v z by omega) u1
      rw [Int.neg_mul] at this
      omega
    · have m := Int.mul_pos p v2
      have u2 : 0 ≤ u.2 := by
        have e : crs u v = u.1 * v.2 := by unfold crs; rw [v1]; omega
        rw [h] at e
        rcases Int.mul_eq_zero.1 e.symm with k | k
        · rcases hu with h | h <;> omega
        · omega
      have := Int.mul_nonneg (show 0 ≤ - crs v z by omega) u2
      rw [Int.neg_mul] at this
      omega
  · omega
theorem no_flat {a b L : List P2} (h : Path a b L) (h3 : 3 ≤ L.length) {u B : P2} (hu : fw u) (all : ∀ r ∈ L, crs u (sb r B) = 0) : False := by
  have ne : L ≠ [] := by intro e; rw [e] at h3; simp at h3
  have z : ∀ k, crs u (sd L k) = 0 := fun k => by
    have e1 := all _ (gc_mem ne (k + 1))
    have e2 := all _ (gc_mem ne k)
    have : crs u (sd L k) = crs u (sb (gc L (k + 1)) B) - crs u (sb (gc L k) B) := by unfold sd; unfold crs sb; grind
    omega
  have c0 := h.chain 0 (by omega)
  have c1 := h.chain 1 (by omega)
  have f := h.f0 (by omega)
  have z0 := z 0
  have z1 : crs u (sd L (0 + 1)) = 0 := z 1
  have z2 : crs u (sd L (1 + 1)) = 0 := z 2
  rw [crs_swap] at z0 z1 z2
  rcases c0 with ⟨_, y⟩ | ⟨_, y, p⟩ | ⟨y, _, _⟩
  · rcases c1 with ⟨x, _⟩ | ⟨x, _, _⟩ | ⟨_, w, p⟩
    · exact fw_bw x y
    · exact fw_bw x y
    · have := crs_trans_bl y w (bw_ng hu) p (by rw [crs_ngr]; omega)
      rw [crs_ngr] at this
      omega
  · have := crs_trans_l f y hu p (by omega)
    omega
  · exact fw_bw f y
theorem path_left {a b L : List P2} (h : Path a b L) {x y : P2} (hx : x ∈ a) (hy : y ∈ b) : Left L (ad x y) := fun i hi => by
  rw [dt_eq, ← sd_lt hi]
  exact h.left i hi x hx y hy
theorem path_left_mem {a b L : List P2} (h : Path a b L) {r : P2} (hr : r ∈ L) : Left L r := by
  obtain ⟨x, hx, y, hy, rfl⟩ := h.mem r hr
  exact path_left h hx hy
theorem path_turn {a b L : List P2} (h : Path a b L) (h3 : 3 ≤ L.length) {k : Nat} (hk : k < L.length) : 0 < crs (sd L k) (sd L (k + 1)) := by
  have ne : L ≠ [] := by intro e; rw [e] at h3; simp at h3
  have nn : 0 ≤ crs (sd L k) (sd L (k + 1)) := by
    have := path_left_mem h (gc_mem ne (k + 2)) k hk
    rw [dt_eq, ← sd_lt hk] at this
    have e : crs (sd L k) (sb (gc L (k + 2)) (g L k)) = crs (sd L k) (sd L (k + 1)) := by rw [← gc_lt hk]; unfold sd; unfold crs sb; grind
    omega
  rcases Int.lt_or_le 0 (crs (sd L k) (sd L (k + 1))) with p | p
  · exact p
  · exfalso
    have z : crs (sd L k) (sd L (k + 1)) = 0 := by omega
    have lk : ∀ r ∈ L, 0 ≤ crs (sd L k) (sb r (gc L (k + 1))) := fun r hr => by
      have := path_left_mem h hr k hk
      rw [dt_eq, ← sd_lt hk] at this
      have e : crs (sd L k) (sb r (g L k)) = crs (sd L k) (sb r (gc L (k + 1))) := by rw [← gc_lt hk]; unfold sd; unfold crs sb; grind
      omega
    rcases Nat.lt_or_ge (k + 1) L.length with d | d
    · have lk1 : ∀ r ∈ L, 0 ≤ crs (sd L (k + 1)) (sb r (gc L (k + 1))) := fun r hr => by
        have := path_left_mem h hr (k + 1) d
        rwa [dt_eq, ← sd_lt d, ← gc_lt d] at this
      rcases h.chain k d with ⟨x, y⟩ | ⟨_, _, y⟩ | ⟨_, _, y⟩
      · exact no_flat h h3 x (B := gc L (k + 1)) fun r hr => flat x y (by rw [crs_ngr]; omega) (lk r hr) (by rw [crs_ngl]; have := lk1 r hr; omega)
      · omega
      · omega
    · have ek : k = L.length - 1 := by omega
      have e0 : sd L (k + 1) = sd L 0 := by
        have := sd_add L 0
        rw [← this]; congr 1; omega
      have g0 : gc L (k + 1) = g L 0 := by unfold gc; rw [show k + 1 = L.length by omega, Nat.mod_self]
      rw [e0] at z
      rw [g0] at lk
      have y := h.bl (by omega)
      rw [← ek] at y
      have x := h.f0 (by omega)
      exact no_flat h h3 x (B := g L 0) fun r hr => flat x y (by rw [crs_ngr, crs_swap]; omega) (by
        have := path_left_mem h hr 0 (by omega)
        rwa [dt_eq, ← sd_lt (by omega)] at this) (by rw [crs_ngl]; have := lk r hr; omega)
theorem path_poly {a b L : List P2} (h : Path a b L) : Poly L := by
  refine poly_of (List.length_pos_iff.1 h.pos) h.low (fun q hq => path_left_mem h hq) (fun h3 i hi => ?_)
  rw [dt_b, ← sd_lt hi]
  exact path_turn h h3 hi
theorem path_sc {a b L : List P2} (h : Path a b L) {x y : P2} (hx : x ∈ a) (hy : y ∈ b) : SC L (ad x y) := by
  have P := path_poly h
  have hl := path_left h hx hy
  have hb := h.base x hx y hy
  have ht := fun e => h.top e x hx y hy
  have ho := h.one
  have hlow := h.low
  have hm := h.mem
  rcases L with _ | ⟨u, _ | ⟨v, _ | ⟨s, r⟩⟩⟩
  · exact absurd rfl P.ne
  · obtain ⟨l1, l2⟩ := ho rfl
    obtain ⟨x', rfl⟩ := List.length_eq_one_iff.1 l1
    obtain ⟨y', rfl⟩ := List.length_eq_one_iff.1 l2
    obtain ⟨x2, hx2, y2, hy2, e⟩ := hm u (by simp)
    obtain rfl := List.mem_singleton.1 hx
    obtain rfl := List.mem_singleton.1 hy
    obtain rfl := List.mem_singleton.1 hx2
    obtain rfl := List.mem_singleton.1 hy2
    rw [← e]
    exact sc_self (by simp)
  · have e0 : 0 ≤ dt u v (ad x y) := by simpa [gc, g] using hl 0 (by simp)
    have e1 : 0 ≤ dt v u (ad x y) := by simpa [gc, g] using hl 1 (by simp)
    have e2 : dt v u (ad x y) = - dt u v (ad x y) := by unfold dt; grind
    exact sc_seg (hlow 0 (by simp)) (by omega) hb (ht rfl)
  · exact sc_left P.toIsH (by simp) hl
/-- In each direction a sum is not behind. -/
def Sums (a b : List P2) (q : P2) : Prop := ∀ w, ∃ x ∈ a, ∃ y ∈ b, crs w (ad x y) ≤ crs w q
theorem path_cont {a b L : List P2} (h : Path a b L) (q : P2) : Cont L q ↔ Sums a b q := by
  rw [cont_iff (path_poly h)]
  constructor
  · intro c w
    obtain ⟨r, hr, e⟩ := c w
    obtain ⟨x, hx, y, hy, rfl⟩ := h.mem r hr
    exact ⟨x, hx, y, hy, e⟩
  · intro c w
    obtain ⟨x, hx, y, hy, e⟩ := c w
    obtain ⟨r, hr, f⟩ := path_sc h hx hy w
    exact ⟨r, hr, Int.le_trans f e⟩
/-- It is enough to ask in the directions of the sides, and of the box. -/
theorem path_sup {a b L : List P2} (h : Path a b L) {q : P2} (s : Sup a b q) (hbox : ∀ w : P2, w = (0, -1) ∨ w = (0, 1) ∨ w = (1, 0) ∨ w = (-1, 0) → ∃ x ∈ a, ∃ y ∈ b, crs w (ad x y) ≤ crs w q) : Cont L q := by
  have up : ∀ w : P2, w = (0, -1) ∨ w = (0, 1) ∨ w = (1, 0) ∨ w = (-1, 0) → ∃ r ∈ L, crs w r ≤ crs w q := fun w hw => by
    obtain ⟨x, hx, y, hy, e⟩ := hbox w hw
    obtain ⟨r, hr, f⟩ := path_sc h hx hy w
    exact ⟨r, hr, Int.le_trans f e⟩
  refine ⟨⟨?_, ?_, ?_, ?_⟩, fun _ i hi => ?_⟩
  · obtain ⟨r, hr, e⟩ := up (0, -1) (.inl rfl)
    exact ⟨r, hr, by unfold crs at e; simp at e; omega⟩
  · obtain ⟨r, hr, e⟩ := up (0, 1) (.inr (.inl rfl))
    exact ⟨r, hr, by unfold crs at e; simp at e; omega⟩
  · obtain ⟨r, hr, e⟩ := up (1, 0) (.inr (.inr (.inl rfl)))
    exact ⟨r, hr, by unfold crs at e; simp at e; omega⟩
  · obtain ⟨r, hr, e⟩ := up (-1, 0) (.inr (.inr (.inr rfl)))
    exact ⟨r, hr, by unfold crs at e; simp at e; omega⟩
  · rw [dt_eq, ← sd_lt hi]
    exact h.sup i hi q s
end Go.Proofs.Gx
namespace Go.Proofs.Gx
/-- How many sides. -/
def ns (h : List P2) : Nat := if h.length = 1 then 0 else h.length
def Over (a b : List P2) (k : Nat) : Prop := ns a ≤ (st a b k).1 ∧ ns b ≤ (st a b k).2
instance (a b : List P2) (k : Nat) : Decidable (Over a b k) := by unfold Over; exact inferInstance
/-- The corners that the walk comes to, k of them. -/
def spL (a b : List P2) (k : Nat) : List P2 := (List.range k).map (sp a b)
theorem spL_len (a b : List P2) (k : Nat) : (spL a b k).length = k := by simp [spL]
theorem spL_succ (a b : List P2) (k : Nat) : spL a b (k + 1) = spL a b k ++ [sp a b k] := by simp [spL, List.range_succ]
theorem g_spL {a b : List P2} {K k : Nat} (h : k < K) : g (spL a b K) k = sp a b k := by
  rw [g_eq (by rw [spL_len]; exact h)]
  simp [spL]
theorem gc_spL {a b : List P2} {K k : Nat} (h : k < K) (e : sp a b K = sp a b 0) : gc (spL a b K) (k + 1) = sp a b (k + 1) := by
  unfold gc
  rw [spL_len]
  rcases Nat.lt_or_ge (k + 1) K with c | c
  · rw [Nat.mod_eq_of_lt c, g_spL c]
  · obtain rfl : K = k + 1 := by omega
    rw [Nat.mod_self, g_spL (by omega), e]
theorem sd_spL {a b : List P2} {K k : Nat} (h : k < K) (e : sp a b K = sp a b 0) : sd (spL a b K) k = sb (sp a b (k + 1)) (sp a b k) := by
  rw [sd_lt (by rw [spL_len]; exact h), gc_spL h e, g_spL h]
theorem lt2_ad {x y z : P2} (h : lt2 y z) : lt2 (ad x y) (ad x z) := by unfold lt2 ad at *; simp only; omega
theorem lt2_ad2 {x y z u : P2} (h : le2 x y) (k : lt2 z u) : lt2 (ad x z) (ad y u) := by
  rcases h with rfl | h
  · exact lt2_ad k
  · unfold lt2 ad at *; simp only; omega
theorem le2_ad {x y z u : P2} (h : le2 x y) (k : le2 z u) : le2 (ad x z) (ad y u) := by
  rcases k with rfl | k
  · rcases h with rfl | h
    · exact .inl rfl
    · right; unfold lt2 ad at *; simp only; omega
  · exact .inr (lt2_ad2 h k)
theorem le2_first {h : List P2} (p : IsH h) {x : P2} (hx : x ∈ h) : le2 (g h 0) x := by
  obtain ⟨i, hi, rfl⟩ := mem_g hx
  rcases Nat.eq_zero_or_pos i with e | e
  · subst e; exact .inl rfl
  · exact .inr (corner_split p e hi)
theorem le2_second {h : List P2} (p : IsH h) (h2 : h.length = 2) {x : P2} (hx : x ∈ h) : le2 x (gc h 1) := by
  rw [gc_lt (by omega)]
  obtain ⟨i, hi, rfl⟩ := mem_g hx
  rcases Nat.eq_zero_or_pos i with e | e
  · subst e; exact .inr (corner_split p (by omega) (by omega))
  · obtain rfl : i = 1 := by omega
    exact .inl rfl
theorem crs_zero (u : P2) : crs (0, 0) u = 0 := by unfold crs; simp
/-! ### A single point -/
theorem gc_single {a : List P2} (ha : a.length = 1) (i : Nat) : gc a i = g a 0 := by unfold gc; rw [ha, Nat.mod_one]
theorem sd_single {a : List P2} (ha : a.length = 1) (i : Nat) : sd a i = (0, 0) := by unfold sd; rw [gc_single ha, gc_single ha]; unfold sb; simp
theorem st_single {a b : List P2} (ha : a.length = 1) : ∀ k, st a b k = (k, k)
  | 0 => rfl
  | k + 1 => by
    rw [st, st_single ha k]
    unfold stp
    simp [sd_single ha, crs_zero]
theorem path_single {a b : List P2} (ha : a.length = 1) (Pb : Poly b) {q : Nat} (hq : b.length = q) (h2 : 2 ≤ q) : Path a b (spL a b q) := by
  have B := sides_of Pb hq h2
  have I := Pb.toIsH
  have hsp : ∀ k, sp a b k = ad (g a 0) (gc b k) := fun k => by unfold sp; rw [st_single ha, gc_single ha]
  have ma : ∀ x ∈ a, x = g a 0 := fun x hx => by
    obtain ⟨y, rfl⟩ := List.length_eq_one_iff.1 ha
    exact List.mem_singleton.1 hx
  have m0 : g a 0 ∈ a := g_mem (by omega)
  have eK : sp a b q = sp a b 0 := by
    rw [hsp, hsp]
    have := gc_add b 0
    rw [hq, Nat.zero_add] at this
    rw [this]
  have gs : ∀ k, k < q → sd (spL a b q) k = sd b k := fun k hk => by
    rw [sd_spL hk eK, hsp, hsp]
    unfold sd ad sb
    exact Prod.ext (by simp only; omega) (by simp only; omega)
  have lf : ∀ k, ∀ x ∈ a, ∀ y ∈ b, 0 ≤ crs (sd b k) (sb (ad x y) (sp a b k)) := fun k x hx y hy => by
    rw [hsp, ma x hx]
    have e : sb (ad (g a 0) y) (ad (g a 0) (gc b k)) = sb y (gc b k) := by unfold ad sb; exact Prod.ext (by simp only; omega) (by simp only; omega)
    rw [e]
    exact B.left k y hy
  refine ⟨by rw [spL_len]; omega, ?_, ?_, ?_, ?_, ?_, ?_, ?_, ?_, ?_, ?_⟩
  · intro r hr
    obtain ⟨k, hk, rfl⟩ := mem_g hr
    rw [spL_len] at hk
    rw [g_spL hk, hsp]
    exact ⟨_, m0, _, gc_mem I.ne k, rfl⟩
  · intro k hk
    rw [spL_len] at hk
    rw [g_spL (by omega), g_spL hk, hsp, hsp, gc_lt (by omega), gc_lt (by omega)]
    exact lt2_ad (corner_split I (by omega) (by omega))
  · intro x hx y hy
    rw [g_spL (by omega), hsp, ma x hx, gc_lt (by omega)]
    exact le2_ad (.inl rfl) (le2_first I hy)
  · intro k hk x hx y hy
    rw [spL_len] at hk
    rw [gs k hk, g_spL hk]
    exact lf k x hx y hy
  · intro k hk r s
    rw [spL_len] at hk
    rw [gs k hk, g_spL hk]
    obtain ⟨x, hx, y, hy, e⟩ := s.2 k
    have := lf k x hx y hy
    rw [crs_sb] at this ⊢
    omega
  · intro k hk
    rw [spL_len] at hk
    rw [gs k (by omega), gs (k + 1) hk]
    exact sd_ls B hk
  · intro _
    rw [gs 0 (by omega)]
    exact B.s0
  · intro _
    rw [spL_len, gs _ (by omega)]
    exact B.sl
  · intro hl x hx y hy
    rw [spL_len] at hl
    rw [g_spL (by omega), hsp, ma x hx]
    exact le2_ad (.inl rfl) (le2_second I (by omega) hy)
  · intro hl
    rw [spL_len] at hl
    omega
/-! ### The other way round -/
theorem stp_swap (a b : List P2) (i j : Nat) : stp b a (j, i) = ((stp a b (i, j)).2, (stp a b (i, j)).1) := by
  unfold stp
  simp only
  rw [crs_swap (sd b j) (sd a i)]
  have h1 : (0 ≤ - crs (sd a i) (sd b j)) ↔ (crs (sd a i) (sd b j) ≤ 0) := by omega
  have h2 : (- crs (sd a i) (sd b j) ≤ 0) ↔ (0 ≤ crs (sd a i) (sd b j)) := by omega
  simp only [h1, h2]
theorem st_swap (a b : List P2) : ∀ k, st b a k = ((st a b k).2, (st a b k).1)
  | 0 => rfl
  | k + 1 => by
    rw [st, st, st_swap a b k, stp_swap]
theorem sp_swap (a b : List P2) (k : Nat) : sp b a k = sp a b k := by unfold sp; rw [st_swap, ad_comm]
theorem spL_swap (a b : List P2) (k : Nat) : spL b a k = spL a b k := by
  unfold spL
  rw [show sp b a = sp a b from funext (sp_swap a b)]
/-! ### Two hulls with sides -/
theorem ns_two {h : List P2} {p : Nat} (e : h.length = p) (h2 : 2 ≤ p) : ns h = p := by unfold ns; rw [if_neg (by omega), e]
theorem stp_le (a b : List P2) (i j : Nat) : i ≤ (stp a b (i, j)).1 ∧ (stp a b (i, j)).1 ≤ i + 1 ∧ j ≤ (stp a b (i, j)).2 ∧ (stp a b (i, j)).2 ≤ j + 1 ∧ i + j + 1 ≤ (stp a b (i, j)).1 + (stp a b (i, j)).2 := by
  unfold stp
  simp only
  by_cases c1 : 0 ≤ crs (sd a i) (sd b j) <;> by_cases c2 : crs (sd a i) (sd b j) ≤ 0
  · rw [if_pos c1, if_pos c2]; omega
  · rw [if_pos c1, if_neg c2]; omega
  · rw [if_neg c1, if_pos c2]; omega
  · omega
theorem st_le (a b : List P2) : ∀ k, (st a b k).1 ≤ k ∧ (st a b k).2 ≤ k ∧ k ≤ (st a b k).1 + (st a b k).2
  | 0 => ⟨Nat.le_refl _, Nat.le_refl _, Nat.zero_le _⟩
  | k + 1 => by
    have h := st_le a b k
    have := stp_le a b (st a b k).1 (st a b k).2
    have e : st a b (k + 1) = stp a b ((st a b k).1, (st a b k).2) := rfl
    rw [e]
    omega
theorem run_inv {a b : List P2} {p q : Nat} (A : Sides a p) (B : Sides b q) : ∀ k, (∀ j, j < k → ¬ Over a b j) → Inv a b p q (st a b k).1 (st a b k).2
  | 0, _ => inv_zero
  | k + 1, h => by
    have I := run_inv A B k fun j hj => h j (by omega)
    have n := h k (by omega)
    unfold Over at n
    rw [ns_two A.len A.two, ns_two B.len B.two] at n
    have e : st a b (k + 1) = stp a b ((st a b k).1, (st a b k).2) := rfl
    rw [e]
    exact inv_step A B I (by omega)
theorem least_of {F : Nat → Prop} [DecidablePred F] : ∀ N, F N → ∃ K, K ≤ N ∧ F K ∧ ∀ j, j < K → ¬ F j := by
  intro N
  induction N using Nat.strongRecOn with
  | ind N ih =>
    intro h
    by_cases c : ∃ j, j < N ∧ F j
    · obtain ⟨j, hj, hf⟩ := c
      obtain ⟨K, h1, h2, h3⟩ := ih j hj hf
      exact ⟨K, by omega, h2, h3⟩
    · exact ⟨N, Nat.le_refl _, h, fun j hj hf => c ⟨j, hj, hf⟩⟩
theorem over_ex {a b : List P2} {p q : Nat} (A : Sides a p) (B : Sides b q) : ∃ K, K ≤ p + q ∧ Over a b K ∧ ∀ j, j < K → ¬ Over a b j := by
  by_cases c : ∃ N, N < p + q ∧ Over a b N
  · obtain ⟨N, hN, h⟩ := c
    obtain ⟨K, h1, h2, h3⟩ := least_of (F := Over a b) N h
    exact ⟨K, by omega, h2, h3⟩
  · have n : ∀ j, j < p + q → ¬ Over a b j := fun j hj h => c ⟨j, hj, h⟩
    have I := run_inv A B (p + q) n
    have l := st_le a b (p + q)
    have i1 := I.ia
    have i2 := I.jb
    refine ⟨p + q, Nat.le_refl _, ?_, n⟩
    unfold Over
    rw [ns_two A.len A.two, ns_two B.len B.two]
    omega
theorem fw_ad {u v : P2} (h : fw u) (k : fw v) : fw (ad u v) := by unfold fw ad at *; simp only; omega
theorem bw_ad {u v : P2} (h : bw u) (k : bw v) : bw (ad u v) := by unfold bw fw ng ad at *; simp only at *; omega
theorem ls_add_r {u v w : P2} (h : ls u v) (k : ls u w) (s : (fw v ∧ fw w) ∨ (bw v ∧ bw w)) : ls u (ad v w) := by
  rcases s with ⟨s1, s2⟩ | ⟨s1, s2⟩
  · rcases h with ⟨_, x⟩ | ⟨x, y, z⟩ | ⟨_, x, _⟩
    · exact (fw_bw s1 x).elim
    · rcases k with ⟨_, l⟩ | ⟨_, _, m⟩ | ⟨l, _, _⟩
      · exact (fw_bw s2 l).elim
      · exact .inr (.inl ⟨x, fw_ad s1 s2, by rw [crs_adr]; omega⟩)
      · exact (fw_bw x l).elim
    · exact (fw_bw s1 x).elim
  · rcases h with ⟨x, _⟩ | ⟨_, x, _⟩ | ⟨x, y, z⟩
    · exact .inl ⟨x, bw_ad s1 s2⟩
    · exact (fw_bw x s1).elim
    · rcases k with ⟨l, _⟩ | ⟨l, _, _⟩ | ⟨_, _, m⟩
      · exact (fw_bw l x).elim
      · exact (fw_bw l x).elim
      · exact .inr (.inr ⟨x, bw_ad s1 s2, by rw [crs_adr]; omega⟩)
theorem ls_add_l {u v w : P2} (h : ls u w) (k : ls v w) (s : (fw u ∧ fw v) ∨ (bw u ∧ bw v)) : ls (ad u v) w := by
  rcases s with ⟨s1, s2⟩ | ⟨s1, s2⟩
  · rcases h with ⟨_, x⟩ | ⟨x, y, z⟩ | ⟨x, _, _⟩
    · exact .inl ⟨fw_ad s1 s2, x⟩
    · rcases k with ⟨_, l⟩ | ⟨_, _, m⟩ | ⟨_, l, _⟩
      · exact (fw_bw y l).elim
      · exact .inr (.inl ⟨fw_ad s1 s2, y, by rw [crs_adl]; omega⟩)
      · exact (fw_bw y l).elim
    · exact (fw_bw s1 x).elim
  · rcases h with ⟨x, _⟩ | ⟨x, _, _⟩ | ⟨x, y, z⟩
    · exact (fw_bw x s1).elim
    · exact (fw_bw x s1).elim
    · rcases k with ⟨l, _⟩ | ⟨l, _, _⟩ | ⟨_, _, m⟩
      · exact (fw_bw l s2).elim
      · exact (fw_bw l s2).elim
      · exact .inr (.inr ⟨bw_ad s1 s2, y, by rw [crs_adl]; omega⟩)
/-- What a step does. -/
structure Step (a b : List P2) (p q k : Nat) : Prop where
  some : ∃ u, sb (sp a b (k + 1)) (sp a b k) = u ∧ (
    (u = sd a (st a b k).1 ∧ (st a b k).1 < p ∧ st a b (k + 1) = ((st a b k).1 + 1, (st a b k).2) ∧ 0 ≤ crs (sd a (st a b k).1) (sd b (st a b k).2) ∧ ((st a b k).2 < q → ls (sd a (st a b k).1) (sd b (st a b k).2))) ∨
    (u = sd b (st a b k).2 ∧ (st a b k).2 < q ∧ st a b (k + 1) = ((st a b k).1, (st a b k).2 + 1) ∧ crs (sd a (st a b k).1) (sd b (st a b k).2) ≤ 0 ∧ ((st a b k).1 < p → ls (sd b (st a b k).2) (sd a (st a b k).1))) ∨
    (u = ad (sd a (st a b k).1) (sd b (st a b k).2) ∧ (st a b k).1 < p ∧ (st a b k).2 < q ∧ st a b (k + 1) = ((st a b k).1 + 1, (st a b k).2 + 1) ∧ crs (sd a (st a b k).1) (sd b (st a b k).2) = 0 ∧ ((fw (sd a (st a b k).1) ∧ fw (sd b (st a b k).2)) ∨ (bw (sd a (st a b k).1) ∧ bw (sd b (st a b k).2)))))
theorem step_of {a b : List P2} {p q k : Nat} (A : Sides a p) (B : Sides b q) (I : Inv a b p q (st a b k).1 (st a b k).2) (h : (st a b k).1 < p ∨ (st a b k).2 < q) : Step a b p q k := by
  have e : st a b (k + 1) = stp a b ((st a b k).1, (st a b k).2) := rfl
  refine ⟨_, rfl, ?_⟩
  unfold sp
  rw [e]
  obtain ⟨i, hi⟩ : ∃ i, (st a b k).1 = i := ⟨_, rfl⟩
  obtain ⟨j, hj⟩ : ∃ j, (st a b k).2 = j := ⟨_, rfl⟩
  rw [hi, hj] at I h ⊢
  unfold stp
  rcases step_kind A B I h with ⟨c, hi, k⟩ | ⟨c, hj, k⟩ | ⟨c, hi, hj, k⟩
  · simp only [if_pos (show 0 ≤ crs (sd a i) (sd b j) by omega), if_neg (show ¬ crs (sd a i) (sd b j) ≤ 0 by omega)]
    refine .inl ⟨?_, hi, trivial, by omega, k⟩
    unfold sd ad sb
    exact Prod.ext (by simp only; omega) (by simp only; omega)
  · simp only [if_neg (show ¬ 0 ≤ crs (sd a i) (sd b j) by omega), if_pos (show crs (sd a i) (sd b j) ≤ 0 by omega)]
    refine .inr (.inl ⟨?_, hj, trivial, by omega, k⟩)
    unfold sd ad sb
    exact Prod.ext (by simp only; omega) (by simp only; omega)
  · simp only [if_pos (show 0 ≤ crs (sd a i) (sd b j) by omega), if_pos (show crs (sd a i) (sd b j) ≤ 0 by omega)]
    refine .inr (.inr ⟨?_, hi, hj, trivial, c, k⟩)
    unfold sd ad sb
    exact Prod.ext (by simp only; omega) (by simp only; omega)
theorem dir_a {a b : List P2} {p q i j : Nat} (A : Sides a p) (B : Sides b q) (I : Inv a b p q i j) (hi : i < p) (hc : 0 ≤ crs (sd a i) (sd b j)) : ∀ x ∈ a, ∀ y ∈ b, 0 ≤ crs (sd a i) (sb (ad x y) (ad (gc a i) (gc b j))) := fun x hx y hy => by
  have l1 := A.left i x hx
  have l2 := left_b A B I hi hc y hy
  have e : crs (sd a i) (sb (ad x y) (ad (gc a i) (gc b j))) = crs (sd a i) (sb x (gc a i)) + crs (sd a i) (sb y (gc b j)) := by
    rw [crs_sb, crs_adr, crs_adr, crs_sb, crs_sb]; omega
  omega
theorem dir_b {a b : List P2} {p q i j : Nat} (A : Sides a p) (B : Sides b q) (I : Inv a b p q i j) (hj : j < q) (hc : crs (sd a i) (sd b j) ≤ 0) : ∀ x ∈ a, ∀ y ∈ b, 0 ≤ crs (sd b j) (sb (ad x y) (ad (gc a i) (gc b j))) := fun x hx y hy => by
  have := dir_a B A I.swap hj (by rw [crs_swap]; omega) y hy x hx
  rwa [ad_comm y x, ad_comm (gc b j) (gc a i)] at this
theorem sup_of {a b : List P2} {w P q : P2} (h : ∀ x ∈ a, ∀ y ∈ b, 0 ≤ crs w (sb (ad x y) P)) (s : ∃ x ∈ a, ∃ y ∈ b, crs w (ad x y) ≤ crs w q) : 0 ≤ crs w (sb q P) := by
  obtain ⟨x, hx, y, hy, e⟩ := s
  have := h x hx y hy
  rw [crs_sb] at this ⊢
  omega
end Go.Proofs.Gx
namespace Go.Proofs.Gx
theorem path_both {a b : List P2} (Pa : Poly a) (Pb : Poly b) {p q : Nat} (hp : a.length = p) (hq : b.length = q) (p2 : 2 ≤ p) (q2 : 2 ≤ q) :
    ∃ K, K ≤ p + q ∧ Over a b K ∧ (∀ j, j < K → ¬ Over a b j) ∧ 2 ≤ K ∧ sp a b K = sp a b 0 ∧ Path a b (spL a b K) := by
  have A := sides_of Pa hp p2
  have B := sides_of Pb hq q2
  obtain ⟨K, hK, hov, hno⟩ := over_ex A B
  have inv : ∀ k, k ≤ K → Inv a b p q (st a b k).1 (st a b k).2 := fun k hk => run_inv A B k fun j hj => hno j (by omega)
  have more : ∀ k, k < K → (st a b k).1 < p ∨ (st a b k).2 < q := fun k hk => by
    have := hno k hk
    unfold Over at this
    rw [ns_two hp p2, ns_two hq q2] at this
    omega
  have S : ∀ k, k < K → Step a b p q k := fun k hk => step_of A B (inv k (by omega)) (more k hk)
  have eI := inv K (Nat.le_refl _)
  have eK : (st a b K).1 = p ∧ (st a b K).2 = q := by
    have h := hov
    unfold Over at h
    rw [ns_two hp p2, ns_two hq q2] at h
    have := eI.ia; have := eI.jb
    omega
  have K2 : 2 ≤ K := by have := st_le a b K; omega
  have cyc : sp a b K = sp a b 0 := by
    unfold sp
    rw [eK.1, eK.2]
    have h1 := gc_add a 0
    have h2 := gc_add b 0
    rw [hp, Nat.zero_add] at h1
    rw [hq, Nat.zero_add] at h2
    rw [h1, h2]
    rfl
  have sdk : ∀ k, k < K → sd (spL a b K) k = sb (sp a b (k + 1)) (sp a b k) := fun k hk => sd_spL hk cyc
  have lf : ∀ k, k < K → ∀ x ∈ a, ∀ y ∈ b, 0 ≤ crs (sd (spL a b K) k) (sb (ad x y) (sp a b k)) := fun k hk x hx y hy => by
    rw [sdk k hk]
    obtain ⟨u, e, h⟩ := (S k hk).some
    rw [e]
    have I := inv k (by omega)
    unfold sp
    rcases h with ⟨rfl, hi, _, hc, _⟩ | ⟨rfl, hj, _, hc, _⟩ | ⟨rfl, hi, hj, _, hc, _⟩
    · exact dir_a A B I hi hc x hx y hy
    · exact dir_b A B I hj hc x hx y hy
    · have := dir_a A B I hi (by omega) x hx y hy
      have := dir_b A B I hj (by omega) x hx y hy
      rw [crs_adl]
      omega
  refine ⟨K, hK, hov, hno, K2, cyc, ⟨by rw [spL_len]; omega, ?_, ?_, ?_, ?_, ?_, ?_, ?_, ?_, ?_, ?_⟩⟩
  · intro r hr
    obtain ⟨k, hk, rfl⟩ := mem_g hr
    rw [spL_len] at hk
    rw [g_spL hk]
    exact ⟨_, gc_mem Pa.ne _, _, gc_mem Pb.ne _, rfl⟩
  · intro k hk
    rw [spL_len] at hk
    rw [g_spL (by omega), g_spL hk]
    have I := inv (k + 1) (by omega)
    have l := st_le a b (k + 1)
    have m := more (k + 1) hk
    show lt2 (ad (gc a 0) (gc b 0)) (ad (gc a (st a b (k + 1)).1) (gc b (st a b (k + 1)).2))
    obtain ⟨i, hi⟩ : ∃ i, (st a b (k + 1)).1 = i := ⟨_, rfl⟩
    obtain ⟨j, hj⟩ : ∃ j, (st a b (k + 1)).2 = j := ⟨_, rfl⟩
    rw [hi, hj] at I l m ⊢
    have ia := I.ia
    have jb := I.jb
    have ga : ∀ i, i ≤ p → le2 (gc a 0) (gc a i) := fun i _ => by rw [gc_lt (by omega)]; exact le2_first Pa.toIsH (gc_mem Pa.ne i)
    have gb : ∀ i, i ≤ q → le2 (gc b 0) (gc b i) := fun i _ => by rw [gc_lt (by omega)]; exact le2_first Pb.toIsH (gc_mem Pb.ne i)
    by_cases c1 : 0 < i ∧ i < p
    · have := corner_split Pa.toIsH (i := i) (by omega) (by omega)
      rw [ad_comm, ad_comm (gc a i), gc_lt (h := a) (i := 0) (by omega), gc_lt (h := a) (i := i) (by omega)]
      exact lt2_ad2 (gb j jb) this
    · by_cases c2 : 0 < j ∧ j < q
      · have := corner_split Pb.toIsH (i := j) (by omega) (by omega)
        rw [gc_lt (h := b) (i := 0) (by omega), gc_lt (h := b) (i := j) (by omega)]
        exact lt2_ad2 (ga i ia) this
      · exfalso
        have cases : (i = p ∧ j = 0) ∨ (i = 0 ∧ j = q) := by omega
        rcases cases with ⟨e1, e2⟩ | ⟨e1, e2⟩
        · have := I.ab (by omega) (by omega)
          rw [e1, e2] at this
          rcases this with ⟨x, _⟩ | ⟨x, _, _⟩ | ⟨_, x, _⟩
          · exact fw_bw x A.sl
          · exact fw_bw x A.sl
          · exact fw_bw B.s0 x
        · have := I.ba (by omega) (by omega)
          rw [e1, e2] at this
          rcases this with ⟨x, _⟩ | ⟨x, _, _⟩ | ⟨_, x, _⟩
          · exact fw_bw x B.sl
          · exact fw_bw x B.sl
          · exact fw_bw A.s0 x
  · intro x hx y hy
    rw [g_spL (by omega)]
    show le2 (ad (gc a 0) (gc b 0)) (ad x y)
    rw [gc_lt (by omega), gc_lt (by omega)]
    exact le2_ad (le2_first Pa.toIsH hx) (le2_first Pb.toIsH hy)
  · intro k hk x hx y hy
    rw [spL_len] at hk
    rw [g_spL hk]
    exact lf k hk x hx y hy
  · intro k hk r s
    rw [spL_len] at hk
    rw [g_spL hk, sdk k hk]
    obtain ⟨u, e, h⟩ := (S k hk).some
    rw [e]
    have I := inv k (by omega)
    unfold sp
    rcases h with ⟨rfl, hi, _, hc, _⟩ | ⟨rfl, hj, _, hc, _⟩ | ⟨rfl, hi, hj, _, hc, _⟩
    · exact sup_of (dir_a A B I hi hc) (s.1 _)
    · exact sup_of (dir_b A B I hj hc) (s.2 _)
    · have := sup_of (dir_a A B I hi (by omega)) (s.1 _)
      have := sup_of (dir_b A B I hj (by omega)) (s.2 _)
      rw [crs_adl]
      omega
  · intro k hk
    rw [spL_len] at hk
    rw [sdk k (by omega), sdk (k + 1) hk]
    obtain ⟨u, e, h⟩ := (S k (by omega)).some
    obtain ⟨v, f, h'⟩ := (S (k + 1) hk).some
    rw [e, f]
    -- the side that was taken is ahead of both that may be taken next
    have X : ((st a b (k + 1)).1 < p → ls u (sd a (st a b (k + 1)).1)) ∧ ((st a b (k + 1)).2 < q → ls u (sd b (st a b (k + 1)).2)) := by
      rcases h with ⟨rfl, hi, hs, _, hl⟩ | ⟨rfl, hj, hs, _, hl⟩ | ⟨rfl, hi, hj, hs, hc, hl⟩
      · rw [hs]
        exact ⟨fun z => sd_ls A z, hl⟩
      · rw [hs]
        exact ⟨hl, fun z => sd_ls B z⟩
      · rw [hs]
        exact ⟨fun z => ls_add_l (sd_ls A z) (lq_ls (lq_same (by rw [crs_swap]; omega) (hl.imp And.symm And.symm)) (sd_ls A z)) hl,
          fun z => ls_add_l (lq_ls (lq_same hc hl) (sd_ls B z)) (sd_ls B z) hl⟩
    rcases h' with ⟨rfl, hi, _, _, _⟩ | ⟨rfl, hj, _, _, _⟩ | ⟨rfl, hi, hj, _, _, hl⟩
    · exact X.1 hi
    · exact X.2 hj
    · exact ls_add_r (X.1 hi) (X.2 hj) hl
  · intro _
    rw [sdk 0 (by omega)]
    obtain ⟨u, e, h⟩ := (S 0 (by omega)).some
    rw [e]
    rcases h with ⟨rfl, _⟩ | ⟨rfl, _⟩ | ⟨rfl, _⟩
    · exact A.s0
    · exact B.s0
    · exact fw_ad A.s0 B.s0
  · intro _
    rw [spL_len, sdk _ (by omega)]
    obtain ⟨u, e, h⟩ := (S (K - 1) (by omega)).some
    rw [e]
    rw [show K - 1 + 1 = K by omega] at h
    have ek : st a b K = (p, q) := Prod.ext eK.1 eK.2
    rw [ek] at h
    obtain ⟨i, hi⟩ : ∃ i, (st a b (K - 1)).1 = i := ⟨_, rfl⟩
    obtain ⟨j, hj⟩ : ∃ j, (st a b (K - 1)).2 = j := ⟨_, rfl⟩
    rw [hi, hj] at h
    rcases h with ⟨rfl, _, hs, _⟩ | ⟨rfl, _, hs, _⟩ | ⟨rfl, _, _, hs, _⟩
    · have := (Prod.mk.inj hs).1
      rw [show i = p - 1 by omega]
      exact A.sl
    · have := (Prod.mk.inj hs).2
      rw [show j = q - 1 by omega]
      exact B.sl
    · have := (Prod.mk.inj hs).1
      have := (Prod.mk.inj hs).2
      rw [show i = p - 1 by omega, show j = q - 1 by omega]
      exact bw_ad A.sl B.sl
  · intro hl x hx y hy
    rw [spL_len] at hl
    subst hl
    have l2 := st_le a b 2
    have l1 := st_le a b 1
    have s1 := stp_le a b (st a b 1).1 (st a b 1).2
    have e : st a b 2 = stp a b ((st a b 1).1, (st a b 1).2) := rfl
    rw [← e] at s1
    have hp2 : p = 2 := by omega
    have hq2 : q = 2 := by omega
    rw [g_spL (by omega)]
    unfold sp
    rw [show (st a b 1).1 = 1 by omega, show (st a b 1).2 = 1 by omega]
    exact le2_ad (le2_second Pa.toIsH (by omega) hx) (le2_second Pb.toIsH (by omega) hy)
  · intro hl
    rw [spL_len] at hl
    omega
/-- The walk around two hulls: where it ends, and what it leaves. -/
structure Walk (a b : List P2) (K : Nat) : Prop where
  most : K ≤ ns a + ns b
  over : Over a b K
  more : ∀ j, j < K → ¬ Over a b j
  path : Path a b (spL a b (max 1 K))
theorem walk_ex {a b : List P2} (Pa : Poly a) (Pb : Poly b) : ∃ K, Walk a b K := by
  have la : 0 < a.length := List.length_pos_iff.2 Pa.ne
  have lb : 0 < b.length := List.length_pos_iff.2 Pb.ne
  by_cases ha : a.length = 1
  · have na : ns a = 0 := by unfold ns; rw [if_pos ha]
    have so := st_single (b := b) ha
    by_cases hb : b.length = 1
    · have nb : ns b = 0 := by unfold ns; rw [if_pos hb]
      refine ⟨0, Nat.zero_le _, by unfold Over; rw [na, nb, so]; simp, fun j hj => by omega, ?_⟩
      have e : spL a b (max 1 0) = [ad (g a 0) (g b 0)] := by
        show [sp a b 0] = _
        unfold sp
        rw [so, gc_lt la, gc_lt lb]
      obtain ⟨x, rfl⟩ := List.length_eq_one_iff.1 ha
      obtain ⟨y, rfl⟩ := List.length_eq_one_iff.1 hb
      rw [e]
      show Path [x] [y] [ad x y]
      have z : ∀ k, k < 1 → sd [ad x y] k = (0, 0) := fun k _ => sd_single rfl k
      refine ⟨by simp, fun r hr => ⟨x, by simp, y, by simp, by simpa using hr⟩, fun k hk => by simp at hk, ?_, ?_, ?_, fun k hk => by simp at hk, fun h => by simp at h, fun h => by simp at h, fun h => by simp at h, fun _ => ⟨rfl, rfl⟩⟩
      · intro x' hx y' hy
        rw [List.mem_singleton.1 hx, List.mem_singleton.1 hy]
        exact .inl rfl
      · intro k hk x' _ y' _
        rw [z k (by simpa using hk), crs_zero]
        exact Int.le_refl _
      · intro k hk q _
        rw [z k (by simpa using hk), crs_zero]
        exact Int.le_refl _
    · have nb : ns b = b.length := by unfold ns; rw [if_neg hb]
      refine ⟨b.length, by omega, by unfold Over; rw [na, nb, so]; simp, fun j hj => by unfold Over; rw [na, nb, so]; simp; omega, ?_⟩
      rw [show max 1 b.length = b.length by omega]
      exact path_single ha Pb rfl (by omega)
  · by_cases hb : b.length = 1
    · have nb : ns b = 0 := by unfold ns; rw [if_pos hb]
      have na : ns a = a.length := by unfold ns; rw [if_neg ha]
      have so : ∀ k, st a b k = (k, k) := fun k => by rw [st_swap b a, st_single hb]
      refine ⟨a.length, by omega, by unfold Over; rw [na, nb, so]; simp, fun j hj => by unfold Over; rw [na, nb, so]; simp; omega, ?_⟩
      rw [show max 1 a.length = a.length by omega, ← spL_swap]
      exact (path_single hb Pa rfl (by omega)).swap
    · obtain ⟨K, h1, h2, h3, h4, _, h6⟩ := path_both Pa Pb rfl rfl (by omega) (by omega)
      refine ⟨K, ?_, h2, h3, by rw [show max 1 K = K by omega]; exact h6⟩
      rw [ns_two rfl (by omega), ns_two rfl (by omega)]
      exact h1
end Go.Proofs.Gx
namespace Go.Proofs.Gx
/-- The corners from l on, all turned about (0, 0). -/
def opL (b : List P2) (l : Nat) : List P2 := (List.range b.length).map fun i => ng (gc b (l + i))
theorem opL_len (b : List P2) (l : Nat) : (opL b l).length = b.length := by simp [opL]
theorem g_opL {b : List P2} {l i : Nat} (h : i < b.length) : g (opL b l) i = ng (gc b (l + i)) := by
  rw [g_eq (by rw [opL_len]; exact h)]
  simp [opL]
theorem gc_opL {b : List P2} (h0 : 0 < b.length) (l i : Nat) : gc (opL b l) i = ng (gc b (l + i)) := by
  have e : gc (opL b l) i = g (opL b l) (i % b.length) := by unfold gc; rw [opL_len]
  rw [e, g_opL (Nat.mod_lt _ h0)]
  congr 1
  unfold gc
  rw [Nat.add_mod_mod]
theorem mem_opL {b : List P2} (hb : b ≠ []) (l : Nat) (x : P2) : x ∈ opL b l ↔ ng x ∈ b := by
  have h0 : 0 < b.length := List.length_pos_iff.2 hb
  constructor
  · intro h
    obtain ⟨i, _, rfl⟩ := List.mem_map.1 h
    rw [ng_ng]
    exact gc_mem hb _
  · intro h
    obtain ⟨j, hj, e⟩ := mem_g h
    have : gc b (l + (j + b.length - l % b.length)) = g b j := by
      have hm := Nat.mod_lt l h0
      unfold gc
      have d := Nat.div_add_mod l b.length
      have e2 : l + (j + b.length - l % b.length) = j + b.length * (l / b.length + 1) := by rw [Nat.mul_add]; omega
      rw [e2, Nat.add_mul_mod_self_left, Nat.mod_eq_of_lt hj]
    have e3 : gc (opL b l) (j + b.length - l % b.length) = x := by rw [gc_opL h0, this, e, ng_ng]
    rw [← e3]
    exact gc_mem (List.length_pos_iff.1 (by rw [opL_len]; exact h0)) _
/-- If l is the last corner of the order, these are a polygon. -/
theorem opL_poly {b : List P2} (P : Poly b) {l : Nat} (hl : l < b.length) (most : ∀ x ∈ b, le2 x (g b l)) : Poly (opL b l) := by
  have h0 : 0 < b.length := by omega
  have ne := P.ne
  refine poly_of (List.length_pos_iff.1 (by rw [opL_len]; exact h0)) ?_ ?_ ?_
  · intro i hi
    rw [opL_len] at hi
    rw [g_opL h0, g_opL hi, lt2_ng, show l + 0 = l from rfl, gc_lt hl]
    have m := most _ (gc_mem ne (l + (i + 1)))
    rcases m with m | m
    · exfalso
      have hm : (l + (i + 1)) % b.length ≠ l := by
        intro e
        rcases Nat.lt_or_ge (l + (i + 1)) b.length with c | c
        · rw [Nat.mod_eq_of_lt c] at e; omega
        · have e2 : l + (i + 1) = (l + (i + 1) - b.length) + b.length := by omega
          rw [e2, Nat.add_mod_right, Nat.mod_eq_of_lt (by omega)] at e
          omega
      have hlt := Nat.mod_lt (l + (i + 1)) h0
      unfold gc at m
      rcases Nat.lt_or_ge l ((l + (i + 1)) % b.length) with c | c
      · exact corners_ne P.toIsH c hlt m.symm
      · exact corners_ne P.toIsH (show (l + (i + 1)) % b.length < l by omega) hl m
    · exact m
  · intro q hq i hi
    rw [opL_len] at hi
    have hq2 := (mem_opL ne l q).1 hq
    rw [g_opL hi, gc_opL h0, ← ng_ng q, dt_ng]
    have := P.left _ hq2 ((l + i) % b.length) (Nat.mod_lt _ h0)
    have e : gc b ((l + i) % b.length + 1) = gc b (l + (i + 1)) := by unfold gc; rw [Nat.mod_add_mod, Nat.add_assoc]
    rw [e] at this
    exact this
  · intro h3 i hi
    rw [opL_len] at hi h3
    rw [g_opL hi, gc_opL h0, gc_opL h0, dt_ng]
    have := P.turn h3 ((l + i) % b.length) (Nat.mod_lt _ h0)
    have e : gc b ((l + i) % b.length + 1) = gc b (l + (i + 1)) := by unfold gc; rw [Nat.mod_add_mod, Nat.add_assoc]
    have e2 : gc b ((l + i) % b.length + 2) = gc b (l + (i + 2)) := by unfold gc; rw [Nat.mod_add_mod, Nat.add_assoc]
    rw [e, e2] at this
    exact this
/-- In each direction a difference is not behind. -/
def Diffs (a b : List P2) (q : P2) : Prop := ∀ w, ∃ x ∈ a, ∃ y ∈ b, crs w (sb x y) ≤ crs w q
theorem ad_ng (x y : P2) : ad x (ng y) = sb x y := by unfold ad ng sb; exact Prod.ext (by simp only; omega) (by simp only; omega)
theorem sums_diffs {a b : List P2} (hb : b ≠ []) (l : Nat) (q : P2) : Sums a (opL b l) q ↔ Diffs a b q := by
  constructor
  · intro h w
    obtain ⟨x, hx, y, hy, e⟩ := h w
    exact ⟨x, hx, ng y, (mem_opL hb l y).1 hy, by rw [← ad_ng, ng_ng]; exact e⟩
  · intro h w
    obtain ⟨x, hx, y, hy, e⟩ := h w
    exact ⟨x, hx, ng y, (mem_opL hb l _).2 (by rw [ng_ng]; exact hy), by rw [ad_ng]; exact e⟩
/-- The differences, as a polygon D. -/
structure Diff (a b D : List P2) : Prop where
  poly : Poly D
  cont : ∀ q, Cont D q ↔ Diffs a b q
  mem : ∀ r ∈ D, ∃ x ∈ a, ∃ y ∈ b, r = sb x y
  sc : ∀ x ∈ a, ∀ y ∈ b, SC D (sb x y)
theorem diff_of {a b L : List P2} (hb : b ≠ []) {l : Nat} (h : Path a (opL b l) L) : Diff a b L where
  poly := path_poly h
  cont q := (path_cont h q).trans (sums_diffs hb l q)
  mem r hr := by
    obtain ⟨x, hx, y, hy, e⟩ := h.mem r hr
    exact ⟨x, hx, ng y, (mem_opL hb l y).1 hy, by rw [← ad_ng, ng_ng]; exact e⟩
  sc x hx y hy := by
    have := path_sc h hx ((mem_opL hb l (ng y)).2 (by rw [ng_ng]; exact hy))
    rwa [ad_ng] at this
theorem diffs_swap {a b : List P2} : Diffs a b (0, 0) ↔ Diffs b a (0, 0) := by
  have key : ∀ {a b : List P2}, Diffs a b (0, 0) → Diffs b a (0, 0) := fun {a b} h w => by
    obtain ⟨x, hx, y, hy, e⟩ := h (ng w)
    refine ⟨y, hy, x, hx, ?_⟩
    have e1 : crs (ng w) (sb x y) = crs w (sb y x) := by unfold crs ng sb; grind
    have e2 : crs (ng w) (0, 0) = crs w (0, 0) := by unfold crs ng; simp
    omega
  exact ⟨key, key⟩
end Go.Proofs.Gx
namespace Go.Proofs.Gx
/-- The size of a direction. -/
def nm (u : P2) : Int := (u.1.natAbs : Int) + (u.2.natAbs : Int)
/-- Grown by t it contains (0, 0). -/
def Rm (D : List P2) (t : Int) : Prop := ∀ w, ∃ r ∈ D, crs w r ≤ t * nm w
/-- The hull of what is at most t away, in X and in Y. -/
def sq (t : Int) : List P2 := [(-t, -t), (t, -t), (t, t), (-t, t)]
theorem sq_mem {t : Int} {x : P2} : x ∈ sq t ↔ x = (-t, -t) ∨ x = (t, -t) ∨ x = (t, t) ∨ x = (-t, t) := by simp [sq]
theorem sq_four (t : Int) : gc (sq t) (3 + 1) = (-t, -t) := by unfold gc; rw [show (sq t).length = 4 from rfl]; rfl
theorem sq_four2 (t : Int) : gc (sq t) (2 + 2) = (-t, -t) := sq_four t
theorem sq_five (t : Int) : gc (sq t) (3 + 2) = (t, -t) := by unfold gc; rw [show (sq t).length = 4 from rfl]; rfl
theorem sq_three (t : Int) : gc (sq t) (2 + 1) = (-t, t) := by unfold gc; rw [show (sq t).length = 4 from rfl]; rfl
theorem sq_poly {t : Int} (h : 0 < t) : Poly (sq t) := by
  have tt := Int.mul_pos h h
  refine poly_of (by simp [sq]) ?_ ?_ ?_
  · intro i hi
    have hl : (sq t).length = 4 := rfl
    rw [hl] at hi
    match i, hi with
    | 0, _ => exact .inl (show -t < t by omega)
    | 1, _ => exact .inl (show -t < t by omega)
    | 2, _ => exact .inr ⟨rfl, show -t < t by omega⟩
  · intro q hq i hi
    have hl : (sq t).length = 4 := rfl
    rw [hl] at hi
    have key : ∀ a b : P2, (a = (-t, -t) ∧ b = (t, -t)) ∨ (a = (t, -t) ∧ b = (t, t)) ∨ (a = (t, t) ∧ b = (-t, t)) ∨ (a = (-t, t) ∧ b = (-t, -t)) → 0 ≤ dt a b q := by
      intro a b hab
      rcases sq_mem.1 hq with rfl | rfl | rfl | rfl <;> rcases hab with ⟨rfl, rfl⟩ | ⟨rfl, rfl⟩ | ⟨rfl, rfl⟩ | ⟨rfl, rfl⟩ <;> (unfold dt; simp only; grind)
    match i, hi with
    | 0, _ => exact key _ _ (.inl ⟨rfl, rfl⟩)
    | 1, _ => exact key _ _ (.inr (.inl ⟨rfl, rfl⟩))
    | 2, _ => exact key _ _ (.inr (.inr (.inl ⟨rfl, rfl⟩)))
    | 3, _ => rw [sq_four]; exact key _ _ (.inr (.inr (.inr ⟨rfl, rfl⟩)))
  · intro _ i hi
    have hl : (sq t).length = 4 := rfl
    rw [hl] at hi
    match i, hi with
    | 0, _ => show 0 < dt (-t, -t) (t, -t) (t, t); unfold dt; simp only; grind
    | 1, _ => show 0 < dt (t, -t) (t, t) (-t, t); unfold dt; simp only; grind
    | 2, _ => rw [sq_three, sq_four2]; show 0 < dt (t, t) (-t, t) (-t, -t); unfold dt; simp only; grind
    | 3, _ => rw [sq_four, sq_five]; show 0 < dt (-t, t) (-t, -t) (t, -t); unfold dt; simp only; grind
/-- In each direction the square reaches t times its size. -/
theorem sq_reach {t : Int} (h : 0 ≤ t) (w : P2) : (∃ y ∈ sq t, crs w y = - (t * nm w)) ∧ ∀ y ∈ sq t, - (t * nm w) ≤ crs w y := by
  obtain ⟨a, b⟩ := w
  have ha : (a.natAbs : Int) = a ∨ (a.natAbs : Int) = -a := by omega
  have hb : (b.natAbs : Int) = b ∨ (b.natAbs : Int) = -b := by omega
  have ta : 0 ≤ t * (a.natAbs : Int) := Int.mul_nonneg h (by omega)
  have tb : 0 ≤ t * (b.natAbs : Int) := Int.mul_nonneg h (by omega)
  constructor
  · rcases ha with ha | ha <;> rcases hb with hb | hb
    · exact ⟨(t, -t), by simp [sq], by unfold crs nm; simp only; rw [ha, hb]; grind⟩
    · exact ⟨(-t, -t), by simp [sq], by unfold crs nm; simp only; rw [ha, hb]; grind⟩
    · exact ⟨(t, t), by simp [sq], by unfold crs nm; simp only; rw [ha, hb]; grind⟩
    · exact ⟨(-t, t), by simp [sq], by unfold crs nm; simp only; rw [ha, hb]; grind⟩
  · intro y hy
    have e : t * nm (a, b) = t * (a.natAbs : Int) + t * (b.natAbs : Int) := by unfold nm; simp only; rw [Int.mul_add]
    rw [e]
    rcases ha with ha | ha <;> rcases hb with hb | hb <;> rw [ha] at ta ⊢ <;> rw [hb] at tb ⊢ <;> rcases sq_mem.1 hy with rfl | rfl | rfl | rfl <;> (unfold crs; simp only; grind)
/-- With a hull grown by t: sums of its points and those of the square. -/
theorem rm_sums {D : List P2} {t : Int} (h : 0 ≤ t) : Rm D t ↔ Sums D (sq t) (0, 0) := by
  have z : ∀ w : P2, crs w (0, 0) = 0 := fun w => by unfold crs; simp
  constructor
  · intro r w
    obtain ⟨x, hx, e⟩ := r w
    obtain ⟨⟨y, hy, f⟩, _⟩ := sq_reach h w
    exact ⟨x, hx, y, hy, by rw [crs_adr, z]; omega⟩
  · intro s w
    obtain ⟨x, hx, y, hy, e⟩ := s w
    rw [crs_adr, z] at e
    have := (sq_reach h w).2 y hy
    exact ⟨x, hx, by omega⟩
/-- It is enough to look at the box and at the sides. -/
theorem rm_iff {D : List P2} (P : Poly D) {t : Int} (h : 0 ≤ t) :
    Rm D t ↔ ((∃ r ∈ D, r.1 ≤ t) ∧ (∃ r ∈ D, -r.1 ≤ t) ∧ (∃ r ∈ D, r.2 ≤ t) ∧ (∃ r ∈ D, -r.2 ≤ t)) ∧ (D.length ≠ 1 → ∀ k, k < D.length → crs (sd D k) (g D k) ≤ t * nm (sd D k)) := by
  constructor
  · intro r
    refine ⟨⟨?_, ?_, ?_, ?_⟩, fun _ k hk => ?_⟩
    · obtain ⟨q, hq, e⟩ := r (0, -1)
      exact ⟨q, hq, by unfold crs nm at e; simp at e; omega⟩
    · obtain ⟨q, hq, e⟩ := r (0, 1)
      exact ⟨q, hq, by unfold crs nm at e; simp at e; omega⟩
    · obtain ⟨q, hq, e⟩ := r (1, 0)
      exact ⟨q, hq, by unfold crs nm at e; simp at e; omega⟩
    · obtain ⟨q, hq, e⟩ := r (-1, 0)
      exact ⟨q, hq, by unfold crs nm at e; simp at e; omega⟩
    · obtain ⟨q, hq, e⟩ := r (sd D k)
      have l := P.left q hq k hk
      rw [dt_eq, ← sd_lt hk, crs_sb] at l
      omega
  · rintro ⟨⟨⟨r1, h1, e1⟩, ⟨r2, h2, e2⟩, ⟨r3, h3, e3⟩, ⟨r4, h4, e4⟩⟩, hs⟩
    have z : ∀ w : P2, crs w (0, 0) = 0 := fun w => by unfold crs; simp
    rcases Int.lt_or_eq_of_le h with ht | ht
    · obtain ⟨K, hK⟩ := walk_ex P (sq_poly ht)
      rw [rm_sums h, ← path_cont hK.path]
      have box : ∀ w : P2, (∃ r ∈ D, crs w r ≤ t * nm w) → ∃ x ∈ D, ∃ y ∈ sq t, crs w (ad x y) ≤ crs w (0, 0) := fun w ⟨r, hr, e⟩ => by
        obtain ⟨⟨y, hy, f⟩, _⟩ := sq_reach h w
        exact ⟨r, hr, y, hy, by rw [crs_adr, z]; omega⟩
      have b1 : ∃ r ∈ D, crs (0, -1) r ≤ t * nm (0, -1) := ⟨r1, h1, by unfold crs nm; simp; omega⟩
      have b2 : ∃ r ∈ D, crs (0, 1) r ≤ t * nm (0, 1) := ⟨r2, h2, by unfold crs nm; simp; omega⟩
      have b3 : ∃ r ∈ D, crs (1, 0) r ≤ t * nm (1, 0) := ⟨r3, h3, by unfold crs nm; simp; omega⟩
      have b4 : ∃ r ∈ D, crs (-1, 0) r ≤ t * nm (-1, 0) := ⟨r4, h4, by unfold crs nm; simp; omega⟩
      refine path_sup hK.path ⟨fun i => ?_, fun j => ?_⟩ ?_
      · refine box _ ?_
        by_cases hl : D.length = 1
        · rw [sd_single hl]
          exact ⟨r1, h1, by rw [crs_zero]; unfold nm; simp⟩
        · have p0 : 0 < D.length := List.length_pos_iff.2 P.ne
          rw [sd_mod p0 i]
          exact ⟨_, g_mem (Nat.mod_lt _ p0), hs hl _ (Nat.mod_lt _ p0)⟩
      · have scale : ∀ (u w : P2) (c : Int), 0 ≤ c → w = (c * u.1, c * u.2) → (∃ x ∈ D, ∃ y ∈ sq t, crs u (ad x y) ≤ crs u (0, 0)) → ∃ x ∈ D, ∃ y ∈ sq t, crs w (ad x y) ≤ crs w (0, 0) := fun u w c hc e ⟨x, hx, y, hy, f⟩ => by
          refine ⟨x, hx, y, hy, ?_⟩
          rw [z] at f ⊢
          have : crs w (ad x y) = c * crs u (ad x y) := by rw [e]; unfold crs; simp only; grind
          rw [this]
          have := Int.mul_nonneg hc (show 0 ≤ - crs u (ad x y) by omega)
          rw [Int.mul_neg] at this
          omega
        have p0 : 0 < (sq t).length := by simp [sq]
        rw [sd_mod p0 j]
        have hj : j % (sq t).length < 4 := Nat.mod_lt _ p0
        obtain ⟨m, hm⟩ : ∃ m, j % (sq t).length = m := ⟨_, rfl⟩
        rw [hm] at hj ⊢
        match m, hj with
        | 0, _ => exact scale (1, 0) _ (2 * t) (by omega) (show sb (t, -t) (-t, -t) = _ from Prod.ext (by unfold sb; simp only; omega) (by unfold sb; simp only; omega)) (box _ b3)
        | 1, _ => exact scale (0, 1) _ (2 * t) (by omega) (show sb (t, t) (t, -t) = _ from Prod.ext (by unfold sb; simp only; omega) (by unfold sb; simp only; omega)) (box _ b2)
        | 2, _ => exact scale (-1, 0) _ (2 * t) (by omega) (show sb (-t, t) (t, t) = _ from Prod.ext (by unfold sb; simp only; omega) (by unfold sb; simp only; omega)) (box _ b4)
        | 3, _ => exact scale (0, -1) _ (2 * t) (by omega) (by unfold sd; rw [sq_four]; exact (show sb (-t, -t) (-t, t) = (2 * t * 0, 2 * t * -1) from Prod.ext (by unfold sb; simp only; omega) (by unfold sb; simp only; omega))) (box _ b1)
      · rintro w (rfl | rfl | rfl | rfl)
        · exact box _ b1
        · exact box _ b2
        · exact box _ b3
        · exact box _ b4
    · subst ht
      have c : Cont D (0, 0) := by
        refine ⟨⟨⟨r1, h1, e1⟩, ⟨r2, h2, by show 0 ≤ r2.1; omega⟩, ⟨r3, h3, e3⟩, ⟨r4, h4, by show 0 ≤ r4.2; omega⟩⟩, fun hl i hi => ?_⟩
        have := hs hl i hi
        rw [dt_eq, ← sd_lt hi, crs_sb, z]
        rw [Int.zero_mul] at this
        omega
      intro w
      obtain ⟨r, hr, e⟩ := (cont_iff P).1 c w
      exact ⟨r, hr, by rw [Int.zero_mul]; rw [z] at e; exact e⟩
/-- Two hulls, of which the one, grown by t, meets the other one. -/
def Room (a b : List P2) (t : Int) : Prop := ∀ w, ∃ x ∈ a, ∃ y ∈ b, crs w (sb x y) ≤ t * nm w
theorem room_diff {a b D : List P2} (h : Diff a b D) (t : Int) : Room a b t ↔ Rm D t := by
  constructor
  · intro r w
    obtain ⟨x, hx, y, hy, e⟩ := r w
    obtain ⟨q, hq, f⟩ := h.sc x hx y hy w
    exact ⟨q, hq, Int.le_trans f e⟩
  · intro r w
    obtain ⟨q, hq, e⟩ := r w
    obtain ⟨x, hx, y, hy, rfl⟩ := h.mem q hq
    exact ⟨x, hx, y, hy, e⟩
theorem room_swap {a b : List P2} {t : Int} (r : Room a b t) : Room b a t := fun w => by
  obtain ⟨x, hx, y, hy, e⟩ := r (ng w)
  refine ⟨y, hy, x, hx, ?_⟩
  have e1 : crs (ng w) (sb x y) = crs w (sb y x) := by unfold crs ng sb; grind
  have e2 : nm (ng w) = nm w := by unfold nm ng; simp
  rw [e1, e2] at e
  exact e
theorem room_zero {a b : List P2} : Room a b 0 ↔ Diffs a b (0, 0) := by
  have z : ∀ w : P2, crs w (0, 0) = 0 := fun w => by unfold crs; simp
  unfold Room Diffs
  simp only [z, Int.zero_mul]
/-- The gap. -/
structure IsGap (a b : List P2) (n : Int) : Prop where
  nonneg : 0 ≤ n
  room : ∀ t, 0 ≤ t → (n ≤ t ↔ Room a b t)
theorem IsGap.swap {a b : List P2} {n : Int} (h : IsGap a b n) : IsGap b a n := ⟨h.nonneg, fun t ht => (h.room t ht).trans ⟨room_swap, room_swap⟩⟩
theorem IsGap.one {a b : List P2} {n m : Int} (h : IsGap a b n) (k : IsGap a b m) : n = m :=
  Int.le_antisymm ((h.room m k.nonneg).2 ((k.room m k.nonneg).1 (Int.le_refl _))) ((k.room n h.nonneg).2 ((h.room n h.nonneg).1 (Int.le_refl _)))
theorem IsGap.zero {a b : List P2} {n : Int} (h : IsGap a b n) : n = 0 ↔ Diffs a b (0, 0) := by
  rw [← room_zero, ← h.room 0 (Int.le_refl _)]
  have := h.nonneg
  omega
end Go.Proofs.Gx
