/- What a polygon contains: what has a corner that is not behind it, in every direction. -/
import Derived.Test.YtihckoenfklhpaaHullP
namespace Go.Proofs.Gx
theorem gc_lt {h : List P2} {i : Nat} (hi : i < h.length) : gc h i = g h i := by unfold gc; rw [Nat.mod_eq_of_lt hi]
theorem gc_mem {h : List P2} (hne : h ≠ []) (i : Nat) : gc h i ∈ h := g_mem (Nat.mod_lt _ (by cases h; exact absurd rfl hne; simp))
/-- Of finitely many corners one is first in a direction. -/
theorem least_in (w : P2) : ∀ h : List P2, h ≠ [] → ∃ i, i < h.length ∧ ∀ r ∈ h, crs w (g h i) ≤ crs w r := by
  intro h
  induction h with
  | nil => intro e; exact absurd rfl e
  | cons a t ih =>
    intro _
    rcases t with _ | ⟨b, t⟩
    · exact ⟨0, by simp, fun r hr => by have : r = a := by simpa using hr
                                        subst this; exact Int.le_refl _⟩
    · obtain ⟨i, hi, hm⟩ := ih (by simp)
      rcases Int.le_total (crs w a) (crs w (g (b :: t) i)) with c | c
      · refine ⟨0, by simp, fun r hr => ?_⟩
        rcases List.mem_cons.1 hr with rfl | hr
        · exact Int.le_refl _
        · exact Int.le_trans c (hm r hr)
      · refine ⟨i + 1, by simpa using hi, fun r hr => ?_⟩
        rw [g_succ]
        rcases List.mem_cons.1 hr with rfl | hr
        · exact c
        · exact hm r hr
theorem crs_sb (w a b : P2) : crs w (sb a b) = crs w a - crs w b := by unfold crs sb; grind
theorem cramer_at (e f w v : P2) : crs e f * crs w v = crs e v * crs w f + crs v f * crs w e := by unfold crs; grind
/-- The corner before, and the one behind. -/
theorem around {h : List P2} (p : IsH h) (h3 : 3 ≤ h.length) {i : Nat} (hi : i < h.length) : ∃ j, j < h.length ∧ gc h (j + 1) = g h i ∧ gc h (j + 2) = gc h (i + 1) ∧ 0 < dt (g h j) (g h i) (gc h (i + 1)) := by
  rcases Nat.eq_zero_or_pos i with e | e
  · subst e
    have a1 : gc h (h.length - 1 + 1) = g h 0 := by unfold gc; rw [show h.length - 1 + 1 = h.length by omega, Nat.mod_self]
    have a2 : gc h (h.length - 1 + 2) = gc h (0 + 1) := by unfold gc; rw [show h.length - 1 + 2 = 0 + 1 + h.length by omega, Nat.add_mod_right]
    have := p.turn h3 (h.length - 1) (by omega)
    rw [a1, a2] at this
    exact ⟨h.length - 1, by omega, a1, a2, this⟩
  · have a1 : gc h (i - 1 + 1) = g h i := by rw [show i - 1 + 1 = i by omega, gc_lt hi]
    have a2 : gc h (i - 1 + 2) = gc h (i + 1) := by rw [show i - 1 + 2 = i + 1 by omega]
    have := p.turn h3 (i - 1) (by omega)
    rw [a1, a2] at this
    exact ⟨i - 1, by omega, a1, a2, this⟩
theorem sc_left {h : List P2} (p : IsH h) (h3 : 3 ≤ h.length) {q : P2} (hl : Left h q) : SC h q := by
  intro w
  obtain ⟨i, hi, hm⟩ := least_in w h p.ne
  refine ⟨g h i, g_mem hi, ?_⟩
  obtain ⟨j, hj, a1, a2, ht⟩ := around p h3 hi
  have e1 : 0 ≤ crs (sb (g h i) (g h j)) (sb q (g h i)) := by have := hl j hj; rwa [a1, dt_b] at this
  have f1 : 0 ≤ crs (sb (gc h (i + 1)) (g h i)) (sb q (g h i)) := by have := hl i hi; rwa [dt_eq] at this
  have wf : 0 ≤ crs w (sb (gc h (i + 1)) (g h i)) := by rw [crs_sb]; have := hm _ (gc_mem p.ne (i + 1)); omega
  have we : crs w (sb (g h i) (g h j)) ≤ 0 := by rw [crs_sb]; have := hm _ (g_mem hj); omega
  rw [dt_b] at ht
  have c := cramer_at (sb (g h i) (g h j)) (sb (gc h (i + 1)) (g h i)) w (sb q (g h i))
  have k1 := Int.mul_nonneg e1 wf
  have k2 : 0 ≤ crs (sb q (g h i)) (sb (gc h (i + 1)) (g h i)) * crs w (sb (g h i) (g h j)) := by
    rw [crs_swap]
    have := Int.mul_nonneg f1 (show 0 ≤ - crs w (sb (g h i) (g h j)) by omega)
    rw [Int.mul_neg] at this
    rw [Int.neg_mul]
    exact this
  have k3 : 0 ≤ crs w (sb q (g h i)) * crs (sb (g h i) (g h j)) (sb (gc h (i + 1)) (g h i)) := by rw [Int.mul_comm, c]; omega
  have k4 := nonneg_left k3 ht
  rw [crs_sb] at k4
  omega
theorem sc_seg {a b q : P2} (hab : lt2 a b) (h0 : dt a b q = 0) (h1 : le2 a q) (h2 : le2 q b) : SC [a, b] q := by
  intro w
  obtain ⟨s, t, s0, t0, st, e⟩ : ∃ s t : Int, 0 ≤ s ∧ 0 ≤ t ∧ 0 < s + t ∧ (s + t) * crs w q = t * crs w a + s * crs w b := by
    unfold dt at h0
    rcases hab with h | ⟨h, h'⟩
    · have q1 : a.1 ≤ q.1 := by rcases h1 with rfl | h1; exact Int.le_refl _; unfold lt2 at h1; omega
      have q2 : q.1 ≤ b.1 := by rcases h2 with rfl | h2; exact Int.le_refl _; unfold lt2 at h2; omega
      refine ⟨q.1 - a.1, b.1 - q.1, by omega, by omega, by omega, ?_⟩
      unfold crs
      have k : (q.1 - a.1) * (b.2 - a.2) = (b.1 - a.1) * (q.2 - a.2) := by rw [Int.mul_comm]; omega
      have k2 : w.1 * ((q.1 - a.1) * (b.2 - a.2)) = w.1 * ((b.1 - a.1) * (q.2 - a.2)) := by rw [k]
      grind
    · have q1 : q.1 = a.1 := by
        rcases h1 with rfl | h1
        · rfl
        · rcases h2 with rfl | h2
          · omega
          · unfold lt2 at h1 h2; omega
      have q2 : a.2 ≤ q.2 := by rcases h1 with rfl | h1; exact Int.le_refl _; unfold lt2 at h1; omega
      have q3 : q.2 ≤ b.2 := by rcases h2 with rfl | h2; exact Int.le_refl _; unfold lt2 at h2; omega
      refine ⟨q.2 - a.2, b.2 - q.2, by omega, by omega, by omega, ?_⟩
      unfold crs
      rw [q1, ← h]
      grind
  rcases Int.le_total (crs w a) (crs w b) with c | c
  · refine ⟨a, by simp, ?_⟩
    have m1 := Int.mul_nonneg s0 (show 0 ≤ crs w b - crs w a by omega)
    have m2 : 0 ≤ (crs w q - crs w a) * (s + t) := by
      rw [Int.mul_comm, Int.mul_sub, e, Int.add_mul]
      rw [Int.mul_sub] at m1
      omega
    have := nonneg_left m2 st
    omega
  · refine ⟨b, by simp, ?_⟩
    have m1 := Int.mul_nonneg t0 (show 0 ≤ crs w a - crs w b by omega)
    have m2 : 0 ≤ (crs w q - crs w b) * (s + t) := by
      rw [Int.mul_comm, Int.mul_sub, e, Int.add_mul]
      rw [Int.mul_sub] at m1
      omega
    have := nonneg_left m2 st
    omega
/-- The box of the corners, as far as it is asked. -/
structure Box (h : List P2) (q : P2) : Prop where
  x0 : ∃ r ∈ h, r.1 ≤ q.1
  x1 : ∃ r ∈ h, q.1 ≤ r.1
  y0 : ∃ r ∈ h, r.2 ≤ q.2
  y1 : ∃ r ∈ h, q.2 ≤ r.2
structure Cont (h : List P2) (q : P2) : Prop where
  box : Box h q
  left : h.length ≠ 1 → Left h q
theorem sc_of_cont {h : List P2} (p : IsH h) {q : P2} (c : Cont h q) : SC h q := by
  match h, p, c with
  | [], p, _ => exact absurd rfl p.ne
  | [a], p, c =>
    obtain ⟨⟨⟨r0, h0, x0⟩, ⟨r1, h1, x1⟩, ⟨r2, h2, y0⟩, ⟨r3, h3, y1⟩⟩, _⟩ := c
    simp only [List.mem_singleton] at h0 h1 h2 h3
    rw [h0] at x0
    rw [h1] at x1
    rw [h2] at y0
    rw [h3] at y1
    have e : q = a := Prod.ext (by omega) (by omega)
    exact fun w => ⟨a, by simp, by rw [e]; exact Int.le_refl _⟩
  | [a, b], p, c =>
    have hab : lt2 a b := p.first 0 (by simp)
    have l0 := c.left (by simp) 0 (by simp)
    have l1 := c.left (by simp) 1 (by simp)
    have e0 : 0 ≤ dt a b q := by simpa [gc, g] using l0
    have e1 : 0 ≤ dt b a q := by simpa [gc, g] using l1
    have e2 : dt b a q = - dt a b q := by unfold dt; grind
    have hd : dt a b q = 0 := by omega
    obtain ⟨⟨⟨r0, h0, x0⟩, ⟨r1, h1, x1⟩, ⟨r2, h2, y0⟩, ⟨r3, h3, y1⟩⟩, _⟩ := c
    simp only [List.mem_cons, List.not_mem_nil, or_false] at h0 h1 h2 h3
    have X0 : a.1 ≤ q.1 := by unfold lt2 at hab; rcases h0 with rfl | rfl <;> omega
    have X1 : q.1 ≤ b.1 := by unfold lt2 at hab; rcases h1 with rfl | rfl <;> omega
    have bn : a.1 < b.1 ∨ (a.1 = b.1 ∧ a.2 ≤ q.2 ∧ q.2 ≤ b.2) := by
      rcases hab with h | ⟨h, h'⟩
      · exact .inl h
      · right
        refine ⟨h, ?_, ?_⟩
        · rcases h2 with rfl | rfl <;> omega
        · rcases h3 with rfl | rfl <;> omega
    refine sc_seg hab hd ?_ ?_
    · unfold dt at hd
      rcases Int.lt_or_le a.1 q.1 with d | d
      · exact .inr (.inl d)
      · have ex : q.1 = a.1 := by omega
        rcases bn with h | ⟨h, k1, k2⟩
        · left
          rw [ex, Int.sub_self, Int.mul_zero, Int.sub_zero] at hd
          rcases Int.mul_eq_zero.1 hd with k | k
          · omega
          · exact Prod.ext ex.symm (by omega)
        · rcases Int.lt_or_le a.2 q.2 with f | f
          · exact .inr (.inr ⟨ex.symm, f⟩)
          · exact .inl (Prod.ext ex.symm (by omega))
    · unfold dt at hd
      rcases Int.lt_or_le q.1 b.1 with d | d
      · exact .inr (.inl d)
      · have ex : q.1 = b.1 := by omega
        rcases bn with h | ⟨h, k1, k2⟩
        · left
          rw [ex] at hd
          have : (b.1 - a.1) * (q.2 - b.2) = 0 := by grind
          rcases Int.mul_eq_zero.1 this with k | k
          · omega
          · exact Prod.ext ex (by omega)
        · rcases Int.lt_or_le q.2 b.2 with f | f
          · exact .inr (.inr ⟨ex, f⟩)
          · exact .inl (Prod.ext ex (by omega))
  | a :: b :: c' :: t, p, c => exact sc_left p (by simp) (c.left (by simp))
theorem cont_of_sc {h : List P2} (p : Poly h) {q : P2} (c : SC h q) : Cont h q := by
  refine ⟨⟨?_, ?_, ?_, ?_⟩, fun _ i hi => ?_⟩
  · obtain ⟨r, hr, e⟩ := c (0, -1)
    exact ⟨r, hr, by unfold crs at e; simp at e; omega⟩
  · obtain ⟨r, hr, e⟩ := c (0, 1)
    exact ⟨r, hr, by unfold crs at e; simp at e; omega⟩
  · obtain ⟨r, hr, e⟩ := c (1, 0)
    exact ⟨r, hr, by unfold crs at e; simp at e; omega⟩
  · obtain ⟨r, hr, e⟩ := c (-1, 0)
    exact ⟨r, hr, by unfold crs at e; simp at e; omega⟩
  · obtain ⟨r, hr, e⟩ := c (sb (gc h (i + 1)) (g h i))
    have l := p.left r hr i hi
    rw [dt_eq, crs_sb] at l ⊢
    omega
theorem cont_iff {h : List P2} (p : Poly h) {q : P2} : Cont h q ↔ SC h q := ⟨sc_of_cont p.toIsH, cont_of_sc p⟩
theorem sc_self {h : List P2} {q : P2} (hq : q ∈ h) : SC h q := fun w => ⟨q, hq, Int.le_refl _⟩
/-- What the hull of a sorted list is. -/
theorem hull_poly {s : List P2} (hi : Incr s) (hne : s ≠ []) : Poly (hullS s) ∧ (∀ q ∈ s, SC (hullS s) q) ∧ (∀ r ∈ hullS s, r ∈ s) ∧ g (hullS s) 0 = g s 0 := by
  match s, hne, hi with
  | [a], _, _ =>
    have e : hullS [a] = [a] := rfl
    rw [e]
    refine ⟨⟨⟨by simp, fun i h => by simp at h, fun i _ h => by simp at h, fun h => by simp at h⟩, ?_⟩, fun q hq => sc_self hq, fun r h => h, rfl⟩
    intro q _ i hi
    obtain rfl : i = 0 := by simpa using hi
    have : dt (g [a] 0) (gc [a] (0 + 1)) q = dt a a q := by simp [gc, g]
    rw [this, dt_self0]
    exact Int.le_refl _
  | a :: b :: t, _, hi =>
    obtain ⟨h1, h2, h3, h4, h5, h6⟩ := hull_two hi (n := t.length) rfl
    refine ⟨⟨h1, fun q hq => h2 q (h3 q hq)⟩, ?_, h3, h4⟩
    intro q hq
    have hl := h2 q hq
    generalize hullS (a :: b :: t) = H at *
    match H, h1, h2, h3, h4, h5, h6, hl with
    | [u, v], h1, h2, h3, h4, h5, h6, hl =>
      have huv : lt2 u v := h1.first 0 (by simp)
      have e0 : 0 ≤ dt u v q := by simpa [gc, g] using hl 0 (by simp)
      have e1 : 0 ≤ dt v u q := by simpa [gc, g] using hl 1 (by simp)
      have e2 : dt v u q = - dt u v q := by unfold dt; grind
      obtain ⟨j, hj, rfl⟩ := mem_g hq
      have hu : u = g (a :: b :: t) 0 := h4
      have hv : v = g (a :: b :: t) (t.length + 1) := by
        have := h6
        simp only [List.mem_cons, List.not_mem_nil, or_false] at this
        rcases this with h | h
        · exfalso
          have k := lt2_g hi (i := 0) (j := t.length + 1) (by omega) (by simp)
          rw [← hu, h] at k
          exact lt2_irrefl _ k
        · exact h.symm
      refine sc_seg huv (by omega) ?_ ?_
      · rcases Nat.eq_zero_or_pos j with e | e
        · subst e; exact .inl hu
        · right; rw [hu]; exact lt2_g hi e hj
      · rcases Nat.lt_or_ge j (t.length + 1) with e | e
        · right; rw [hv]; exact lt2_g hi e (by simp)
        · left; rw [hv]; congr 1; simp at hj; omega
    | u :: v :: x :: r, h1, _, _, _, _, _, hl => exact sc_left h1 (by simp) hl
/-- Around a corner all other corners lie on one side. -/
theorem corner_side {h : List P2} (p : Poly h) (h3 : 3 ≤ h.length) {i : Nat} (hi : i < h.length) : ∃ w, ∀ r ∈ h, r ≠ g h i → crs w (g h i) < crs w r := by
  obtain ⟨j, hj, a1, a2, ht⟩ := around p.toIsH h3 hi
  refine ⟨sb (gc h (i + 1)) (g h j), fun r hr hne => ?_⟩
  have e1 : 0 ≤ crs (sb (g h i) (g h j)) (sb r (g h i)) := by have := p.left r hr j hj; rwa [a1, dt_b] at this
  have f1 : 0 ≤ crs (sb (gc h (i + 1)) (g h i)) (sb r (g h i)) := by have := p.left r hr i hi; rwa [dt_eq] at this
  have e : crs (sb (gc h (i + 1)) (g h j)) (sb r (g h i)) = crs (sb (g h i) (g h j)) (sb r (g h i)) + crs (sb (gc h (i + 1)) (g h i)) (sb r (g h i)) := by unfold crs sb; grind
  have k : 0 < crs (sb (gc h (i + 1)) (g h j)) (sb r (g h i)) := by
    rcases Int.lt_or_le 0 (crs (sb (gc h (i + 1)) (g h j)) (sb r (g h i))) with c | c
    · exact c
    · exfalso
      rw [dt_b] at ht
      have z1 : crs (sb (g h i) (g h j)) (sb r (g h i)) = 0 := by omega
      have z2 : crs (sb (gc h (i + 1)) (g h i)) (sb r (g h i)) = 0 := by omega
      have c1 := cramer_at (sb (g h i) (g h j)) (sb (gc h (i + 1)) (g h i)) (0, 1) (sb r (g h i))
      have c2 := cramer_at (sb (g h i) (g h j)) (sb (gc h (i + 1)) (g h i)) (1, 0) (sb r (g h i))
      have z3 : crs (sb r (g h i)) (sb (gc h (i + 1)) (g h i)) = 0 := by rw [crs_swap]; omega
      rw [z1, z3, Int.zero_mul, Int.zero_mul, Int.add_zero] at c1 c2
      have x : (sb r (g h i)).1 = 0 := by
        rcases Int.mul_eq_zero.1 c1 with k | k
        · omega
        · unfold crs at k; simp only at k; omega
      have y : (sb r (g h i)).2 = 0 := by
        rcases Int.mul_eq_zero.1 c2 with k | k
        · omega
        · unfold crs at k; simp only at k; omega
      unfold sb at x y
      simp only at x y
      exact hne (Prod.ext (by omega) (by omega))
  rw [crs_sb] at k
  omega
/-- The corners are different. -/
theorem corners_ne {h : List P2} (p : IsH h) {i j : Nat} (hij : i < j) (hj : j < h.length) : g h i ≠ g h j := by
  rcases Nat.eq_zero_or_pos i with e | e
  · subst e
    have := p.first (j - 1) (by omega)
    rw [show j - 1 + 1 = j by omega] at this
    exact lt2_ne this
  · have fwd : ∀ k, 0 < k → k < h.length → fw (sb (g h k) (g h 0)) := fun k k0 k1 => by
      have := p.first (k - 1) (by omega)
      rw [show k - 1 + 1 = k by omega] at this
      exact fw_sb.2 this
    have key : ∀ d, i + d + 1 < h.length → 0 < crs (sb (g h i) (g h 0)) (sb (g h (i + d + 1)) (g h 0)) := by
      intro d
      induction d with
      | zero => intro hd; have := p.fan i e hd; rwa [dt_eq] at this
      | succ d ih =>
        intro hd
        have a := ih (by omega)
        have b := p.fan (i + d + 1) (by omega) (by omega)
        rw [dt_eq] at b
        rw [show i + (d + 1) + 1 = i + d + 1 + 1 by omega] at hd ⊢
        exact crs_trans_l (fwd i e (by omega)) (fwd _ (by omega) (by omega)) (fwd _ (by omega) (by omega)) a (by omega)
    have := key (j - i - 1) (by omega)
    rw [show i + (j - i - 1) + 1 = j by omega] at this
    intro e2
    rw [e2] at this
    have z : crs (sb (g h j) (g h 0)) (sb (g h j) (g h 0)) = 0 := by unfold crs; grind
    omega
/-- Without a corner the hull does not contain it. -/
theorem without {h R : List P2} (p : Poly h) (h2 : 2 ≤ h.length) {i : Nat} (hi : i < h.length) (hR : ∀ r ∈ R, ∃ j, j < h.length ∧ j ≠ i ∧ r = g h j) : ¬ SC R (g h i) := by
  intro hs
  have other : ∀ r ∈ R, r ∈ h ∧ r ≠ g h i := by
    intro r hr
    obtain ⟨j, hj, hji, rfl⟩ := hR r hr
    refine ⟨g_mem hj, ?_⟩
    rcases Nat.lt_or_ge j i with c | c
    · exact corners_ne p.toIsH c hi
    · exact fun e => corners_ne p.toIsH (show i < j by omega) hj e.symm
  rcases Nat.lt_or_ge 2 h.length with c | c
  · obtain ⟨w, hw⟩ := corner_side p c hi
    obtain ⟨r, hr, e⟩ := hs w
    have := hw r (other r hr).1 (other r hr).2
    omega
  · -- two corners: the one behind the other one
    have hl : h.length = 2 := by omega
    match h, hl, p, other, hi, hs with
    | [a, b], _, p, other, hi, hs =>
      have hab : lt2 a b := p.toIsH.first 0 (by simp)
      match i, hi with
      | 0, _ =>
        have hb : ∀ r ∈ R, r = b := fun r hr => by
          have := other r hr
          simp only [List.mem_cons, List.not_mem_nil, or_false, g_zero] at this
          rcases this with ⟨h | h, k⟩
          · exact absurd h k
          · exact h
        obtain ⟨r, hr, e⟩ := hs (0, -1)
        obtain ⟨r', hr', e'⟩ := hs (1, 0)
        rw [hb r hr] at e
        rw [hb r' hr'] at e'
        unfold crs g at e e'
        unfold lt2 at hab
        simp at e e'
        omega
      | 1, _ =>
        have hb : ∀ r ∈ R, r = a := fun r hr => by
          have := other r hr
          simp only [List.mem_cons, List.not_mem_nil, or_false] at this
          rcases this with ⟨h | h, k⟩
          · exact h
          · exact absurd h k
        obtain ⟨r, hr, e⟩ := hs (0, 1)
        obtain ⟨r', hr', e'⟩ := hs (-1, 0)
        rw [hb r hr] at e
        rw [hb r' hr'] at e'
        unfold crs g at e e'
        unfold lt2 at hab
        simp at e e'
        omega
end Go.Proofs.Gx
