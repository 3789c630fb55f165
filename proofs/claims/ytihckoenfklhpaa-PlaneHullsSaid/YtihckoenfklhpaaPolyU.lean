/- A hull is fixed by what it contains; the hull of a hull is itself. -/
import Derived.Test.YtihckoenfklhpaaHullM
namespace Go.Proofs.Gx
/-- A direction in which one point is ahead of another. -/
theorem sep_two {u v : P2} (h : u ≠ v) : ∃ w, crs w u < crs w v := by
  obtain ⟨a, b⟩ := u
  obtain ⟨c, d⟩ := v
  rcases Int.lt_trichotomy a c with k | k | k
  · exact ⟨(0, -1), by unfold crs; simp only; omega⟩
  · subst k
    rcases Int.lt_trichotomy b d with k | k | k
    · exact ⟨(1, 0), by unfold crs; simp only; omega⟩
    · subst k; exact absurd rfl h
    · exact ⟨(-1, 0), by unfold crs; simp only; omega⟩
  · exact ⟨(0, 1), by unfold crs; simp only; omega⟩
theorem over_all (f : P2 → Int) : ∀ l : List P2, ∃ N : Int, 0 ≤ N ∧ ∀ s ∈ l, f s < N := by
  intro l
  induction l with
  | nil => exact ⟨0, by omega, fun s hs => by simp at hs⟩
  | cons a l ih =>
    obtain ⟨N, h0, h⟩ := ih
    by_cases c : f a < N
    · exact ⟨N, h0, fun s hs => by rcases List.mem_cons.1 hs with rfl | hs; exact c; exact h s hs⟩
    · refine ⟨f a + 1, by omega, fun s hs => ?_⟩
      rcases List.mem_cons.1 hs with rfl | hs
      · omega
      · have := h s hs; omega
/-- Each corner is the only one that is foremost in some direction. -/
theorem corner_any {h : List P2} (p : Poly h) {i : Nat} (hi : i < h.length) : ∃ w, ∀ r ∈ h, r ≠ g h i → crs w (g h i) < crs w r := by
  by_cases h3 : 3 ≤ h.length
  · exact corner_side p h3 hi
  · by_cases h2 : h.length = 2
    · have hne : g h 0 ≠ g h 1 := lt2_ne (p.first 0 (by omega))
      have two : ∀ r ∈ h, r = g h 0 ∨ r = g h 1 := fun r hr => by
        obtain ⟨j, hj, rfl⟩ := mem_g hr
        rcases (show j = 0 ∨ j = 1 by omega) with rfl | rfl
        · exact .inl rfl
        · exact .inr rfl
      rcases (show i = 0 ∨ i = 1 by omega) with rfl | rfl
      · obtain ⟨w, hw⟩ := sep_two hne
        exact ⟨w, fun r hr hn => by rcases two r hr with rfl | rfl; exact absurd rfl hn; exact hw⟩
      · obtain ⟨w, hw⟩ := sep_two hne.symm
        exact ⟨w, fun r hr hn => by rcases two r hr with rfl | rfl; exact hw; exact absurd rfl hn⟩
    · refine ⟨(0, 0), fun r hr hn => ?_⟩
      obtain ⟨j, hj, rfl⟩ := mem_g hr
      have : j = i := by omega
      exact absurd (by rw [this]) hn
/-- What is contained and as far as a corner is that corner. -/
theorem in_corner {a : List P2} {w p r : P2} (hw : ∀ s ∈ a, s ≠ p → crs w p < crs w s) (hr : SC a r) (hle : crs w r ≤ crs w p) : r = p := by
  by_cases hne : r = p
  · exact hne
  · exfalso
    obtain ⟨v, hv⟩ := sep_two hne
    obtain ⟨N, n0, hN⟩ := over_all (fun s => crs v r - crs v s) a
    obtain ⟨s, hs, e⟩ := hr (N * w.1 + v.1, N * w.2 + v.2)
    have lin : ∀ x : P2, crs (N * w.1 + v.1, N * w.2 + v.2) x = N * crs w x + crs v x := fun x => by unfold crs; grind
    rw [lin, lin] at e
    by_cases hsp : s = p
    · subst hsp
      have := Int.mul_le_mul_of_nonneg_left hle n0
      omega
    · have h1 := hw s hs hsp
      have h2 : crs v r - crs v s < N := hN s hs
      have h3 := Int.mul_le_mul_of_nonneg_left (show crs w r + 1 ≤ crs w s by omega) n0
      rw [Int.mul_add, Int.mul_one] at h3
      omega
theorem fan_lt {h : List P2} (p : IsH h) {i : Nat} (hi : 0 < i) : ∀ j, i < j → j < h.length → 0 < dt (g h 0) (g h i) (g h j) := by
  have fwd : ∀ k, 0 < k → k < h.length → fw (sb (g h k) (g h 0)) := fun k h0 hk => by
    have := p.first (k - 1) (by omega)
    rw [show k - 1 + 1 = k by omega] at this
    exact fw_sb.2 this
  intro j
  induction j with
  | zero => intro h; omega
  | succ j ih =>
    intro hij hj
    have st := fun h0 => p.fan j h0 hj
    rcases Nat.lt_or_ge i j with c | c
    · have a := ih c (by omega)
      have b := st (by omega)
      rw [dt_eq] at a b ⊢
      exact crs_trans_r (fwd i hi (by omega)) (fwd j (by omega) (by omega)) (fwd (j + 1) (by omega) hj) (by omega) b
    · obtain rfl : i = j := by omega
      exact st hi
theorem pw_unique {R : P2 → P2 → Prop} (asy : ∀ x y, R x y → ¬ R y x) : ∀ a b : List P2, a.Pairwise R → b.Pairwise R → (∀ q, q ∈ a ↔ q ∈ b) → a = b := by
  have irr : ∀ x, ¬ R x x := fun x h => asy x x h h
  intro a
  induction a with
  | nil =>
    intro b _ _ h
    match b with
    | [] => rfl
    | y :: t => exact absurd ((h y).2 (by simp)) (by simp)
  | cons x a ih =>
    intro b ha hb h
    match b, hb, h with
    | [], _, h => exact absurd ((h x).1 (by simp)) (by simp)
    | y :: t, hb, h =>
      have a1 := List.pairwise_cons.1 ha
      have b1 := List.pairwise_cons.1 hb
      have hxy : x = y := by
        rcases List.mem_cons.1 ((h x).1 (by simp)) with e | e
        · exact e
        · rcases List.mem_cons.1 ((h y).2 (by simp)) with e' | e'
          · exact e'.symm
          · exact absurd (a1.1 y e') (asy _ _ (b1.1 x e))
      subst hxy
      have : a = t := ih t a1.2 b1.2 fun q => by
        constructor
        · intro hq
          rcases List.mem_cons.1 ((h q).1 (List.mem_cons_of_mem _ hq)) with e | e
          · subst e; exact absurd (a1.1 q hq) (irr q)
          · exact e
        · intro hq
          rcases List.mem_cons.1 ((h q).2 (List.mem_cons_of_mem _ hq)) with e | e
          · subst e; exact absurd (b1.1 q hq) (irr q)
          · exact e
      rw [this]
/-- A hull, its first corner taken off. -/
theorem poly_cons {h : List P2} (p : IsH h) : ∃ t, h = g h 0 :: t ∧ t.Pairwise (fun x y => 0 < dt (g h 0) x y) ∧ ∀ x ∈ t, lt2 (g h 0) x := by
  match h, p with
  | [], p => exact absurd rfl p.ne
  | a :: t, p =>
    refine ⟨t, rfl, ?_, fun x hx => ?_⟩
    · rw [List.pairwise_iff_getElem]
      intro i j hi hj hij
      have := fan_lt p (i := i + 1) (by omega) (j + 1) (by omega) (by simp; omega)
      rw [g_succ, g_succ, g_eq hi, g_eq hj] at this
      exact this
    · obtain ⟨j, hj, rfl⟩ := mem_g hx
      have := p.first j (by simp; omega)
      rw [g_succ] at this
      exact this
theorem dt_asy (o x y : P2) (h : 0 < dt o x y) : ¬ 0 < dt o y x := by
  have : dt o y x = - dt o x y := by unfold dt; grind
  omega
/-- Hulls that contain each other are the same. -/
theorem poly_ext {a b : List P2} (Pa : Poly a) (Pb : Poly b) (h1 : ∀ r ∈ b, SC a r) (h2 : ∀ r ∈ a, SC b r) : a = b := by
  have sub : ∀ {a b : List P2}, Poly a → (∀ r ∈ b, SC a r) → (∀ r ∈ a, SC b r) → ∀ p ∈ a, p ∈ b := fun {a b} Pa h1 h2 p hp => by
    obtain ⟨i, hi, rfl⟩ := mem_g hp
    obtain ⟨w, hw⟩ := corner_any Pa hi
    obtain ⟨r, hr, e⟩ := h2 _ hp w
    rw [← in_corner hw (h1 r hr) e]
    exact hr
  have ab := sub Pa h1 h2
  have ba := sub Pb h2 h1
  obtain ⟨ta, ea, pa, fa⟩ := poly_cons Pa.toIsH
  obtain ⟨tb, eb, pb, fb⟩ := poly_cons Pb.toIsH
  obtain ⟨x, hx⟩ : ∃ x, g a 0 = x := ⟨_, rfl⟩
  obtain ⟨y, hy⟩ : ∃ y, g b 0 = y := ⟨_, rfl⟩
  rw [hx] at ea pa fa
  rw [hy] at eb pb fb
  subst ea eb
  have hxy : x = y := by
    rcases List.mem_cons.1 (ab x (by simp)) with e | e
    · exact e
    · rcases List.mem_cons.1 (ba y (by simp)) with e' | e'
      · exact e'.symm
      · exact absurd (fb x e) (lt2_asymm (fa y e'))
  subst hxy
  rw [pw_unique (dt_asy x) ta tb pa pb fun q => by
    constructor
    · intro hq
      rcases List.mem_cons.1 (ab q (List.mem_cons_of_mem _ hq)) with e | e
      · subst e; exact absurd (fa q hq) (lt2_irrefl q)
      · exact e
    · intro hq
      rcases List.mem_cons.1 (ba q (List.mem_cons_of_mem _ hq)) with e | e
      · subst e; exact absurd (fb q hq) (lt2_irrefl q)
      · exact e]
/-- The hull of a hull is itself. -/
theorem hullF_self {h : List P2} (P : Poly h) : hullF h = h := by
  obtain ⟨p, i, m⟩ := hullF_poly P.ne
  exact poly_ext p P i (fun r hr => sc_self (m r hr))
/-- A point is contained just if with it the hull is the same. -/
theorem hullF_has {h : List P2} (P : Poly h) (q : P2) : hullF (h ++ [q]) = h ↔ Cont h q := by
  obtain ⟨p, i, m⟩ := hullF_poly (l := h ++ [q]) (by simp)
  rw [cont_iff P]
  constructor
  · intro e
    have := i q (by simp)
    rw [e] at this
    exact this
  · intro c
    refine poly_ext p P (fun r hr => i r (by simp [hr])) (fun r hr => ?_)
    rcases List.mem_append.1 (m r hr) with k | k
    · exact sc_self k
    · rw [List.mem_singleton.1 k]; exact c
/-! ### What turns left at each corner and goes once around is a hull -/
theorem pos_l2 {x y : Int} (h : 0 < x * y) (hy : 0 < y) : 0 < x := by
  rcases Int.lt_or_le 0 x with c | c
  · exact c
  · have := Int.mul_nonneg (show 0 ≤ -x by omega) (show 0 ≤ y by omega)
    rw [Int.neg_mul] at this
    omega
/-- C left of AB, D left of BC, and all in order around O: D is left of AB. -/
theorem conv_fwd {O A B C D : P2} (h1 : 0 < dt A B C) (h2 : 0 < dt B C D) (o1 : 0 < dt O A B) (o2 : 0 < dt O B C) (o3 : 0 < dt O B D) : 0 < dt A B D := by
  have key : dt A B D * dt O B C = dt A B C * dt O B D + dt O A B * dt B C D := by unfold dt; grind
  have a := Int.mul_pos h1 o3
  have b := Int.mul_pos o1 h2
  exact pos_l2 (x := dt A B D) (y := dt O B C) (by omega) o2
theorem conv_back {O A B D E : P2} (h1 : 0 < dt B D E) (h2 : 0 < dt A B D) (o1 : 0 < dt O A D) (o2 : 0 < dt O B D) (o3 : 0 < dt O D E) : 0 < dt A D E := by
  have key : dt A D E * dt O B D = dt A B D * dt O D E + dt O A D * dt B D E := by unfold dt; grind
  have a := Int.mul_pos h2 o3
  have b := Int.mul_pos o1 h1
  exact pos_l2 (x := dt A D E) (y := dt O B D) (by omega) o2
theorem isH_poly {h : List P2} (p : IsH h) : Poly h := by
  refine { toIsH := p, left := fun q hq i hi => ?_ }
  obtain ⟨k, hk, rfl⟩ := mem_g hq
  have z1 : ∀ a b : P2, dt a a b = 0 := fun a b => by unfold dt; grind
  have z2 : ∀ a b : P2, dt a b a = 0 := fun a b => by unfold dt; grind
  have z3 : ∀ a b : P2, dt a b b = 0 := fun a b => by unfold dt; grind
  have cyc : ∀ a b c : P2, dt a b c = dt c a b := fun a b c => by unfold dt; grind
  by_cases h3 : 3 ≤ h.length
  · have fan := fun i j (h0 : 0 < i) (hij : i < j) (hj : j < h.length) => fan_lt p h0 j hij hj
    have turn : ∀ i, i + 2 < h.length → 0 < dt (g h i) (g h (i + 1)) (g h (i + 2)) := fun i hi => by
      have := p.turn h3 i (by omega)
      rw [gc_lt (show i + 1 < h.length by omega), gc_lt hi] at this
      exact this
    -- forward
    have fw1 : ∀ d i, 1 ≤ i → i + 2 + d < h.length → 0 < dt (g h i) (g h (i + 1)) (g h (i + 2 + d)) := by
      intro d
      induction d with
      | zero => intro i _ hi; exact turn i hi
      | succ d ih =>
        intro i h1 hi
        have a := ih (i + 1) (by omega) (by omega)
        rw [show i + 1 + 2 + d = i + 2 + (d + 1) by omega, show i + 1 + 1 = i + 2 by omega] at a
        exact conv_fwd (O := g h 0) (turn i (by omega)) a (fan i (i + 1) (by omega) (by omega) (by omega)) (fan (i + 1) (i + 2) (by omega) (by omega) (by omega)) (fan (i + 1) (i + 2 + (d + 1)) (by omega) (by omega) hi)
    have fwd : ∀ i k, 1 ≤ i → i + 1 < k → k < h.length → 0 < dt (g h i) (g h (i + 1)) (g h k) := fun i k h1 h2 hk => by
      have := fw1 (k - i - 2) i h1 (by omega)
      rwa [show i + 2 + (k - i - 2) = k by omega] at this
    -- back
    have bw1 : ∀ d k, 1 ≤ k → k + 1 + d + 1 < h.length → 0 < dt (g h k) (g h (k + 1 + d)) (g h (k + 1 + d + 1)) := by
      intro d
      induction d with
      | zero => intro k _ hk; exact turn k hk
      | succ d ih =>
        intro k h1 hk
        have a := ih (k + 1) (by omega) (by omega)
        rw [show k + 1 + 1 + d = k + 1 + (d + 1) by omega] at a
        exact conv_back (O := g h 0) a (fwd k (k + 1 + (d + 1)) h1 (by omega) (by omega)) (fan k (k + 1 + (d + 1)) (by omega) (by omega) (by omega)) (fan (k + 1) (k + 1 + (d + 1)) (by omega) (by omega) (by omega)) (fan (k + 1 + (d + 1)) (k + 1 + (d + 1) + 1) (by omega) (by omega) hk)
    have bwd : ∀ k i, 1 ≤ k → k < i → i + 1 < h.length → 0 < dt (g h k) (g h i) (g h (i + 1)) := fun k i h1 h2 hi => by
      have := bw1 (i - k - 1) k h1 (by omega)
      rwa [show k + 1 + (i - k - 1) = i by omega] at this
    by_cases hl : i + 1 < h.length
    · rw [gc_lt hl]
      by_cases e1 : k = i
      · rw [e1, z2]; omega
      · by_cases e2 : k = i + 1
        · rw [e2, z3]; omega
        · rcases Nat.eq_zero_or_pos i with e3 | e3
          · subst e3
            have := fan 1 k (by omega) (by omega) hk
            rw [Nat.zero_add]
            omega
          · rcases Nat.eq_zero_or_pos k with e4 | e4
            · subst e4
              have := fan i (i + 1) e3 (by omega) hl
              rw [cyc]
              omega
            · rcases Nat.lt_or_ge k i with c | c
              · have := bwd k i e4 c hl
                rw [cyc]
                omega
              · have := fwd i k e3 (by omega) hk
                omega
    · have ei : i + 1 = h.length := by omega
      have eg : gc h (i + 1) = g h 0 := by unfold gc; rw [ei, Nat.mod_self]
      rw [eg]
      by_cases e1 : k = i
      · rw [e1, z2]; omega
      · rcases Nat.eq_zero_or_pos k with e4 | e4
        · rw [e4, z3]; omega
        · have := fan k i e4 (by omega) hi
          rw [cyc, cyc]
          omega
  · by_cases h2 : h.length = 2
    · have two : ∀ j, g h (j % 2) = g h 0 ∨ g h (j % 2) = g h 1 := fun j => by
        rcases (show j % 2 = 0 ∨ j % 2 = 1 by omega) with e | e <;> rw [e]
        · exact .inl rfl
        · exact .inr rfl
      rcases (show i = 0 ∨ i = 1 by omega) with rfl | rfl <;> rcases (show k = 0 ∨ k = 1 by omega) with rfl | rfl <;> (unfold gc; rw [h2]; first | (rw [z2]; omega) | (show 0 ≤ dt _ (g h 1) (g h 1); rw [z3]; omega) | (show 0 ≤ dt _ (g h 0) (g h 0); rw [z3]; omega))
    · have h1 : h.length = 1 := by omega
      obtain rfl : i = 0 := by omega
      unfold gc
      rw [h1, Nat.mod_one, z1]
      omega
end Go.Proofs.Gx
