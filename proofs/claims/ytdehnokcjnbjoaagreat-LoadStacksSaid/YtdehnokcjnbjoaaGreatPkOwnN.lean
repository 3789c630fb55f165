/- Lists of ints that the call itself has made. A loop whose rounds hold a range over a function: the marks that grow among the deferred calls, taken one after another at the end. What a round of a loop over an iterator keeps: every block of cells but some. A range over a function that yields what lies in memory that it has made: the contract says, too, what is true where it yields. Going around a hull, from corner to corner: mathematics. What is known of the hull of points: for the law PlaneLeast. The hull of points, whether points are one, and whether one contains a point: what the program's functions return. What Length returns, of the program and of the document's own answers. What isHull returns. Lists of lists of points: the looks at them. What hull returns. The corners that are left of a sorted list when it turns to the left at each of them. The library's Compact at a list of points that the call itself has made: equal neighbours become one. The library's sort, reversal and copy at lists of points. Whether a hull contains a point. Whether a hull contains a point. The pairs of neighbours of a hull, as the program yields them: a contract of the iterator. A hull is fixed by what it contains; the hull of a hull is itself. -/
import Derived.Test.YtdehnokcjnbjoaaGreatPkHeldIn
import Derived.RangeFuncNested
import Derived.RangeFuncLeaves
import Derived.Shelf.Abstract
import Derived.Shelf.RegionOpen
import Derived.OwnWalkIn
import Derived.TacticsInMore
import Derived.LoopNIn
import Derived.LoopIn
import Derived.Test.YtdehnokcjnbjoaaGreatPkLdM
import Derived.Test.YtdehnokcjnbjoaaGreatShelf
import Derived.Deep.DeepCutAuto
import Derived.WalkLawsBesides
import Derived.WalkSpells
import Derived.Test.YtdehnokcjnbjoaaGreatSl
import Derived.Test.YtdehnokcjnbjoaaGreatMath
import Derived.Test.YtdehnokcjnbjoaaGreatBx
import Derived.Deep.RegionLaw
import Derived.OwnWalk
namespace Go.Proofs.Gx
/-- A direction in which one point is ahead of another. -/
theorem sep_two {u v : P2} (h : u ≠ v) : ∃ w, crs w u < crs w v := by
  obtain ⟨a, b⟩ := u
  obtain ⟨c, d⟩ := v
  rcases Int.lt_trichotomy a c with k | k | k
  · exact ⟨(0, -1), by unfold crs; simp only; omega⟩
  · subst k
    rcases Int.lt_trichotomy b d with k | k | k
    · exact ⟨(1, 0), by unfold crs; simp only; omega⟩
    · subst k; exact absurd rfl h
    · exact ⟨(-1, 0), by unfold crs; simp only; omega⟩
  · exact ⟨(0, 1), by unfold crs; simp only; omega⟩
theorem over_all (f : P2 → Int) : ∀ l : List P2, ∃ N : Int, 0 ≤ N ∧ ∀ s ∈ l, f s < N := by
  intro l
  induction l with
  | nil => exact ⟨0, by omega, fun s hs => by simp at hs⟩
  | cons a l ih =>
    obtain ⟨N, h0, h⟩ := ih
    by_cases c : f a < N
    · exact ⟨N, h0, fun s hs => by rcases List.mem_cons.1 hs with rfl | hs; exact c; exact h s hs⟩
    · refine ⟨f a + 1, by omega, fun s hs => ?_⟩
      rcases List.mem_cons.1 hs with rfl | hs
      · omega
      · have := h s hs; omega
/-- Each corner is the only one that is foremost in some direction. -/
theorem corner_any {h : List P2} (p : Poly h) {i : Nat} (hi : i < h.length) : ∃ w, ∀ r ∈ h, r ≠ g h i → crs w (g h i) < crs w r := by
  by_cases h3 : 3 ≤ h.length
  · exact corner_side p h3 hi
  · by_cases h2 : h.length = 2
    · have hne : g h 0 ≠ g h 1 := lt2_ne (p.first 0 (by omega))
      have two : ∀ r ∈ h, r = g h 0 ∨ r = g h 1 := fun r hr => by
        obtain ⟨j, hj, rfl⟩ := mem_g hr
        rcases (show j = 0 ∨ j = 1 by omega) with rfl | rfl
        · exact .inl rfl
        · exact .inr rfl
      rcases (show i = 0 ∨ i = 1 by omega) with rfl | rfl
      · obtain ⟨w, hw⟩ := sep_two hne
        exact ⟨w, fun r hr hn => by rcases two r hr with rfl | rfl; exact absurd rfl hn; exact hw⟩
      · obtain ⟨w, hw⟩ := sep_two hne.symm
        exact ⟨w, fun r hr hn => by rcases two r hr with rfl | rfl; exact hw; exact absurd rfl hn⟩
    · refine ⟨(0, 0), fun r hr hn => ?_⟩
      obtain ⟨j, hj, rfl⟩ := mem_g hr
      have : j = i := by omega
      exact absurd (by rw [this]) hn
/-- What is contained and as far as a corner is that corner. -/
theorem in_corner {a : List P2} {w p r : P2} (hw : ∀ s ∈ a, s ≠ p → crs w p < crs w s) (hr : SC a r) (hle : crs w r ≤ crs w p) : r = p := by
  by_cases hne : r = p
  · exact hne
  · exfalso
    obtain ⟨v, hv⟩ := sep_two hne
    obtain ⟨N, n0, hN⟩ := over_all (fun s => crs v r - crs v s) a
    obtain ⟨s, hs, e⟩ := hr (N * w.1 + v.1, N * w.2 + v.2)
    have lin : ∀ x : P2, crs (N * w.1 + v.1, N * w.2 + v.2) x = N * crs w x + crs v x := fun x => by unfold crs; grind
    rw [lin, lin] at e
    by_cases hsp : s = p
    · subst hsp
      have := Int.mul_le_mul_of_nonneg_left hle n0
      omega
    · have h1 := hw s hs hsp
      have h2 : crs v r - crs v s < N := hN s hs
      have h3 := Int.mul_le_mul_of_nonneg_left (show crs w r + 1 ≤ crs w s by omega) n0
      rw [Int.mul_add, Int.mul_one] at h3
      omega
theorem fan_lt {h : List P2} (p : IsH h) {i : Nat} (hi : 0 < i) : ∀ j, i < j → j < h.length → 0 < dt (g h 0) (g h i) (g h j) := by
  have fwd : ∀ k, 0 < k → k < h.length → fw (sb (g h k) (g h 0)) := fun k h0 hk => by
    have := p.first (k - 1) (by omega)
    rw [show k - 1 + 1 = k by omega] at this
    exact fw_sb.2 this
  intro j
  induction j with
  | zero => intro h; omega
  | succ j ih =>
    intro hij hj
    have st := fun h0 => p.fan j h0 hj
    rcases Nat.lt_or_ge i j with c | c
    · have a := ih c (by omega)
      have b := st (by omega)
      rw [dt_eq] at a b ⊢
      exact crs_trans_r (fwd i hi (by omega)) (fwd j (by omega) (by omega)) (fwd (j + 1) (by omega) hj) (by omega) b
    · obtain rfl : i = j := by omega
      exact st hi
theorem pw_unique {R : P2 → P2 → Prop} (asy : ∀ x y, R x y → ¬ R y x) : ∀ a b : List P2, a.Pairwise R → b.Pairwise R → (∀ q, q ∈ a ↔ q ∈ b) → a = b := by
  have irr : ∀ x, ¬ R x x := fun x h => asy x x h h
  intro a
  induction a with
  | nil =>
    intro b _ _ h
    match b with
    | [] => rfl
    | y :: t => exact absurd ((h y).2 (by simp)) (by simp)
  | cons x a ih =>
    intro b ha hb h
    match b, hb, h with
    | [], _, h => exact absurd ((h x).1 (by simp)) (by simp)
    | y :: t, hb, h =>
      have a1 := List.pairwise_cons.1 ha
      have b1 := List.pairwise_cons.1 hb
      have hxy : x = y := by
        rcases List.mem_cons.1 ((h x).1 (by simp)) with e | e
        · exact e
        · rcases List.mem_cons.1 ((h y).2 (by simp)) with e' | e'
          · exact e'.symm
          · exact absurd (a1.1 y e') (asy _ _ (b1.1 x e))
      subst hxy
      have : a = t := ih t a1.2 b1.2 fun q => by
        constructor
        · intro hq
          rcases List.mem_cons.1 ((h q).1 (List.mem_cons_of_mem _ hq)) with e | e
          · subst e; exact absurd (a1.1 q hq) (irr q)
          · exact e
        · intro hq
          rcases List.mem_cons.1 ((h q).2 (List.mem_cons_of_mem _ hq)) with e | e
          · subst e; exact absurd (b1.1 q hq) (irr q)
          · exact e
      rw [this]
/-- A hull, its first corner taken off. -/
theorem poly_cons {h : List P2} (p : IsH h) : ∃ t, h = g h 0 :: t ∧ t.Pairwise (fun x y => 0 < dt (g h 0) x y) ∧ ∀ x ∈ t, lt2 (g h 0) x := by
  match h, p with
  | [], p => exact absurd rfl p.ne
  | a :: t, p =>
    refine ⟨t, rfl, ?_, fun x hx => ?_⟩
    · rw [List.pairwise_iff_getElem]
      intro i j hi hj hij
      have := fan_lt p (i := i + 1) (by omega) (j + 1) (by omega) (by simp; omega)
      rw [g_succ, g_succ, g_eq hi, g_eq hj] at this
      exact this
    · obtain ⟨j, hj, rfl⟩ := mem_g hx
      have := p.first j (by simp; omega)
      rw [g_succ] at this
      exact this
theorem dt_asy (o x y : P2) (h : 0 < dt o x y) : ¬ 0 < dt o y x := by
  have : dt o y x = - dt o x y := by unfold dt; grind
  omega
/-- Hulls that contain each other are the same. -/
theorem poly_ext {a b : List P2} (Pa : Poly a) (Pb : Poly b) (h1 : ∀ r ∈ b, SC a r) (h2 : ∀ r ∈ a, SC b r) : a = b := by
  have sub : ∀ {a b : List P2}, Poly a → (∀ r ∈ b, SC a r) → (∀ r ∈ a, SC b r) → ∀ p ∈ a, p ∈ b := fun {a b} Pa h1 h2 p hp => by
    obtain ⟨i, hi, rfl⟩ := mem_g hp
    obtain ⟨w, hw⟩ := corner_any Pa hi
    obtain ⟨r, hr, e⟩ := h2 _ hp w
    rw [← in_corner hw (h1 r hr) e]
    exact hr
  have ab := sub Pa h1 h2
  have ba := sub Pb h2 h1
  obtain ⟨ta, ea, pa, fa⟩ := poly_cons Pa.toIsH
  obtain ⟨tb, eb, pb, fb⟩ := poly_cons Pb.toIsH
  obtain ⟨x, hx⟩ : ∃ x, g a 0 = x := ⟨_, rfl⟩
  obtain ⟨y, hy⟩ : ∃ y, g b 0 = y := ⟨_, rfl⟩
  rw [hx] at ea pa fa
  rw [hy] at eb pb fb
  subst ea eb
  have hxy : x = y := by
    rcases List.mem_cons.1 (ab x (by simp)) with e | e
    · exact e
    · rcases List.mem_cons.1 (ba y (by simp)) with e' | e'
      · exact e'.symm
      · exact absurd (fb x e) (lt2_asymm (fa y e'))
  subst hxy
  rw [pw_unique (dt_asy x) ta tb pa pb fun q => by
    constructor
    · intro hq
      rcases List.mem_cons.1 (ab q (List.mem_cons_of_mem _ hq)) with e | e
      · subst e; exact absurd (fa q hq) (lt2_irrefl q)
      · exact e
    · intro hq
      rcases List.mem_cons.1 (ba q (List.mem_cons_of_mem _ hq)) with e | e
      · subst e; exact absurd (fb q hq) (lt2_irrefl q)
      · exact e]
/-- The hull of a hull is itself. -/
theorem hullF_self {h : List P2} (P : Poly h) : hullF h = h := by
  obtain ⟨p, i, m⟩ := hullF_poly P.ne
  exact poly_ext p P i (fun r hr => sc_self (m r hr))
/-- A point is contained just if with it the hull is the same. -/
theorem hullF_has {h : List P2} (P : Poly h) (q : P2) : hullF (h ++ [q]) = h ↔ Cont h q := by
  obtain ⟨p, i, m⟩ := hullF_poly (l := h ++ [q]) (by simp)
  rw [cont_iff P]
  constructor
  · intro e
    have := i q (by simp)
    rw [e] at this
    exact this
  · intro c
    refine poly_ext p P (fun r hr => i r (by simp [hr])) (fun r hr => ?_)
    rcases List.mem_append.1 (m r hr) with k | k
    · exact sc_self k
    · rw [List.mem_singleton.1 k]; exact c
/-! ### What turns left at each corner and goes once around is a hull -/
theorem pos_l2 {x y : Int} (h : 0 < x * y) (hy : 0 < y) : 0 < x := by
  rcases Int.lt_or_le 0 x with c | c
  · exact c
  · have := Int.mul_nonneg (show 0 ≤ -x by omega) (show 0 ≤ y by omega)
    rw [Int.neg_mul] at this
    omega
/-- C left of AB, D left of BC, and all in order around O: D is left of AB. -/
theorem conv_fwd {O A B C D : P2} (h1 : 0 < dt A B C) (h2 : 0 < dt B C D) (o1 : 0 < dt O A B) (o2 : 0 < dt O B C) (o3 : 0 < dt O B D) : 0 < dt A B D := by
  have key : dt A B D * dt O B C = dt A B C * dt O B D + dt O A B * dt B C D := by unfold dt; grind
  have a := Int.mul_pos h1 o3
  have b := Int.mul_pos o1 h2
  exact pos_l2 (x := dt A B D) (y := dt O B C) (by omega) o2
theorem conv_back {O A B D E : P2} (h1 : 0 < dt B D E) (h2 : 0 < dt A B D) (o1 : 0 < dt O A D) (o2 : 0 < dt O B D) (o3 : 0 < dt O D E) : 0 < dt A D E := by
  have key : dt A D E * dt O B D = dt A B D * dt O D E + dt O A D * dt B D E := by unfold dt; grind
  have a := Int.mul_pos h2 o3
  have b := Int.mul_pos o1 h1
  exact pos_l2 (x := dt A D E) (y := dt O B D) (by omega) o2
theorem isH_poly {h : List P2} (p : IsH h) : Poly h := by
  refine { toIsH := p, left := fun q hq i hi => ?_ }
  obtain ⟨k, hk, rfl⟩ := mem_g hq
  have z1 : ∀ a b : P2, dt a a b = 0 := fun a b => by unfold dt; grind
  have z2 : ∀ a b : P2, dt a b a = 0 := fun a b => by unfold dt; grind
  have z3 : ∀ a b : P2, dt a b b = 0 := fun a b => by unfold dt; grind
  have cyc : ∀ a b c : P2, dt a b c = dt c a b := fun a b c => by unfold dt; grind
  by_cases h3 : 3 ≤ h.length
  · have fan := fun i j (h0 : 0 < i) (hij : i < j) (hj : j < h.length) => fan_lt p h0 j hij hj
    have turn : ∀ i, i + 2 < h.length → 0 < dt (g h i) (g h (i + 1)) (g h (i + 2)) := fun i hi => by
      have := p.turn h3 i (by omega)
      rw [gc_lt (show i + 1 < h.length by omega), gc_lt hi] at this
      exact this
    -- forward
    have fw1 : ∀ d i, 1 ≤ i → i + 2 + d < h.length → 0 < dt (g h i) (g h (i + 1)) (g h (i + 2 + d)) := by
      intro d
      induction d with
      | zero => intro i _ hi; exact turn i hi
      | succ d ih =>
        intro i h1 hi
        have a := ih (i + 1) (by omega) (by omega)
        rw [show i + 1 + 2 + d = i + 2 + (d + 1) by omega, show i + 1 + 1 = i + 2 by omega] at a
        exact conv_fwd (O := g h 0) (turn i (by omega)) a (fan i (i + 1) (by omega) (by omega) (by omega)) (fan (i + 1) (i + 2) (by omega) (by omega) (by omega)) (fan (i + 1) (i + 2 + (d + 1)) (by omega) (by omega) hi)
    have fwd : ∀ i k, 1 ≤ i → i + 1 < k → k < h.length → 0 < dt (g h i) (g h (i + 1)) (g h k) := fun i k h1 h2 hk => by
      have := fw1 (k - i - 2) i h1 (by omega)
      rwa [show i + 2 + (k - i - 2) = k by omega] at this
    -- back
    have bw1 : ∀ d k, 1 ≤ k → k + 1 + d + 1 < h.length → 0 < dt (g h k) (g h (k + 1 + d)) (g h (k + 1 + d + 1)) := by
      intro d
      induction d with
      | zero => intro k _ hk; exact turn k hk
      | succ d ih =>
        intro k h1 hk
        have a := ih (k + 1) (by omega) (by omega)
        rw [show k + 1 + 1 + d = k + 1 + (d + 1) by omega] at a
        exact conv_back (O := g h 0) a (fwd k (k + 1 + (d + 1)) h1 (by omega) (by omega)) (fan k (k + 1 + (d + 1)) (by omega) (by omega) (by omega)) (fan (k + 1) (k + 1 + (d + 1)) (by omega) (by omega) (by omega)) (fan (k + 1 + (d + 1)) (k + 1 + (d + 1) + 1) (by omega) (by omega) hk)
    have bwd : ∀ k i, 1 ≤ k → k < i → i + 1 < h.length → 0 < dt (g h k) (g h i) (g h (i + 1)) := fun k i h1 h2 hi => by
      have := bw1 (i - k - 1) k h1 (by omega)
      rwa [show k + 1 + (i - k - 1) = i by omega] at this
    by_cases hl : i + 1 < h.length
    · rw [gc_lt hl]
      by_cases e1 : k = i
      · rw [e1, z2]; omega
      · by_cases e2 : k = i + 1
        · rw [e2, z3]; omega
        · rcases Nat.eq_zero_or_pos i with e3 | e3
          · subst e3
            have := fan 1 k (by omega) (by omega) hk
            rw [Nat.zero_add]
            omega
          · rcases Nat.eq_zero_or_pos k with e4 | e4
            · subst e4
              have := fan i (i + 1) e3 (by omega) hl
              rw [cyc]
              omega
            · rcases Nat.lt_or_ge k i with c | c
              · have := bwd k i e4 c hl
                rw [cyc]
                omega
              · have := fwd i k e3 (by omega) hk
                omega
    · have ei : i + 1 = h.length := by omega
      have eg : gc h (i + 1) = g h 0 := by unfold gc; rw [ei, Nat.mod_self]
      rw [eg]
      by_cases e1 : k = i
      · rw [e1, z2]; omega
      · rcases Nat.eq_zero_or_pos k with e4 | e4
        · rw [e4, z3]; omega
        · have := fan k i e4 (by omega) hi
          rw [cyc, cyc]
          omega
  · by_cases h2 : h.length = 2
    · have two : ∀ j, g h (j % 2) = g h 0 ∨ g h (j % 2) = g h 1 := fun j => by
        rcases (show j % 2 = 0 ∨ j % 2 = 1 by omega) with e | e <;> rw [e]
        · exact .inl rfl
        · exact .inr rfl
      rcases (show i = 0 ∨ i = 1 by omega) with rfl | rfl <;> rcases (show k = 0 ∨ k = 1 by omega) with rfl | rfl <;> (unfold gc; rw [h2]; first | (rw [z2]; omega) | (show 0 ≤ dt _ (g h 1) (g h 1); rw [z3]; omega) | (show 0 ≤ dt _ (g h 0) (g h 0); rw [z3]; omega))
    · have h1 : h.length = 1 := by omega
      obtain rfl : i = 0 := by omega
      unfold gc
      rw [h1, Nat.mod_one, z1]
      omega
end Go.Proofs.Gx
namespace Go.Proofs.YtdehnokcjnbjoaaGreat
open Go.RowKit Go.Proofs.Gn Go.Shelf
attribute [local go_sem] Oper.semAt_some
abbrev Pr := (Int × Int) × (Int × Int)
/-- How many sides. -/
def sidesN (ps : Pl) : Nat := if ps.length = 1 then 0 else ps.length
/-- The first k pairs of neighbours. -/
def nbs (ps : Pl) (k : Nat) : List Pr := (List.range k).map fun i => (Gx.g ps i, Gx.gc ps (i + 1))
theorem nbs_succ (ps : Pl) (k : Nat) : nbs ps (k + 1) = nbs ps k ++ [(Gx.g ps k, Gx.gc ps (k + 1))] := by simp [nbs, List.range_succ]
theorem nbs_len (ps : Pl) (k : Nat) : (nbs ps k).length = k := by simp [nbs]
/-- What a round keeps: what was there when the walk began, and the box of the list. -/
def KpN (n₀ Bs : Nat) (W W' : World) : Prop := Below n₀ W W' ∧ ∀ v, W.cell? ⟨Bs, 0, none⟩ = some v → W'.cell? ⟨Bs, 0, none⟩ = some v
theorem kpN_refl (n₀ Bs : Nat) (W : World) : KpN n₀ Bs W W := ⟨Below.refl _ _, fun _ h => h⟩
theorem kpN_trans {n₀ Bs : Nat} {A B C : World} (h : KpN n₀ Bs A B) (k : KpN n₀ Bs B C) : KpN n₀ Bs A C := ⟨h.1.trans k.1, fun v hv => k.2 v (h.2 v hv)⟩
theorem kpN_up {n₀ Bs : Nat} {W W' : World} (h : Up W W') (hn : n₀ ≤ W.heap.size) : KpN n₀ Bs W W' := ⟨h.mono hn, fun _ hv => up_cell h hv⟩
theorem grown_drew (W : World) : W.grownBy W.drew none := ⟨rfl, rfl, rfl, Nat.le_refl _, fun _ _ _ => rfl⟩
theorem yield_cases {e : Ending} {A B : Prop} (h : (e = .returned (.bool true) ∧ A) ∨ (e = .returned (.bool false) ∧ B)) : ∃ bv : Bool, e = .returned (.bool bv) ∧ ((bv = true ∧ A) ∨ (bv = false ∧ B)) := by
  rcases h with ⟨h1, h2⟩ | ⟨h1, h2⟩
  · exact ⟨true, h1, .inl ⟨rfl, h2⟩⟩
  · exact ⟨false, h1, .inr ⟨rfl, h2⟩⟩
theorem upto_mod (k n : Nat) : ((k : Int) + 1).tmod (n : Int) = (((k + 1) % n : Nat) : Int) := by rw [show (k : Int) + 1 = ((k + 1 : Nat) : Int) by omega]; rfl
end Go.Proofs.YtdehnokcjnbjoaaGreat
namespace Go.Proofs.YtdehnokcjnbjoaaGreat
open Go.RowKit Go.Proofs.Gn Go.Shelf
attribute [local go_sem] Oper.semAt_some
/-- What has come when k rounds are over. -/
def upTo {α : Type} (f : Nat → α) (k : Nat) : List α := (List.range k).map f
theorem upTo_succ {α : Type} (f : Nat → α) (k : Nat) : upTo f (k + 1) = upTo f k ++ [f k] := by simp [upTo, List.range_succ]
theorem upTo_len {α : Type} (f : Nat → α) (k : Nat) : (upTo f k).length = k := by simp [upTo]
theorem kpN_b {n₀ Bs : Nat} {w : World} (hn : n₀ ≤ w.heap.size) (hB : Bs < w.heap.size) (W : World) (l : Nat) (o o' : Obj) (hl : w.heap.size ≤ l) (h : W.heap[l]? = some o) (hc : o.isCells = false) (hw : o.isWalk = false) : KpN n₀ Bs W (W.putObj l o') :=
  ⟨belowK_b hn W l o o' hl h hc hw, fun _ hv => ((belowK_b (n₀ := Bs + 1) hB W l o o' hl h hc hw).cell (p := ⟨Bs, 0, none⟩) (Nat.lt_succ_self _)).trans hv⟩
/-- The box is one. -/
theorem box_ex {ps : Pl} (h0 : 0 < ps.length) : ∀ k, k < ps.length → ∃ l1 l2 h1 h2, IsBox ps (k + 1) l1 l2 h1 h2
  | 0, _ => by
    have m := Gx.g_mem h0
    refine ⟨(Gx.g ps 0).1, (Gx.g ps 0).2, (Gx.g ps 0).1, (Gx.g ps 0).2, ⟨_, m, rfl⟩, ⟨_, m, rfl⟩, ⟨_, m, rfl⟩, ⟨_, m, rfl⟩, ?_, ?_, ?_, ?_⟩ <;> (intro i hi; obtain rfl : i = 0 := by omega) <;> exact Int.le_refl _
  | k + 1, hk => by
    obtain ⟨l1, l2, h1, h2, hB⟩ := box_ex h0 k (by omega)
    exact ⟨_, _, _, _, box_step hB hk rfl⟩
theorem box_one {ps : Pl} {l1 l2 h1 h2 l1' l2' h1' h2' : Int} (a : IsBox ps ps.length l1 l2 h1 h2) (b : IsBox ps ps.length l1' l2' h1' h2') : l1 = l1' ∧ l2 = l2' ∧ h1 = h1' ∧ h2 = h2' := by
  have lo : ∀ {f : Int × Int → Int} {x y : Int}, (∃ r ∈ ps, f r = x) → (∀ i, i < ps.length → y ≤ f (Gx.g ps i)) → y ≤ x := fun {f x y} ⟨r, hr, e⟩ h => by
    obtain ⟨i, hi, rfl⟩ := Gx.mem_g hr
    rw [← e]; exact h i hi
  have hi : ∀ {f : Int × Int → Int} {x y : Int}, (∃ r ∈ ps, f r = x) → (∀ i, i < ps.length → f (Gx.g ps i) ≤ y) → x ≤ y := fun {f x y} ⟨r, hr, e⟩ h => by
    obtain ⟨i, hi, rfl⟩ := Gx.mem_g hr
    rw [← e]; exact h i hi
  exact ⟨Int.le_antisymm (lo (f := Prod.fst) b.l1a a.l1b) (lo (f := Prod.fst) a.l1a b.l1b), Int.le_antisymm (lo (f := Prod.snd) b.l2a a.l2b) (lo (f := Prod.snd) a.l2a b.l2b), Int.le_antisymm (hi (f := Prod.fst) a.h1a b.h1b) (hi (f := Prod.fst) b.h1a a.h1b), Int.le_antisymm (hi (f := Prod.snd) a.h2a b.h2b) (hi (f := Prod.snd) b.h2a a.h2b)⟩
theorem box_in {ps : Pl} {l1 l2 h1 h2 : Int} (a : IsBox ps ps.length l1 l2 h1 h2) (q : Int × Int) : Gx.Box ps q ↔ l1 ≤ q.1 ∧ q.1 ≤ h1 ∧ l2 ≤ q.2 ∧ q.2 ≤ h2 := by
  have get : ∀ {r}, r ∈ ps → l1 ≤ r.1 ∧ l2 ≤ r.2 ∧ r.1 ≤ h1 ∧ r.2 ≤ h2 := fun hr => by
    obtain ⟨i, hi, rfl⟩ := Gx.mem_g hr
    exact ⟨a.l1b i hi, a.l2b i hi, a.h1b i hi, a.h2b i hi⟩
  constructor
  · rintro ⟨⟨r, hr, e⟩, ⟨s, hs, f⟩, ⟨t, ht, g⟩, ⟨u, hu, k⟩⟩
    have := get hr; have := get hs; have := get ht; have := get hu
    omega
  · rintro ⟨e, f, g, k⟩
    obtain ⟨r, hr, r1⟩ := a.l1a; obtain ⟨s, hs, s1⟩ := a.h1a; obtain ⟨t, ht, t1⟩ := a.l2a; obtain ⟨u, hu, u1⟩ := a.h2a
    exact ⟨⟨r, hr, by omega⟩, ⟨s, hs, by omega⟩, ⟨t, ht, by omega⟩, ⟨u, hu, by omega⟩⟩
theorem cmp_lt (d : Int) : decide (cmpV d 0 < 0) = decide (d < 0) := by
  unfold cmpV
  rw [Bool.eq_iff_iff]
  simp only [decide_eq_true_eq]
  split
  · omega
  · split <;> omega
theorem up_keepsFrom {B : Nat} {W W' : World} (h : Up W W') : KeepsFrom B W W' := ⟨h.size, fun _ _ _ hk _ => (h.block _ (Array.getElem?_eq_some_iff.1 hk).1).trans hk⟩
/-- A pair of points near enough. -/
abbrev Qp := { x : (Int × Int) × (Int × Int) // (Bd x.1.1 ∧ Bd x.1.2) ∧ (Bd x.2.1 ∧ Bd x.2.2) }
theorem bdL_any {ps : Pl} (h : BdL ps) (k : Nat) : Bd (Gx.g ps k).1 ∧ Bd (Gx.g ps k).2 := by
  by_cases c : k < ps.length
  · exact bdL_get h c
  · have : Gx.g ps k = (0, 0) := by unfold Gx.g; rw [List.getD_eq_getElem?_getD, List.getElem?_eq_none (by omega)]; rfl
    rw [this]; unfold Bd; simp
def qp (ps : Pl) (h : BdL ps) (k : Nat) : Qp := ⟨(Gx.g ps k, Gx.gc ps (k + 1)), bdL_any h _, bdL_any h _⟩
/-- Contained: in the box, and on the left of all sides. -/
theorem cont_upTo {ps : Pl} (hb : BdL ps) {q : Int × Int} : Gx.Cont ps q ↔ Gx.Box ps q ∧ ∀ x ∈ upTo (qp ps hb) (sidesN ps), 0 ≤ Gx.dt x.1.1 x.1.2 q := by
  by_cases h : ps.length = 1
  · have e : upTo (qp ps hb) (sidesN ps) = [] := by unfold sidesN; rw [if_pos h]; rfl
    rw [e]
    exact ⟨fun c => ⟨c.box, fun x hx => by cases hx⟩, fun c => ⟨c.1, fun k => absurd h k⟩⟩
  · have e : Gx.Left ps q ↔ ∀ x ∈ upTo (qp ps hb) (sidesN ps), 0 ≤ Gx.dt x.1.1 x.1.2 q := by
      unfold sidesN upTo Gx.Left
      rw [if_neg h]
      simp only [List.mem_map, List.mem_range, forall_exists_index, and_imp]
      exact ⟨fun H x i hi e => e ▸ H i hi, fun H i hi => H _ i hi rfl⟩
    rw [← e]
    exact ⟨fun c => ⟨c.box, c.left h⟩, fun c => ⟨c.1, fun _ => c.2⟩⟩
/-- There is a side that has the point on its right. -/
theorem cont_no {ps : Pl} (hb : BdL ps) {q : Int × Int} {k : Nat} (hk : k ≤ sidesN ps) {x : Qp} (hx : x ∈ upTo (qp ps hb) k) (h : Gx.dt x.1.1 x.1.2 q < 0) : ¬ Gx.Cont ps q := fun c => by
  obtain ⟨i, hi, rfl⟩ := List.mem_map.1 hx
  have := ((cont_upTo hb).1 c).2 (qp ps hb i) (List.mem_map.2 ⟨i, List.mem_range.2 (by have := List.mem_range.1 hi; omega), rfl⟩)
  omega
end Go.Proofs.YtdehnokcjnbjoaaGreat
namespace Go.Proofs.YtdehnokcjnbjoaaGreat
open Go.RowKit Go.Proofs.Gn Go.Shelf
attribute [local go_sem] Oper.semAt_some
end Go.Proofs.YtdehnokcjnbjoaaGreat
namespace Go.Proofs.YtdehnokcjnbjoaaGreat
open Go.RowKit Go.Proofs.Gn Go.Shelf Go.Sort
def encP (x : Int × Int) : List Value := [.int .i64 x.1, .int .i64 x.2]
theorem flatK_encP (ps : Pl) : (flatK encP 2 ps.toArray).toList = cellsPl ps := by
  apply List.ext_getElem?
  intro i
  rcases Nat.lt_or_ge i (ps.length * 2) with h | h
  · have hs : (flatK encP 2 ps.toArray).size = ps.length * 2 := by simp
    have hg := get_flatK encP 2 ps.toArray i (by simpa using h)
    rw [getElem!_pos _ i (by rw [hs]; exact h)] at hg
    rw [Array.getElem?_toList, Array.getElem?_eq_getElem (by rw [hs]; exact h), hg]
    have hk : i / 2 < ps.length := by omega
    have c := cellsPl_at hk
    have ee : (ps.toArray)[i / 2]! = ps[i / 2] := by rw [getElem!_pos _ _ (by simpa using hk)]; simp
    rw [ee]
    rcases Nat.mod_two_eq_zero_or_one i with m | m
    · rw [m]
      have e : i = i / 2 * 2 := by omega
      rw [← e] at c
      rw [c.1]; rfl
    · rw [m]
      have e : i = i / 2 * 2 + 1 := by omega
      have c2 := c.2
      rw [← e] at c2
      rw [c2]; rfl
  · rw [List.getElem?_eq_none (by simp; omega), List.getElem?_eq_none (by rw [cellsPl_length]; omega)]
theorem own_holds {W : World} {base e n cap g : Nat} {ps : Pl} (h : W.ownsRow base e 2 (.slice (some ⟨g, 0, none⟩) n cap) n (cellsPl ps)) : HoldsK encP 2 W g 0 ps.toArray := by
  intro j hj
  have hl : (cellsPl ps).length = n * 2 := h.1
  have hl2 := hl
  rw [cellsPl_length] at hl2
  have hj2 : j < n * 2 := by simp at hj; omega
  rw [Nat.zero_add, h.cellAt j hj2, h.frozenAt j]
  refine ⟨?_, rfl⟩
  rw [getElem!_pos _ j hj, id, ← flatK_encP, Array.getElem?_toList, Array.getElem?_eq_getElem hj]
/-- Other points of the same number laid into the row. -/
theorem own_put {W : World} {base e n cap g m : Nat} {ps qs : Pl} {os : Array Obj} (h : W.ownsRow base e 2 (.slice (some ⟨g, 0, none⟩) n cap) n (cellsPl ps)) (hq : qs.length = ps.length) :
    (grow (putRowK encP 2 (Go.Sort.ahead W m) g 0 qs.toArray) os).ownsRow base e 2 (.slice (some ⟨g, 0, none⟩) n cap) n (cellsPl qs) := by
  have hn := own_len h
  rcases h with ⟨hl, h | ⟨g', cap', cur, e1, hb, hg, h1, h2, h3, h4⟩⟩
  · simp at h
  · simp only [Value.slice.injEq, Option.some.injEq, Addr.mk.injEq, and_true, true_and] at e1
    obtain ⟨rfl, rfl⟩ := e1
    have hlt : g < W.heap.size := (Array.getElem?_eq_some_iff.1 hg).1
    refine ⟨by rw [cellsPl_length]; omega, .inr ⟨g, cap, putCells id 0 (flatK encP 2 qs.toArray) cur, rfl, hb, ?_, h1, h2, by simp [putCells, h3], ?_⟩⟩
    · unfold grow putRowK putRow mapBlock
      simp only [Array.getElem?_append, Array.size_modify]
      have hlt2 : g < (Go.Sort.ahead W m).heap.size := hlt
      rw [if_pos hlt2]
      have hh : (Go.Sort.ahead W m).heap[g]? = some (.cells cur e (0, 0)) := hg
      rw [Array.getElem?_modify, if_pos rfl, hh]
      rfl
    · have hs : (flatK encP 2 qs.toArray).size = n * 2 := by simp [hq, hn]
      rw [← flatK_encP]
      apply List.ext_getElem?
      intro i
      have hcs : n * 2 ≤ cur.size := by rw [h3]; exact Nat.mul_le_mul_right _ h1
      rcases Nat.lt_or_ge i (n * 2) with k | k
      · rw [List.getElem?_take, if_pos k, Array.getElem?_toList]
        unfold putCells
        rw [Array.getElem?_mapIdx, Array.getElem?_eq_getElem (by omega)]
        simp only [Option.map_some, hs]
        rw [if_pos ⟨Nat.zero_le _, by omega⟩, Array.getElem?_toList, Array.getElem?_eq_getElem (by rw [hs]; exact k), Nat.sub_zero, getElem!_pos _ i (by rw [hs]; exact k)]
        rfl
      · rw [List.getElem?_take, if_neg (by omega), List.getElem?_eq_none (by simp at hs ⊢; omega)]
theorem below_put {W : World} {B g m : Nat} {qs : Pl} {os : Array Obj} (hg : B ≤ g) (hB : B ≤ W.heap.size) : Go.RowKit.Below B W (grow (putRowK encP 2 (Go.Sort.ahead W m) g 0 qs.toArray) os) := by
  refine ⟨rfl, rfl, rfl, by simp [putRowK, Go.Sort.ahead], fun k hk => ?_⟩
  unfold grow putRowK putRow mapBlock
  simp only [Array.getElem?_append, Array.size_modify]
  have : k < (Go.Sort.ahead W m).heap.size := by show k < W.heap.size; omega
  rw [if_pos this, Array.getElem?_modify, if_neg (by omega)]
  rfl
/-! ### Sorting -/
theorem swoP : SWO (ltOf fun a b : Int × Int => cmp2 a.1 a.2 b.1 b.2) where
  irrefl x := by unfold ltOf; rw [decide_eq_false_iff_not, cmp2_neg]; exact Gx.lt2_irrefl x
  trans x y z h1 h2 := by
    unfold ltOf at *
    rw [decide_eq_true_eq, cmp2_neg] at *
    exact Gx.lt2_trans h1 h2
  ntrans x y z h1 h2 := by
    unfold ltOf at *
    rw [decide_eq_false_iff_not, cmp2_neg] at *
    intro h
    rcases Gx.lt2_tri y x with k | k | k
    · exact h2 (Gx.lt2_trans k h)
    · subst k; exact h2 h
    · exact h1 k
theorem cmpLaysP (blk off size : Nat) (w : World) : CmpLays Tryz.prog 158 #[] encP 2 (fun a b : Int × Int => cmp2 a.1 a.2 b.1 b.2) blk off size w :=
  fun _ _ _ _ x y => (p_compareG x.1 x.2 y.1 y.2 _).mono fun _ _ ⟨he, hg⟩ => ⟨he, hg⟩
theorem encP_one : ∀ x, ∀ v ∈ encP x, v.oneCell' = true := fun x v hv => by simp [encP] at hv; rcases hv with rfl | rfl <;> rfl
theorem p_sort {B n cap g : Nat} {ps : Pl} (W : World) (h : W.ownsRow B 55 2 (.slice (some ⟨g, 0, none⟩) n cap) n (cellsPl ps)) (hB : B ≤ W.heap.size) (hg : B ≤ g) (hgl : g < W.heap.size) (hn : n ≤ 70000) :
    Calls Tryz.prog 153 #[.slice (some ⟨g, 0, none⟩) n cap, .func (.func 158) #[] #[]] W fun e w' => e = .returned (.tuple #[]) ∧
      ∃ qs : Pl, qs.Perm ps ∧ qs.Pairwise Gx.le2 ∧ w'.ownsRow B 55 2 (.slice (some ⟨g, 0, none⟩) n cap) n (cellsPl qs) ∧ Go.RowKit.Below B W w' := by
  have eg : ∀ args w, (callFunc 158 args).run Tryz.prog w = .ok (.enter 158 args) w := enters_of Tryz.func158 (by kernel_rfl) rfl
  have hln := own_len h
  have hcon := AnyQ.slices_SortFunc Tryz.sortP 2 Tryz.isAgg55 Tryz.sizeOf55 encP (fun _ => rfl) encP_one (fun a b : Int × Int => cmp2 a.1 a.2 b.1 b.2) swoP 158 #[] g 0 cap ps.toArray W eg (cmpLaysP g 0 _ W) (own_holds h) hgl (by simp; omega)
  change Calls Tryz.prog 153 _ _ _ at hcon
  have e1 : (ps.toArray).size = n := by simp [hln]
  rw [e1] at hcon
  refine hcon.mono fun e w' ⟨he, d', m, os, hp, hs, hw⟩ => ⟨he, d'.toList, ?_, ?_, ?_, ?_⟩
  · obtain ⟨h1, _, h3⟩ := hp
    have h1' : d'.size = n := by rw [h1, e1]
    rw [← h1'] at h3
    simp only [Array.extract_size] at h3
    have : (ps.toArray).extract 0 d'.size = ps.toArray := by rw [h1', ← e1, Array.extract_size]
    rw [this] at h3
    simpa using h3
  · have h1' : d'.size = n := by rw [hp.1, e1]
    rw [List.pairwise_iff_getElem]
    intro i j hi hj hij
    have k := hs i j (Nat.zero_le _) hij (by simp at hj; omega)
    rw [getElem!_pos d' i (by simpa using hi), getElem!_pos d' j (by simpa using hj)] at k
    unfold ltOf at k
    rw [decide_eq_false_iff_not, cmp2_neg] at k
    simp only [Array.getElem_toList]
    rcases Gx.lt2_tri d'[i] d'[j] with t | t | t
    · exact .inr t
    · exact .inl t
    · exact absurd t k
  · have h1' : d'.toList.length = ps.length := by have := hp.1; simp at this ⊢; omega
    have := own_put (m := m) (os := os) h h1'
    rw [Array.toArray_toList] at this
    rw [hw]; exact this
  · have := below_put (W := W) (m := m) (qs := d'.toList) (os := os) hg hB
    rw [Array.toArray_toList] at this
    rw [hw]; exact this
theorem p_reverse {B n cap g : Nat} {ps : Pl} (W : World) (h : W.ownsRow B 55 2 (.slice (some ⟨g, 0, none⟩) n cap) n (cellsPl ps)) (hB : B ≤ W.heap.size) (hg : B ≤ g) (hn : n ≤ 70000) :
    Calls Tryz.prog 161 #[.slice (some ⟨g, 0, none⟩) n cap] W fun e w' => e = .returned (.tuple #[]) ∧
      w'.ownsRow B 55 2 (.slice (some ⟨g, 0, none⟩) n cap) n (cellsPl ps.reverse) ∧ Go.RowKit.Below B W w' ∧ W.grownBy w' (some g) := by
  have hln := own_len h
  have hcon := AnyQ.slices_Reverse Tryz.revP 2 Tryz.isAgg55 Tryz.sizeOf55 encP (fun _ => rfl) encP_one g 0 cap ps.toArray W (own_holds h) (by simp; omega)
  change Calls Tryz.prog 161 _ _ _ at hcon
  have e1 : (ps.toArray).size = n := by simp [hln]
  rw [e1] at hcon
  refine hcon.mono fun e w' ⟨he, m, hw⟩ => ⟨he, ?_, ?_, ?_⟩
  · have := own_put (m := m) (os := #[]) (qs := ps.reverse) h (by simp)
    rw [grow_empty] at this
    rw [hw]; simpa using this
  · have := below_put (W := W) (m := m) (qs := ps.reverse) (os := #[]) hg hB
    rw [grow_empty] at this
    rw [hw]; simpa using this
  · rw [hw]
    refine ⟨rfl, rfl, rfl, by simp [putRowK, Go.Sort.ahead], fun k hk hne => ?_⟩
    unfold putRowK putRow mapBlock
    have : g ≠ k := fun e => hne (by rw [e])
    simp only [Array.getElem?_modify]
    rw [if_neg this]
    rfl
theorem cells_at {w : World} {b off : Nat} {ps : Pl} (hc : ∀ k (h : k < ps.length), w.cell? ⟨b, off + k * 2, none⟩ = some (.int .i64 ps[k].1) ∧ w.cell? ⟨b, off + k * 2 + 1, none⟩ = some (.int .i64 ps[k].2)) :
    ∀ j u, (cellsPl ps)[j]? = some u → w.cell? ⟨b, off + j, none⟩ = some u := by
  intro j u hj
  have hl : j < ps.length * 2 := by rw [← cellsPl_length]; exact (List.getElem?_eq_some_iff.1 hj).1
  have hk : j / 2 < ps.length := by omega
  have c := cellsPl_at hk
  have d := hc _ hk
  rcases Nat.mod_two_eq_zero_or_one j with m | m
  · have e : j = j / 2 * 2 := by omega
    rw [← e] at c d
    rw [c.1] at hj
    rw [d.1, ← hj]
  · have e : j / 2 * 2 + 1 = j := by omega
    have c2 := c.2
    have d2 := d.2
    rw [Nat.add_assoc, e] at d2
    rw [e] at c2
    rw [c2] at hj
    rw [d2, ← hj]
theorem cellsPl_one (ps : Pl) : ∀ u ∈ cellsPl ps, u.oneCell' = true := by
  intro u hu
  simp only [cellsPl, List.mem_flatMap] at hu
  obtain ⟨p, _, hp⟩ := hu
  exact encP_one p u hp
theorem p_clone (A : Option Addr) (ps : Pl) (cap : Nat) (W : World) (h : Pts W A ps) (h0 : 0 < ps.length) (hn : ps.length ≤ 70000) :
    Calls Tryz.prog 157 #[.slice A ps.length cap] W fun e w' => ∃ v, e = .returned v ∧ w'.ownsRow W.heap.size 55 2 v ps.length (cellsPl ps) ∧ Go.RowKit.Below W.heap.size W w' := by
  rcases h with rfl | ⟨b, off, rfl, hc⟩
  · simp at h0
  obtain ⟨i0, hi, hz0, hz1, hz2⟩ := info_parts info_pt
  have hcon := AnyE.slices_Clone Tryz.cloneP i0 _ 2 16 hi hz0 hz1 hz2 rfl (by decide) Tryz.sizeOf55 b off ps.length cap (cellsPl ps) W (cellsPl_length ps) (by unfold maxLen; omega) (by omega) (cells_at hc) (cellsPl_one ps)
  change Calls Tryz.prog 157 _ _ _ at hcon
  exact hcon.mono fun e w' ⟨v, he, ho, _, hb⟩ => ⟨v, he, ho, hb⟩
end Go.Proofs.YtdehnokcjnbjoaaGreat
namespace Go.Proofs.YtdehnokcjnbjoaaGreat
open Go.RowKit Go.Proofs.Gn
open Gx (dedup)
theorem dedup_snoc : ∀ (l : Pl) (a b : Int × Int), dedup (l ++ [a, b]) = if a = b then dedup (l ++ [a]) else dedup (l ++ [a]) ++ [b] := by
  intro l
  induction l with
  | nil =>
    intro a b
    simp only [List.nil_append, dedup]
    split
    · rename_i h; subst h; rfl
    · rfl
  | cons x l ih =>
    intro a b
    match l, ih with
    | [], ih =>
      have := ih a b
      simp only [List.nil_append] at this
      simp only [List.cons_append, List.nil_append]
      unfold dedup
      split
      · rename_i h
        subst h
        exact this
      · rw [this]
        split
        · rfl
        · rfl
    | y :: l, ih =>
      have := ih a b
      simp only [List.cons_append] at this ⊢
      conv => lhs; unfold dedup
      conv => rhs; unfold dedup
      split
      · exact this
      · rw [this]
        split <;> rfl
theorem dedup_take {ps : Pl} {k : Nat} (h0 : 0 < k) (h : k < ps.length) : dedup (ps.take (k + 1)) = if Gx.g ps (k - 1) = Gx.g ps k then dedup (ps.take k) else dedup (ps.take k) ++ [Gx.g ps k] := by
  obtain ⟨j, rfl⟩ : ∃ j, k = j + 1 := ⟨k - 1, by omega⟩
  have e1 : ps.take (j + 1 + 1) = ps.take j ++ [ps[j], ps[j + 1]] := by
    rw [List.take_succ_eq_append_getElem h, List.take_succ_eq_append_getElem (by omega), List.append_assoc]; rfl
  have e2 : ps.take (j + 1) = ps.take j ++ [ps[j]] := by rw [List.take_succ_eq_append_getElem (by omega)]
  rw [e1, dedup_snoc, Gx.g_eq h, Nat.add_sub_cancel, Gx.g_eq (by omega), e2]
theorem dedup_len : ∀ l : Pl, (dedup l).length ≤ l.length := by
  intro l
  induction l with
  | nil => exact Nat.le_refl _
  | cons a l ih =>
    match l, ih with
    | [], _ => exact Nat.le_refl _
    | b :: t, ih =>
      unfold dedup
      split
      · exact Nat.le_trans ih (by simp)
      · simp only [List.length_cons] at ih ⊢; omega
/-- Where the library stands behind the first equal neighbours: d points are kept of the first k + j. -/
def Inn (B : Nat) (W : World) (n k : Nat) (ps : Pl) (g cap : Nat) (wx : World) (d j : Nat) : Prop :=
  ∃ cur : Pl, d = (dedup (ps.take (k + j))).length ∧ d + 1 ≤ k + j ∧ cur.take d = dedup (ps.take (k + j)) ∧ (∀ t, k + j ≤ t + 1 → t < n → Gx.g cur t = Gx.g ps t) ∧
    wx.ownsRow B 55 2 (.slice (some ⟨g, 0, none⟩) n cap) n (cellsPl cur) ∧ Below B W wx
theorem cellsPl_set2 {ps : Pl} {k : Nat} (h : k < ps.length) (x y : Int) : ((cellsPl ps).set (k * 2) (.int .i64 x)).set (k * 2 + 1) (.int .i64 y) = cellsPl (ps.set k (x, y)) := by
  induction ps generalizing k with
  | nil => simp at h
  | cons p ps ih =>
    cases k with
    | zero => rfl
    | succ k =>
      have := ih (k := k) (by simpa using h)
      rw [show (k + 1) * 2 = k * 2 + 2 by omega, show k * 2 + 2 + 1 = k * 2 + 1 + 2 by omega]
      show .int .i64 p.1 :: .int .i64 p.2 :: ((cellsPl ps).set (k * 2) (.int .i64 x)).set (k * 2 + 1) (.int .i64 y) = _
      rw [this]
      rfl
theorem g_set_ne {l : Pl} {i j : Nat} {x : Int × Int} (h : i ≠ j) : Gx.g (l.set i x) j = Gx.g l j := by
  unfold Gx.g
  rw [List.getD_eq_getElem?_getD, List.getD_eq_getElem?_getD, List.getElem?_set_ne h]
theorem inn_same {B : Nat} {W : World} {n k : Nat} {ps : Pl} {g cap : Nat} {wx w' : World} {d j : Nat} (h : Inn B W n k ps g cap wx d j) (e : dedup (ps.take (k + j + 1)) = dedup (ps.take (k + j))) (hu : Up wx w') (hB : B ≤ W.heap.size) : Inn B W n k ps g cap w' d (j + 1) := by
  obtain ⟨cur, f1, f2, f3, f4, f5, f6⟩ := h
  exact ⟨cur, by rw [← Nat.add_assoc, e]; exact f1, by omega, by rw [← Nat.add_assoc, e]; exact f3, fun t h1 h2 => f4 t (by omega) h2, own_up f5 hu, below_up f6 hB hu⟩
theorem inn_step {B : Nat} {W : World} {n k : Nat} {ps : Pl} {g cap : Nat} {wx w' : World} {d j : Nat} {x y : Int} (h : Inn B W n k ps g cap wx d j) (e : dedup (ps.take (k + j + 1)) = dedup (ps.take (k + j)) ++ [(x, y)]) (hu : Up wx w') (hB : B ≤ W.heap.size) (hg : B ≤ g) (hkj : k + j < n) :
    Inn B W n k ps g cap ((w'.setCell ⟨g, d * 2, none⟩ (.int .i64 x)).setCell ⟨g, d * 2 + 1, none⟩ (.int .i64 y)) (d + 1) (j + 1) := by
  obtain ⟨cur, f1, f2, f3, f4, f5, f6⟩ := h
  have hl := own_len f5
  have f5' := own_up f5 hu
  have s1 := ((f5'.stored (d * 2) (.int .i64 x)).1.stored (d * 2 + 1) (.int .i64 y)).1
  rw [cellsPl_set2 (by omega)] at s1
  refine ⟨cur.set d (x, y), by rw [← Nat.add_assoc, e, List.length_append, ← f1]; rfl, by omega, ?_, fun t h1 h2 => ?_, s1, ?_⟩
  · rw [← Nat.add_assoc, e, ← f3, List.take_succ_eq_append_getElem (by simp; omega), List.take_set, List.set_eq_of_length_le (by rw [List.length_take]; omega)]
    simp
  · rw [g_set_ne (by omega)]
    exact f4 t (by omega) h2
  · exact ((below_up f6 hB hu).setCell hg _).setCell hg _
theorem own_setCells {B T d cap g : Nat} {xs : List Value} : ∀ (vs : List Value) (W : World) (o : Nat), W.ownsRow B T 2 (.slice (some ⟨g, 0, none⟩) d cap) d xs → d * 2 ≤ o → B ≤ g →
    (W.setCells g o vs).ownsRow B T 2 (.slice (some ⟨g, 0, none⟩) d cap) d xs ∧ Below B W (W.setCells g o vs) := by
  intro vs
  induction vs with
  | nil => intro W o h _ _; exact ⟨h, Below.refl _ _⟩
  | cons v r ih =>
    intro W o h ho hg
    have s1 := (h.stored o v).1
    rw [List.set_eq_of_length_le (by rw [h.1]; exact ho)] at s1
    have := ih _ (o + 1) s1 (by omega) hg
    exact ⟨this.1, ((Below.refl B W).setCell (p := ⟨g, o, none⟩) hg v).trans this.2⟩
theorem run_clear_pts (W : World) (ty : TypeId) (b o n c : Nat) (hn : 0 < n) (hc : ∀ j, j < n * 2 → (W.cell? ⟨b, o + j, none⟩).isSome = true) (hf : ∀ j, j < n * 2 → W.frozen? ⟨b, o + j, none⟩ = false) :
    ∃ vs, (Builtin.clear_ #[37] ty #[.slice (some ⟨b, o, none⟩) n c]).run Tryz.prog W = .ok (.tuple #[]) (W.setCells b o vs) := by
  have hz : ∀ v ∈ (Builtin.zeroCells (Value.agg #[Value.int IntKind.i64 0, Value.int IntKind.i64 0]).cells n).toList, v.oneCell' = true := by
    intro v hv
    simp only [Builtin.zeroCells, Array.mem_toList_iff, Array.mem_map, Array.mem_range] at hv
    obtain ⟨i, hi, rfl⟩ := hv
    have : i % (Value.agg #[Value.int IntKind.i64 0, Value.int IntKind.i64 0]).cells.size < 2 := Nat.mod_lt _ (by decide)
    generalize i % (Value.agg #[Value.int IntKind.i64 0, Value.int IntKind.i64 0]).cells.size = r at this ⊢
    match r, this with
    | 0, _ => rfl
    | 1, _ => rfl
  have hl : (Builtin.zeroCells (Value.agg #[Value.int IntKind.i64 0, Value.int IntKind.i64 0]).cells n).toList.length = n * 2 := by
    rw [Array.length_toList, size_zeroCells]; rfl
  refine ⟨(Builtin.zeroCells (Value.agg #[Value.int IntKind.i64 0, Value.int IntKind.i64 0]).cells n).toList, ?_⟩
  have hst := run_storeCells_cells (P := Tryz.prog) b o (Builtin.zeroCells (Value.agg #[Value.int IntKind.i64 0, Value.int IntKind.i64 0]).cells n).toList 0 W (by rw [hl]; simpa using hc) (by rw [hl]; simpa using hf) hz
  rw [Nat.add_zero] at hst
  obtain ⟨m, rfl⟩ : ∃ m, n = m + 1 := ⟨n - 1, by omega⟩
  simp [Builtin.clear_, run_underlying Tryz.underlying37, Tryz.zeroValue55, hst]
theorem p_compact1 {cap g : Nat} (W : World) :
    Calls Tryz.prog 159 #[.slice (some ⟨g, 0, none⟩) 1 cap] W fun e w' => e = .returned (.slice (some ⟨g, 0, none⟩) 1 cap) ∧ W = w' := by
  go_enter Tryz.func159, Tryz.ntmps159
  go_wp2
  go_ret
  exact ⟨rfl, rfl⟩
set_option maxRecDepth 100000 in
set_option maxHeartbeats 2000000 in
theorem p_compact {B n cap g : Nat} {ps : Pl} (W : World) (h : W.ownsRow B 55 2 (.slice (some ⟨g, 0, none⟩) n cap) n (cellsPl ps)) (hB : B ≤ W.heap.size) (hg : B ≤ g) (h2 : 2 ≤ n) (hn : n ≤ 70000) (hcap : n ≤ cap) (hcap2 : cap ≤ 9223372036854775807) :
    Calls Tryz.prog 159 #[.slice (some ⟨g, 0, none⟩) n cap] W fun e w' => e = .returned (.slice (some ⟨g, 0, none⟩) (dedup ps).length cap) ∧
      w'.ownsRow B 55 2 (.slice (some ⟨g, 0, none⟩) (dedup ps).length cap) (dedup ps).length (cellsPl (dedup ps)) ∧ Below B W w' := by
  have hln := own_len h
  have HO := hide h
  have HLN := hide hln
  clear h hln
  have g1 : (2 : Int) ≤ (n : Int) := by omega
  go_enter Tryz.func159, Tryz.ntmps159
  go_wp2_with fail
  go_loopw [3] (fun i wr => ∃ k : Nat, 1 ≤ k ∧ k ≤ n ∧ i = .int .i64 k ∧ Up W wr ∧ dedup (ps.take k) = ps.take k) (fun i _ => n - (intOf i).toNat)
  case atStart => exact ⟨1, by omega, by omega, rfl, up_refl _, by
    match ps with
    | [] => rfl
    | a :: t => rfl⟩
  case round =>
    obtain ⟨k, k1, kn, rfl, hu, hd⟩ := hrel
    by_cases hlt : k < n
    · have hl : k < ps.length := by rw [← unhide HLN]; exact hlt
      have hc := own_cells (own_up (unhide HO) hu)
      obtain ⟨a0, a1⟩ := pts_g hc (k := k - 1) (by omega)
      obtain ⟨b0, b1⟩ := pts_g hc (k := k) hl
      have hdt := dedup_take k1 hl
      have ht : ps.take k ++ [Gx.g ps k] = ps.take (k + 1) := by rw [List.take_succ_eq_append_getElem hl, Gx.g_eq hl]
      obtain ⟨P, hP⟩ : ∃ P, Gx.g ps (k - 1) = P := ⟨_, rfl⟩
      obtain ⟨Q, hQ⟩ : ∃ Q, Gx.g ps k = Q := ⟨_, rfl⟩
      rw [hP] at a0 a1 hdt
      rw [hQ] at b0 b1 hdt ht
      obtain ⟨p1, p2⟩ := P
      obtain ⟨q1, q2⟩ := Q
      simp only [Nat.zero_add] at a0 a1 b0 b1
      have HD := hide hd
      have HDT := hide hdt
      have HT := hide ht
      have j1 : IntKind.i64.wrap ((k : Int) - 1) = ((k - 1 : Nat) : Int) := by rw [IntWalk.i64_in _ ⟨by omega, by omega⟩]; omega
      have j2 : (k : Int) < (n : Int) := by omega
      have j3 : ((k - 1 : Nat) : Int) < (n : Int) := by omega
      clear hc hP hQ hd hdt ht
      have hcase : (q1 == p1) = false ∨ (q1 = p1 ∧ (q2 == p2) = false) ∨ (q1 = p1 ∧ q2 = p2) := by
        by_cases c1 : q1 = p1
        · by_cases c2 : q2 = p2
          · exact .inr (.inr ⟨c1, c2⟩)
          · exact .inr (.inl ⟨c1, by simpa using c2⟩)
        · exact .inl (by simpa using c1)
      rcases hcase with c | ⟨rfl, c⟩ | ⟨rfl, rfl⟩
      · have hd2 : dedup (ps.take (k + 1)) = ps.take (k + 1) := by
          rw [unhide HDT, if_neg (by intro e; simp at e; simp [e.1] at c), unhide HD, unhide HT]
        have HD2 := hide hd2
        clear hd2
        go_wp2_with fail
        go_quiet (fail)
        go_wp2_with fail
        go_roundw
        case rel => exact ⟨k + 1, by omega, by omega, by go_num, (by repeat' (first | (with_reducible exact up_refl _) | (with_reducible assumption) | (with_reducible refine up_alloc ?_ _) | (with_reducible refine up_drewN ?_ _) | (with_reducible refine up_drew ?_) | (with_reducible refine up_set ?_ (by first | (simp; done) | (simp; omega) | omega) _) | (refine up_trans ?_ (by with_reducible assumption)))), unhide HD2⟩
        case measure => simp [intOf]; omega
      · have hd2 : dedup (ps.take (k + 1)) = ps.take (k + 1) := by
          rw [unhide HDT, if_neg (by intro e; simp at e; simp [e] at c), unhide HD, unhide HT]
        have HD2 := hide hd2
        clear hd2
        go_wp2_with fail
        go_quiet (fail)
        go_wp2_with fail
        go_roundw
        case rel => exact ⟨k + 1, by omega, by omega, by go_num, (by repeat' (first | (with_reducible exact up_refl _) | (with_reducible assumption) | (with_reducible refine up_alloc ?_ _) | (with_reducible refine up_drewN ?_ _) | (with_reducible refine up_drew ?_) | (with_reducible refine up_set ?_ (by first | (simp; done) | (simp; omega) | omega) _) | (refine up_trans ?_ (by with_reducible assumption)))), unhide HD2⟩
        case measure => simp [intOf]; omega
      · have hd2 : dedup (ps.take (k + 1)) = ps.take k := by
          have := unhide HDT
          simp only [if_true] at this
          rw [this, unhide HD]
        have hlk : (ps.take k).length = k := by rw [List.length_take, ← unhide HLN]; omega
        go_wp2_with fail
        go_quiet (fail)
        go_wp2_with fail
        obtain ⟨L, hL⟩ : ∃ L, n - k = L := ⟨_, rfl⟩
        rw [hL]
        obtain ⟨wo, hwo⟩ : ∃ wo : World, wo = wr.drewN nq := ⟨_, rfl⟩
        have huo : Up W wo := by rw [hwo]; exact up_drewN hu _
        rw [← hwo]
        clear hwo
        have HS : Hid (Inn B W n k ps g cap wo k 1) := hide ⟨ps, by rw [hd2, hlk], Nat.le_refl _, by rw [hd2], fun _ _ _ => rfl, own_up (unhide HO) huo, huo.mono hB⟩
        clear hd2 hlk b0 b1 a0 a1 huo hu HT HD HDT
        go_loopw [3, 5] (fun i j wx => ∃ jn d : Nat, 1 ≤ jn ∧ jn ≤ L ∧ j = .int .i64 jn ∧ i = .int .i64 d ∧ Inn B W n k ps g cap wx d jn) (fun _ j _ => L - (intOf j).toNat)
        case atStart => exact ⟨1, k, by omega, by omega, rfl, rfl, unhide HS⟩
        case round =>
          obtain ⟨jn, d, e1, e2, rfl, rfl, hin⟩ := hrel
          have HIN := hide hin
          obtain ⟨cur, f1, f2, f3, f4, f5, f6⟩ := hin
          have f5l := own_len f5
          by_cases hlj : jn < L
          · obtain ⟨a0, a1⟩ := pts_g (own_cells f5) (k := k + jn) (by omega)
            obtain ⟨b0, b1⟩ := pts_g (own_cells f5) (k := k + (jn - 1)) (by omega)
            obtain ⟨d0, d1⟩ := pts_g (own_cells f5) (k := d) (by omega)
            have z0 := f5.frozenAt (d * 2)
            have z1 := f5.frozenAt (d * 2 + 1)
            rw [f4 (k + jn) (by omega) (by omega)] at a0 a1
            rw [f4 (k + (jn - 1)) (by omega) (by omega)] at b0 b1
            simp only [Nat.zero_add, Nat.add_mul] at a0 a1 b0 b1 d0 d1
            have hdt := dedup_take (ps := ps) (k := k + jn) (by omega) (by rw [← unhide HLN]; omega)
            rw [show k + jn - 1 = k + (jn - 1) by omega] at hdt
            obtain ⟨X, hX⟩ : ∃ X, Gx.g ps (k + jn) = X := ⟨_, rfl⟩
            obtain ⟨Y, hY⟩ : ∃ X, Gx.g ps (k + (jn - 1)) = X := ⟨_, rfl⟩
            rw [hX] at a0 a1 hdt
            rw [hY] at b0 b1 hdt
            obtain ⟨x1, x2⟩ := X
            obtain ⟨y1, y2⟩ := Y
            simp only at a0 a1 b0 b1
            have HDT := hide hdt
            have HX := hide hX
            have i1 : IntKind.i64.wrap ((jn : Int) - 1) = ((jn - 1 : Nat) : Int) := by rw [IntWalk.i64_in _ ⟨by omega, by omega⟩]; omega
            have i2 : (jn : Int) < (L : Int) := by omega
            have i3 : ((jn - 1 : Nat) : Int) < (L : Int) := by omega
            have i4 : (d : Int) < (n : Int) := by omega
            clear hdt hX hY f1 f3 f4 f5 f6
            have hcase : (x1 == y1) = false ∨ (x1 = y1 ∧ (x2 == y2) = false) ∨ (x1 = y1 ∧ x2 = y2) := by
              by_cases c1 : x1 = y1
              · by_cases c2 : x2 = y2
                · exact .inr (.inr ⟨c1, c2⟩)
                · exact .inr (.inl ⟨c1, by simpa using c2⟩)
              · exact .inl (by simpa using c1)
            rcases hcase with c | ⟨rfl, c⟩ | ⟨rfl, rfl⟩
            · have ed : dedup (ps.take (k + jn + 1)) = dedup (ps.take (k + jn)) ++ [(x1, x2)] := by
                rw [unhide HDT, if_neg (by intro e; simp at e; simp [e.1] at c)]
              have ST := hide (fun (w' : World) (hu : Up wr w') => inn_step (unhide HIN) ed hu hB hg (by omega))
              clear ed HDT
              go_wp2_with fail
              go_quiet (fail)
              go_wp2_with fail
              exact ⟨⟨jn + 1, d + 1, by omega, by omega, by go_num, by go_num, unhide ST _ (by repeat' (first | (with_reducible exact up_refl _) | (with_reducible assumption) | (with_reducible refine up_alloc ?_ _) | (with_reducible refine up_drewN ?_ _) | (with_reducible refine up_drew ?_) | (with_reducible refine up_set ?_ (by first | (simp; done) | (simp; omega) | omega) _) | (refine up_trans ?_ (by with_reducible assumption))))⟩, by simp [intOf]; omega⟩
            · have ed : dedup (ps.take (k + jn + 1)) = dedup (ps.take (k + jn)) ++ [(x1, x2)] := by
                rw [unhide HDT, if_neg (by intro e; simp at e; simp [e] at c)]
              have ST := hide (fun (w' : World) (hu : Up wr w') => inn_step (unhide HIN) ed hu hB hg (by omega))
              clear ed HDT
              go_wp2_with fail
              go_quiet (fail)
              go_wp2_with fail
              exact ⟨⟨jn + 1, d + 1, by omega, by omega, by go_num, by go_num, unhide ST _ (by repeat' (first | (with_reducible exact up_refl _) | (with_reducible assumption) | (with_reducible refine up_alloc ?_ _) | (with_reducible refine up_drewN ?_ _) | (with_reducible refine up_drew ?_) | (with_reducible refine up_set ?_ (by first | (simp; done) | (simp; omega) | omega) _) | (refine up_trans ?_ (by with_reducible assumption))))⟩, by simp [intOf]; omega⟩
            · have ed : dedup (ps.take (k + jn + 1)) = dedup (ps.take (k + jn)) := by
                rw [unhide HDT, if_pos rfl]
              have ST := hide (fun (w' : World) (hu : Up wr w') => inn_same (unhide HIN) ed hu hB)
              clear ed HDT
              go_wp2_with fail
              go_quiet (fail)
              go_wp2_with fail
              exact ⟨⟨jn + 1, d, by omega, by omega, by go_num, rfl, unhide ST _ (by repeat' (first | (with_reducible exact up_refl _) | (with_reducible assumption) | (with_reducible refine up_alloc ?_ _) | (with_reducible refine up_drewN ?_ _) | (with_reducible refine up_drew ?_) | (with_reducible refine up_set ?_ (by first | (simp; done) | (simp; omega) | omega) _) | (refine up_trans ?_ (by with_reducible assumption))))⟩, by simp [intOf]; omega⟩
          · obtain rfl : jn = L := by omega
            have ek : k + jn = n := by omega
            have ep : ps.take n = ps := List.take_of_length_le (by rw [← unhide HLN]; exact Nat.le_refl _)
            rw [ek, ep] at f1 f3
            have fz := fun j => f5.frozenAt j
            obtain ⟨vs, hvs⟩ := run_clear_pts wr 0 g (d * 2) (n - d) (cap - d) (by omega) (fun j hj => by
              rw [f5.cellAt _ (by omega)]
              have : d * 2 + j < (cellsPl cur).length := by rw [cellsPl_length]; omega
              rw [List.getElem?_eq_getElem this]; rfl) (fun j _ => fz _)
            have f7 := own_setCells vs wr (d * 2) (own_prefix f5 (m := d) (by omega)) (Nat.le_refl _) hg
            rw [cellsPl_take, f3] at f7
            have F7 := hide (show _ ∧ Below B W (wr.setCells g (d * 2) vs) from ⟨f7.1, f6.trans f7.2⟩)
            obtain ⟨WS, hWS⟩ : ∃ WS, wr.setCells g (d * 2) vs = WS := ⟨_, rfl⟩
            rw [hWS] at hvs F7
            have F1 := hide f1
            have i4 : (d : Int) < (n : Int) := by omega
            have i5 : d < n := by omega
            have i6 : d ≤ cap := by omega
            clear f1 f3 f4 f5 f6 f5l f7 fz hWS ep ek
            go_wp2_with fail
            go_ret
            rw [← unhide F1]
            exact ⟨rfl, unhide F7⟩
    · obtain rfl : k = n := by omega
      have e : dedup ps = ps := by
        have := hd
        rwa [List.take_of_length_le (by rw [← unhide HLN]; exact Nat.le_refl _)] at this
      have HF : Hid ((dedup ps).length = k) := hide (by rw [e]; exact (unhide HLN).symm)
      have HE := hide e
      clear hd e
      go_wp2_with fail
      go_ret
      refine ⟨?_, ?_, hu.mono hB⟩
      · rw [unhide HF]; rfl
      · rw [unhide HF, unhide HE]; exact own_up (unhide HO) hu
theorem p_compact_any {B n cap g : Nat} {ps : Pl} (W : World) (h : W.ownsRow B 55 2 (.slice (some ⟨g, 0, none⟩) n cap) n (cellsPl ps)) (hB : B ≤ W.heap.size) (hg : B ≤ g) (h1 : 1 ≤ n) (hn : n ≤ 70000) (hcap : n ≤ cap) (hcap2 : cap ≤ 9223372036854775807) :
    Calls Tryz.prog 159 #[.slice (some ⟨g, 0, none⟩) n cap] W fun e w' => e = .returned (.slice (some ⟨g, 0, none⟩) (dedup ps).length cap) ∧
      w'.ownsRow B 55 2 (.slice (some ⟨g, 0, none⟩) (dedup ps).length cap) (dedup ps).length (cellsPl (dedup ps)) ∧ Below B W w' := by
  rcases Nat.lt_or_ge n 2 with h2 | h2
  · obtain rfl : n = 1 := by omega
    have hl := own_len h
    match ps, hl with
    | [p], _ => exact (p_compact1 W).mono fun e w' ⟨he, hw⟩ => ⟨he, by rw [← hw]; exact h, by rw [← hw]; exact Below.refl _ _⟩
  · exact p_compact W h hB hg h2 hn hcap hcap2
end Go.Proofs.YtdehnokcjnbjoaaGreat
namespace Go.Proofs.YtdehnokcjnbjoaaGreat
open Go.RowKit Go.Proofs.Gn
/-- The corners that are left, in their order. -/
def turnsL (ss : Pl) : Pl := (Gx.chainR ss).reverse
theorem turnsL_snoc (ss : Pl) (p : Int × Int) : turnsL (ss ++ [p]) = leftS p (turnsL ss) ++ [p] := by
  unfold turnsL leftS
  rw [Gx.chainR_snoc, List.reverse_reverse]
  unfold Gx.pushS
  rw [List.reverse_cons]
theorem turnsL_sub (ss : Pl) : ∀ p ∈ turnsL ss, p ∈ ss := by
  intro p hp
  generalize hr : ss.reverse = r
  induction r generalizing ss p with
  | nil =>
    have : ss = [] := by simpa using hr
    subst this
    simp [turnsL, Gx.chainR] at hp
  | cons q r ih =>
    have e : ss = r.reverse ++ [q] := by rw [← List.reverse_reverse ss, hr]; simp
    rw [e] at hp ⊢
    rw [turnsL_snoc] at hp
    rcases List.mem_append.1 hp with hp | hp
    · exact List.mem_append_left _ (ih r.reverse p ((leftS_prefix _ _).subset hp) (by simp))
    · exact List.mem_append_right _ hp
theorem turnsL_len (ss : Pl) : (turnsL ss).length ≤ ss.length := by
  generalize hr : ss.reverse = r
  induction r generalizing ss with
  | nil =>
    have : ss = [] := by simpa using hr
    subst this
    simp [turnsL, Gx.chainR]
  | cons q r ih =>
    have e : ss = r.reverse ++ [q] := by rw [← List.reverse_reverse ss, hr]; simp
    rw [e, turnsL_snoc]
    have a := (leftS_prefix q (turnsL r.reverse)).length_le
    have b := ih r.reverse (by simp)
    simp only [List.length_append, List.length_cons, List.length_nil]
    omega
theorem turnsL_pos {ss : Pl} (h : 0 < ss.length) : 0 < (turnsL ss).length := by
  obtain ⟨t, q, e⟩ : ∃ t q, ss = t ++ [q] := by
    have hne : ss ≠ [] := by intro e; rw [e] at h; simp at h
    exact ⟨ss.dropLast, ss.getLast hne, (List.dropLast_concat_getLast hne).symm⟩
  rw [e, turnsL_snoc]
  simp
theorem bdL_sub {a b : Pl} (h : BdL b) (hs : ∀ p ∈ a, p ∈ b) : BdL a := fun p hp => h p (hs p hp)
theorem turns_own {W : World} {B : Nat} {v : Value} {m : Nat} {ss ps : Pl} {x y : Int} {k : Nat} (ht : turnsL (ss.take (k + 1)) = leftS (x, y) ps ++ [(x, y)]) (hq : leftS (x, y) ps = ps.take m) (hm : (leftS (x, y) ps).length = m)
    (ho : W.ownsRow B 55 2 v (m + 1) (cellsPl (ps.take m) ++ [.int .i64 x, .int .i64 y])) : W.ownsRow B 55 2 v (turnsL (ss.take (k + 1))).length (cellsPl (turnsL (ss.take (k + 1)))) := by
  rw [ht, cellsPl_snoc, List.length_append, hm, hq]
  exact ho
set_option maxRecDepth 100000 in
set_option maxHeartbeats 2000000 in
theorem p_leftTurns (A : Option Addr) (ss : Pl) (cap : Nat) (w : World) (h : Pts w A ss) (hn : ss.length ≤ 70000) (hb : BdL ss) :
    Calls Tryz.prog 160 #[.slice A ss.length cap] w fun e w' => ∃ v, e = .returned v ∧ w'.ownsRow w.heap.size 55 2 v (turnsL ss).length (cellsPl (turnsL ss)) ∧ Below w.heap.size w w' := by
  have HS := hide h
  have HBD := hide hb
  clear h hb
  obtain ⟨n, hN⟩ : ∃ n, ss.length = n := ⟨_, rfl⟩
  rw [hN] at hn ⊢
  have HN := hide hN
  clear hN
  obtain ⟨i0, hi, hz0, hz1, hz2⟩ := info_parts info_pt
  have HI := hide hi
  clear hi
  go_enter Tryz.func160, Tryz.ntmps160
  go_wp2_with fail
  go_loopw [3, 8] (fun v i wr => ∃ k : Nat, k ≤ n ∧ i = .int .i64 k ∧ wr.ownsRow w.heap.size 55 2 v (turnsL (ss.take k)).length (cellsPl (turnsL (ss.take k))) ∧ Below w.heap.size w wr ∧ (k = 0 → v = .slice none 0 0)) (fun _ i _ => n - (intOf i).toNat)
  case atStart => exact ⟨0, Nat.zero_le _, rfl, World.ownsRow_nil _ _ _ _, Below.refl _ _, fun _ => rfl⟩
  case round =>
    obtain ⟨k, hk, rfl, hown, hbe, hnil⟩ := hrel
    by_cases hlt : k < n
    · have hl : k < ss.length := by rw [unhide HN]; exact hlt
      obtain ⟨b, off, rfl, hc⟩ := (unhide HS).resolve_left (by intro e; rw [e] at hl; simp at hl)
      obtain ⟨c0, c1⟩ := hc k hl
      have bd := unhide HBD ss[k] (List.getElem_mem hl)
      have ht : ss.take (k + 1) = ss.take k ++ [(ss[k].1, ss[k].2)] := by rw [List.take_succ_eq_append_getElem hl]
      obtain ⟨x, hx⟩ : ∃ x, ss[k].1 = x := ⟨_, rfl⟩
      obtain ⟨y, hy⟩ : ∃ y, ss[k].2 = y := ⟨_, rfl⟩
      rw [hx] at c0 bd ht
      rw [hy] at c1 bd ht
      have hts := turnsL_snoc (ss.take k) (x, y)
      rw [← ht] at hts
      have d0 := up_cell hbe c0
      have d1 := up_cell hbe c1
      have bps : BdL (turnsL (ss.take k)) := bdL_sub (unhide HBD) fun p hp => List.mem_of_mem_take (turnsL_sub _ p hp)
      have lps : (turnsL (ss.take k)).length ≤ k := by have := turnsL_len (ss.take k); rw [List.length_take, unhide HN] at this; omega
      obtain ⟨ps, hps⟩ : ∃ ps, turnsL (ss.take k) = ps := ⟨_, rfl⟩
      rw [hps] at hown hts bps lps
      have lq := (leftS_prefix (x, y) ps).length_le
      have hq : leftS (x, y) ps = ps.take (leftS (x, y) ps).length := (List.prefix_iff_eq_take.1 (leftS_prefix (x, y) ps))
      have HTS := hide hts
      have HBE := hide hbe
      have HO := hide hown
      have HBP := hide bps
      have hk0 : k = 0 → ps = [] := fun e => by rw [← hps, e]; rfl
      by_cases hk1 : k = 0
      · subst hk1
        obtain rfl := hnil rfl
        obtain rfl := hk0 rfl
        simp only [Nat.zero_mul, Nat.add_zero] at d0 d1
        clear hown hbe hnil hk0 hps hts bps hx hy ht hc c0 c1 lps lq hq
        go_wp2_with (first
          | (go_at_call 179; refine (p_drop0 _ _ _).mono ?_; rintro e w2 ⟨rfl, hb2⟩; have x2 : w2.cell? ⟨wr.heap.size, 0, none⟩ = some (.int .i64 x) := up_cell hb2 (by go_cell); have y2 : w2.cell? ⟨wr.heap.size, 1, none⟩ = some (.int .i64 y) := up_cell hb2 (by go_cell))
          | (at_builtin; refine wpList_append_own _ rfl _ _ 37 rfl w.heap.size 55 i0 _ 2 16 Tryz.underlying37 (unhide HI) hz0 hz1 hz2 rfl (by decide) _ 0 (cellsPl (([] : Pl).take 0)) rfl (World.ownsRow_nil _ _ _ _) ⟨w2.heap.size, 0, none⟩ 1 1 [.int .i64 x, .int .i64 y] rfl rfl (two_new _ _ _ _) (by intro u hu; simp at hu; rcases hu with rfl | rfl <;> rfl) (by unfold maxLen; omega) (by omega) (by have := (unhide HBE).size; have := hb2.size; simp at this ⊢; omega) ?_; intro v' w3 hown' hgrow _))
        have R1 := turns_own (unhide HTS) (ps := []) (m := 0) rfl rfl hown'
        have R2 : Below w.heap.size w w3 := Below.grown (below_up (unhide HBE) (Nat.le_refl _) (up_alloc (up_trans (up_alloc (up_refl _) _) hb2) _)) hgrow (by have := (unhide HBE).size; have := hb2.size; simp at this ⊢; omega) (fun j hj => by cases hj)
        exact ⟨⟨1, by omega, by go_num, R1, R2, by omega⟩, by simp [intOf]; omega⟩
      · have hpos : 0 < ps.length := by
          rw [← hps]
          exact turnsL_pos (by rw [List.length_take, unhide HN]; omega)
        obtain ⟨g, cp, hv, hg, hcp, hcp2⟩ := own_some hown hpos
        subst hv
        obtain ⟨m, hm⟩ : ∃ m, (leftS (x, y) ps).length = m := ⟨_, rfl⟩
        have PD : ∀ W : World, W.ownsRow w.heap.size 55 2 (.slice (some ⟨g, 0, none⟩) ps.length cp) ps.length (cellsPl ps) → W.cell? ⟨wr.heap.size, 0, none⟩ = some (.int .i64 x) → W.cell? ⟨wr.heap.size, 1, none⟩ = some (.int .i64 y) →
            Calls Tryz.prog 179 #[.slice (some ⟨g, 0, none⟩) ps.length cp, .func (.func 180) #[] #[.pointer (some ⟨wr.heap.size, 0, none⟩)]] W fun e w' => e = .returned (.slice (some ⟨g, 0, none⟩) m cp) ∧ Up W w' := fun W hO hx hy => by
          have q := p_drop g ps cp wr.heap.size x y W (own_cells hO) hx hy hcp hcp2 bps bd.1 bd.2
          rwa [hm] at q
        rw [hm] at lq hq
        have HPD := hide PD
        have HQ := hide hq
        have HM := hide hm
        obtain ⟨N, hN2⟩ : ∃ N, ps.length = N := ⟨_, rfl⟩
        rw [hN2] at HO HPD lq lps ⊢
        clear hown hbe hnil hk0 hps hts bps hx hy ht hc c0 c1 PD hq hm hcp hcp2 hpos hN2
        go_wp2_with (first
          | (go_at_call 179; (with_reducible refine (unhide HPD _ ((unhide HO).alloc _) (by go_cell) (by go_cell)).mono ?_); rintro e w2 ⟨rfl, hb2⟩; have x2 : w2.cell? ⟨wr.heap.size, 0, none⟩ = some (.int .i64 x) := up_cell hb2 (by go_cell); have y2 : w2.cell? ⟨wr.heap.size, 1, none⟩ = some (.int .i64 y) := up_cell hb2 (by go_cell))
          | (at_builtin; refine wpList_append_own _ rfl _ _ 37 rfl w.heap.size 55 i0 _ 2 16 Tryz.underlying37 (unhide HI) hz0 hz1 hz2 rfl (by decide) _ m (cellsPl (ps.take m)) rfl (by rw [← cellsPl_take]; exact (own_prefix (own_up ((unhide HO).alloc _) hb2) lq).alloc _) ⟨w2.heap.size, 0, none⟩ 1 1 [.int .i64 x, .int .i64 y] rfl rfl (two_new _ _ _ _) (by intro u hu; simp at hu; rcases hu with rfl | rfl <;> rfl) (by unfold maxLen; omega) (by omega) (by have := (unhide HBE).size; have := hb2.size; simp at this ⊢; omega) ?_; intro v' w3 hown' hgrow _))
        have R1 := turns_own (unhide HTS) (unhide HQ) (unhide HM) hown'
        have R2 : Below w.heap.size w w3 := Below.grown (below_up (unhide HBE) (Nat.le_refl _) (up_alloc (up_trans (up_alloc (up_refl _) _) hb2) _)) hgrow (by have := (unhide HBE).size; have := hb2.size; simp at this ⊢; omega) (fun j hj => by cases hj; exact hg)
        exact ⟨⟨k + 1, by omega, by go_num, R1, R2, by omega⟩, by simp [intOf]; omega⟩
    · obtain rfl : k = n := by omega
      have e : ss.take k = ss := List.take_of_length_le (by rw [unhide HN]; exact Nat.le_refl _)
      rw [e] at hown
      have HO := hide hown
      have HBE := hide hbe
      clear e hown hbe hnil
      go_wp2_with fail
      exact bodyPost_ret (by simp [results, Tryz.results160, go_sem]) rfl ⟨_, rfl, unhide HO, unhide HBE⟩
end Go.Proofs.YtdehnokcjnbjoaaGreat
namespace Go.Proofs.YtdehnokcjnbjoaaGreat
open Go.RowKit Go.Proofs.Gn
theorem cellsPl_append (a b : Pl) : cellsPl (a ++ b) = cellsPl a ++ cellsPl b := by simp [cellsPl]
theorem hullF_eq {ps ss : Pl} (h : ss = Gx.sortU ps) : (ss.length = 1 → Gx.hullF ps = ss) ∧ (ss.length ≠ 1 → Gx.hullF ps = (turnsL ss).take ((turnsL ss).length - 1) ++ (turnsL ss.reverse).take ((turnsL ss.reverse).length - 1)) := by
  subst h
  unfold Gx.hullF Gx.hullS turnsL
  refine ⟨fun h => by rw [if_pos h], fun h => by rw [if_neg h, List.dropLast_eq_take, List.dropLast_eq_take]⟩
theorem own_one {W : World} {base e : Nat} {v : Value} {n : Nat} {ps : Pl} (h : W.ownsRow base e 2 v n (cellsPl ps)) : n = ps.length := own_len h
theorem sort_len (ps : Pl) : (Gx.sortU ps).length ≤ ps.length := by
  have : ∀ (l : Pl) (p : Int × Int), (Gx.insU p l).length ≤ l.length + 1 := by
    intro l p
    induction l with
    | nil => exact Nat.le_refl _
    | cons a l ih =>
      unfold Gx.insU
      split
      · simpa using ih
      · split <;> simp
  generalize hr : ps.reverse = r
  induction r generalizing ps with
  | nil =>
    have : ps = [] := by simpa using hr
    subst this
    exact Nat.le_refl _
  | cons q r ih =>
    have e : ps = r.reverse ++ [q] := by rw [← List.reverse_reverse ps, hr]; simp
    rw [e, Gx.sortU_snoc]
    have a := this (Gx.sortU r.reverse) q
    have b := ih r.reverse (by simp)
    simp only [List.length_append, List.length_cons, List.length_nil]
    omega
theorem own_base {W : World} {base b' e size n : Nat} {v : Value} {xs : List Value} (h : W.ownsRow base e size v n xs) (hb : b' ≤ base) : W.ownsRow b' e size v n xs := by
  rcases h with ⟨hl, h | ⟨g, cap, cur, rfl, h1, h2⟩⟩
  · exact ⟨hl, .inl h⟩
  · exact ⟨hl, .inr ⟨g, cap, cur, rfl, Nat.le_trans hb h1, h2⟩⟩
theorem own_lt {W : World} {base e size n m cap g : Nat} {xs : List Value} (h : W.ownsRow base e size (.slice (some ⟨g, 0, none⟩) n cap) m xs) : g < W.heap.size := by
  rcases h.2 with ⟨k, _⟩ | ⟨g', cap', cur, e1, _, hgg, _⟩
  · simp at k
  · simp only [Value.slice.injEq, Option.some.injEq, Addr.mk.injEq, and_true] at e1
    obtain ⟨rfl, _⟩ := e1
    exact (Array.getElem?_eq_some_iff.1 hgg).1
/-- leftTurns at a list of the call's own. -/
theorem p_turnsO {B m a cp g : Nat} {ss : Pl} (ha : (turnsL ss).length = a) (hm : ss.length = m) (h0 : 0 < m) (hn : m ≤ 70000) (hb : BdL ss) (W : World) (h : W.ownsRow B 55 2 (.slice (some ⟨g, 0, none⟩) m cp) m (cellsPl ss)) :
    Calls Tryz.prog 160 #[.slice (some ⟨g, 0, none⟩) m cp] W fun e w' => ∃ g4 c4, e = .returned (.slice (some ⟨g4, 0, none⟩) a c4) ∧ W.heap.size ≤ g4 ∧ a ≤ c4 ∧ c4 ≤ 9223372036854775807 ∧ w'.ownsRow W.heap.size 55 2 (.slice (some ⟨g4, 0, none⟩) a c4) a (cellsPl (turnsL ss)) ∧ Up W w' := by
  obtain ⟨A, c, e, hp⟩ := own_pts h
  rw [hm] at e
  simp only [Value.slice.injEq, true_and] at e
  obtain ⟨rfl, rfl⟩ := e
  have q := p_leftTurns (some ⟨g, 0, none⟩) ss cp W hp (by omega) hb
  rw [hm, ha] at q
  refine q.mono fun e w' ⟨v, he, ho, hb⟩ => ?_
  have := turnsL_pos (ss := ss) (by omega)
  obtain ⟨g4, c4, rfl, h1, h2, h3⟩ := own_some ho (by omega)
  exact ⟨g4, c4, he, h1, h2, h3, ho, hb⟩
set_option maxRecDepth 100000 in
set_option maxHeartbeats 2000000 in
theorem p_hull (A : Option Addr) (ps : Pl) (cap : Nat) (w : World) (h : Pts w A ps) (h0 : 0 < ps.length) (hn : ps.length ≤ 60000) (hb : BdL ps) :
    Calls Tryz.prog 140 #[.slice A ps.length cap] w fun e w' => ∃ v, e = .returned v ∧ w'.ownsRow w.heap.size 55 2 v (Gx.hullF ps).length (cellsPl (Gx.hullF ps)) ∧ Below w.heap.size w w' := by
  have PC := p_clone A ps cap w h h0 (by omega)
  obtain ⟨ss, hss⟩ : ∃ ss, Gx.sortU ps = ss := ⟨_, rfl⟩
  have hssl : ss.length ≤ ps.length := by rw [← hss]; exact sort_len ps
  have hss0 : 0 < ss.length := by
    rw [← hss]
    exact List.length_pos_iff.2 (Gx.sortU_ne (by intro e; rw [e] at h0; simp at h0))
  have hbs : BdL ss := by rw [← hss]; exact fun p hp => hb p (((Gx.sortU_ok ps).2 p).1 hp)
  have hF := hullF_eq hss.symm
  have PS : ∀ (W : World) (g cp : Nat), W.ownsRow w.heap.size 55 2 (.slice (some ⟨g, 0, none⟩) ps.length cp) ps.length (cellsPl ps) → Below w.heap.size w W → w.heap.size ≤ g → ps.length ≤ cp → cp ≤ 9223372036854775807 →
      Calls Tryz.prog 153 #[.slice (some ⟨g, 0, none⟩) ps.length cp, .func (.func 158) #[] #[]] W fun e w' => e = .returned (.tuple #[]) ∧
        (∃ qs : Pl, Gx.dedup qs = ss ∧ w'.ownsRow w.heap.size 55 2 (.slice (some ⟨g, 0, none⟩) ps.length cp) ps.length (cellsPl qs)) ∧ Below w.heap.size w w' := fun W g cp ho hb hg hc hc2 => by
    have hgl : g < W.heap.size := by
      rcases ho.2 with ⟨k, _⟩ | ⟨g', cap', cur, e1, _, hgg, _⟩
      · simp at k
      · simp only [Value.slice.injEq, Option.some.injEq, Addr.mk.injEq, and_true, true_and] at e1
        obtain ⟨rfl, rfl⟩ := e1
        exact (Array.getElem?_eq_some_iff.1 hgg).1
    refine (p_sort W ho hb.size hg hgl (by omega)).mono fun e w' ⟨he, qs, hp, hq, ho', hb'⟩ => ⟨he, ⟨qs, ?_, ho'⟩, hb.trans hb'⟩
    rw [← hss]
    exact Gx.dedup_sort hp hq
  have PK : ∀ (W : World) (g cp : Nat) (qs : Pl), Gx.dedup qs = ss → W.ownsRow w.heap.size 55 2 (.slice (some ⟨g, 0, none⟩) ps.length cp) ps.length (cellsPl qs) → Below w.heap.size w W → w.heap.size ≤ g → ps.length ≤ cp → cp ≤ 9223372036854775807 →
      Calls Tryz.prog 159 #[.slice (some ⟨g, 0, none⟩) ps.length cp] W fun e w' => e = .returned (.slice (some ⟨g, 0, none⟩) ss.length cp) ∧
        w'.ownsRow w.heap.size 55 2 (.slice (some ⟨g, 0, none⟩) ss.length cp) ss.length (cellsPl ss) ∧ Below w.heap.size w w' := fun W g cp qs hq ho hb hg hc hc2 => by
    refine (p_compact_any W ho hb.size hg (by omega) (by omega) hc hc2).mono fun e w' ⟨he, ho', hb'⟩ => ?_
    rw [hq] at he ho'
    exact ⟨he, ho', hb.trans hb'⟩
  obtain ⟨n, hN⟩ : ∃ n, ps.length = n := ⟨_, rfl⟩
  obtain ⟨m, hM⟩ : ∃ m, ss.length = m := ⟨_, rfl⟩
  rw [hN] at h0 hn hssl PC PS PK
  rw [hN]
  rw [hM] at hssl hss0 hF PK
  have HPC := hide PC
  have HPS := hide PS
  have HPK := hide PK
  have HBS := hide hbs
  have HM := hide hM
  have HF := hide hF
  clear PC PS PK h hb hss hbs hN hM hF
  have g1 : (1 : Int) ≤ (n : Int) := by omega
  by_cases h1 : m = 1
  · subst h1
    have e := (unhide HF).1 rfl
    rw [e, unhide HM]
    clear HBS HF e
    go_enter Tryz.func140, Tryz.ntmps140
    go_wp2_with (first
      | (go_at_call 157; (with_reducible refine (unhide HPC).mono ?_); rintro e w1 ⟨v, rfl, ho1, hb1⟩; obtain ⟨g, cp, rfl, hg, hcp, hcp2⟩ := own_some ho1 (by omega); have O1 := hide ho1; have B1 := hide hb1; clear ho1 hb1 HPC)
      | (go_at_call 153; (with_reducible refine (unhide HPS _ _ _ (unhide O1) (unhide B1) hg hcp hcp2).mono ?_); rintro e w2 ⟨rfl, ⟨qs, hq, ho2⟩, hb2⟩; have O2 := hide ho2; have B2 := hide hb2; have HQ := hide hq; clear ho2 hb2 hq HPS)
      | (go_at_call 159; (with_reducible refine (unhide HPK _ _ _ _ (unhide HQ) (unhide O2) (unhide B2) hg hcp hcp2).mono ?_); rintro e w3 ⟨rfl, ho3, hb3⟩; have O3 := hide ho3; have B3 := hide hb3; clear ho3 hb3 HPK))
    exact bodyPost_ret (by simp [results, Tryz.results140, go_sem]) rfl ⟨_, rfl, unhide O3, unhide B3⟩
  · have h2 : (m : Int) ≠ 1 := by omega
    have h3 : ((m : Int) == 1) = false := by simpa using h2
    obtain ⟨a, ha⟩ : ∃ a, (turnsL ss).length = a := ⟨_, rfl⟩
    obtain ⟨b, hb⟩ : ∃ b, (turnsL ss.reverse).length = b := ⟨_, rfl⟩
    have e := (unhide HF).2 h1
    rw [ha, hb] at e
    have ha0 : 0 < a := by rw [← ha]; exact turnsL_pos (by rw [unhide HM]; exact hss0)
    have hb0 : 0 < b := by rw [← hb]; exact turnsL_pos (by simp [unhide HM]; exact hss0)
    have ha1 : a ≤ m := by rw [← ha, ← unhide HM]; exact turnsL_len ss
    have hb1 : b ≤ m := by rw [← hb, ← unhide HM]; have := turnsL_len ss.reverse; simpa using this
    have P1 : ∀ (W : World) (g cp : Nat), W.ownsRow w.heap.size 55 2 (.slice (some ⟨g, 0, none⟩) m cp) m (cellsPl ss) → _ := fun W g cp ho => p_turnsO (cp := cp) ha (unhide HM) hss0 (by omega) (unhide HBS) W ho
    have P2 : ∀ (W : World) (g cp : Nat), W.ownsRow w.heap.size 55 2 (.slice (some ⟨g, 0, none⟩) m cp) m (cellsPl ss.reverse) → _ := fun W g cp ho => p_turnsO (cp := cp) hb (by rw [List.length_reverse]; exact unhide HM) hss0 (by omega) (bdL_sub (unhide HBS) fun p hp => List.mem_reverse.1 hp) W ho
    have HP1 := hide P1
    have HP2 := hide P2
    have HE := hide e
    clear HF P1 P2 e h2
    go_enter Tryz.func140, Tryz.ntmps140
    go_wp2_with (first
      | (go_at_call 157; (with_reducible refine (unhide HPC).mono ?_); rintro e w1 ⟨v, rfl, ho1, hb1⟩; obtain ⟨g, cp, rfl, hg, hcp, hcp2⟩ := own_some ho1 (by omega); have O1 := hide ho1; have B1 := hide hb1; clear ho1 hb1 HPC)
      | (go_at_call 153; (with_reducible refine (unhide HPS _ _ _ (unhide O1) (unhide B1) hg hcp hcp2).mono ?_); rintro e w2 ⟨rfl, ⟨qs, hq, ho2⟩, hb2⟩; have O2 := hide ho2; have B2 := hide hb2; have HQ := hide hq; clear ho2 hb2 hq HPS)
      | (go_at_call 159; (with_reducible refine (unhide HPK _ _ _ _ (unhide HQ) (unhide O2) (unhide B2) hg hcp hcp2).mono ?_); rintro e w3 ⟨rfl, ho3, hb3⟩; have O3 := hide ho3; have B3 := hide hb3; clear ho3 hb3 HPK)
      | (go_at_call 160; (with_reducible refine (unhide HP1 _ _ _ (unhide O3)).mono ?_); rintro e w4 ⟨g4, c4, rfl, hg4, hc4, hc4', ho4, hb4⟩; have O4 := hide ho4; have B4 := hide hb4; clear ho4 hb4 HP1)
      | (go_at_call 161; (with_reducible refine (p_reverse _ (own_up (unhide O3) (unhide B4)) (Nat.le_trans (unhide B3).size (up_size (unhide B4))) hg (by omega)).mono ?_); rintro e w5 ⟨rfl, ho5, hb5, hgr⟩; have O5 := hide ho5; have B5 := hide hb5; have GR := hide hgr; clear ho5 hb5 hgr)
      | (go_at_call 160; (with_reducible refine (unhide HP2 _ _ _ (unhide O5)).mono ?_); rintro e w6 ⟨g6, c6, rfl, hg6, hc6, hc6', ho6, hb6⟩; have O6 := hide ho6; have B6 := hide hb6; clear ho6 hb6 HP2))
    obtain ⟨i0, hi, hz0, hz1, hz2⟩ := info_parts info_pt
    have gne : g4 ≠ g := by
      have := own_lt (unhide O3)
      omega
    have OL : w6.ownsRow w.heap.size 55 2 (.slice (some ⟨g4, 0, none⟩) (a - 1) c4) (a - 1) (cellsPl ((turnsL ss).take (a - 1))) := by
      rw [← cellsPl_take]
      exact own_prefix (own_base (own_up ((unhide O4).kept (unhide GR) (.inr (by intro e; cases e; exact gne rfl))) (unhide B6)) (unhide B3).size) (Nat.sub_le _ _)
    have CR := cells_at (own_cells (own_prefix (unhide O6) (Nat.sub_le b 1)  |> (fun h => by rw [cellsPl_take] at h; exact h)))
    have BB : Below w.heap.size w w6 := (((unhide B3).trans ((unhide B4).mono (unhide B3).size)).trans (unhide B5)).trans ((unhide B6).mono (Nat.le_trans (unhide B3).size (Nat.le_trans (up_size (unhide B4)) (unhide B5).size)))
    have lr : ((turnsL ss.reverse).take (b - 1)).length = b - 1 := by rw [List.length_take]; omega
    have HI := hide hi
    have HOL := hide OL
    have HCR := hide CR
    have HBB := hide BB
    have HLR := hide lr
    have HLA := hide ha
    clear hi OL CR BB lr ha hb
    have w1' : IntKind.i64.wrap ((a : Int) - 1) = ((a - 1 : Nat) : Int) := by rw [IntWalk.i64_in _ ⟨by omega, by omega⟩]; omega
    have w2' : IntKind.i64.wrap ((b : Int) - 1) = ((b - 1 : Nat) : Int) := by rw [IntWalk.i64_in _ ⟨by omega, by omega⟩]; omega
    have w3' : ((a - 1 : Nat) : Int) ≤ (c4 : Int) := by omega
    have w4' : ((b - 1 : Nat) : Int) ≤ (c6 : Int) := by omega
    have w5' : a - 1 ≤ c4 := by omega
    have w6' : b - 1 ≤ c6 := by omega
    go_region_law (refine step_append_mine _ rfl (.tmp 26) (.tmp 31) 37 rfl w.heap.size 55 i0 _ 2 16 Tryz.underlying37 (unhide HI) hz0 hz1 hz2 rfl (Nat.zero_lt_succ _) (.slice (some ⟨g4, 0, none⟩) (a - 1) c4) (a - 1) (cellsPl ((turnsL ss).take (a - 1))) (by go_simp; done) (by exact unhide HOL) ⟨g6, 0, none⟩ (b - 1) c6 (cellsPl ((turnsL ss.reverse).take (b - 1))) (by go_simp; done) (by rw [cellsPl_length, unhide HLR]) (by intro j u hj; rw [show (⟨g6, 0, none⟩ : Addr).add j = ⟨g6, 0 + j, none⟩ from Go.WideShapes.add_plain _ _ _]; exact unhide HCR j u hj) (cellsPl_one _) (by unfold maxLen; omega) (by omega) (by exact (unhide HBB).size) ?_; intro v' w7 hown' hgrow)
    have hfin : w7.ownsRow w.heap.size 55 2 v' (Gx.hullF ps).length (cellsPl (Gx.hullF ps)) := by
      rw [unhide HE, cellsPl_append, List.length_append, unhide HLR, List.length_take, unhide HLA, Nat.min_eq_left (Nat.sub_le _ _)]
      exact hown'
    have hbel : Below w.heap.size w w7 := Below.grown (Below.drew (unhide HBB)) hgrow (Below.drew (unhide HBB)).size (fun j hj => by cases hj; exact Nat.le_trans (unhide B3).size hg4)
    have HFIN := hide hfin
    have HBEL := hide hbel
    clear hfin hbel hown' hgrow
    go_wp2
    exact bodyPost_ret (by simp [results, Tryz.results140, go_sem]) rfl ⟨_, rfl, unhide HFIN, unhide HBEL⟩
end Go.Proofs.YtdehnokcjnbjoaaGreat
namespace Go.Proofs.YtdehnokcjnbjoaaGreat
open Go.RowKit Go.Proofs.Gn
/-- A list as it lies: where, its points, its capacity. -/
structure Lst where
  at_ : Option Addr
  ps : Pl
  cap : Nat
def Lst.val (l : Lst) : Value := .slice l.at_ l.ps.length l.cap
/-- The slice at A holds these lists. -/
def Lss (w : World) (A : Option Addr) (ls : List Lst) : Prop :=
  ∃ b off, A = some ⟨b, off, none⟩ ∧ ∀ k (h : k < ls.length), w.cell? ⟨b, off + k, none⟩ = some ls[k].val ∧ Pts w ls[k].at_ ls[k].ps ∧ ls[k].ps.length ≤ 9223372036854775807
theorem lss_up {w w' : World} {A : Option Addr} {ls : List Lst} (h : Lss w A ls) (hu : Up w w') : Lss w' A ls := by
  obtain ⟨b, off, hA, hc⟩ := h
  exact ⟨b, off, hA, fun k hk => ⟨up_cell hu (hc k hk).1, pts_up (hc k hk).2.1 hu, (hc k hk).2.2⟩⟩
theorem lss_one {w : World} {b off : Nat} {l : Lst} (h0 : w.cell? ⟨b, off, none⟩ = some l.val) (h1 : Pts w l.at_ l.ps) (h2 : l.ps.length ≤ 9223372036854775807) : Lss w (some ⟨b, off, none⟩) [l] :=
  ⟨b, off, rfl, fun k hk => by
    obtain rfl : k = 0 := by simp at hk; omega
    exact ⟨h0, h1, h2⟩⟩
theorem lss_two {w : World} {b off : Nat} {l m : Lst} (h0 : w.cell? ⟨b, off, none⟩ = some l.val) (h1 : Pts w l.at_ l.ps) (h2 : l.ps.length ≤ 9223372036854775807) (k0 : w.cell? ⟨b, off + 1, none⟩ = some m.val) (k1 : Pts w m.at_ m.ps) (k2 : m.ps.length ≤ 9223372036854775807) : Lss w (some ⟨b, off, none⟩) [l, m] :=
  ⟨b, off, rfl, fun k hk => by
    match k, hk with
    | 0, _ => exact ⟨h0, h1, h2⟩
    | 1, _ => exact ⟨k0, k1, k2⟩⟩
/-- Is no list too long? Are all points valid? -/
def fewB (ls : List Lst) : Bool := ls.all fun l => decide (l.ps.length ≤ 256)
def okLL (ls : List Lst) : Bool := ls.all fun l => okL l.ps
def chkLL (ls : List Lst) : Int := if fewB ls then if okLL ls then 0 else 2 else 6
theorem all_take_succ {α : Type} {f : α → Bool} {l : List α} {k : Nat} (h : k < l.length) : (l.take (k + 1)).all f = ((l.take k).all f && f l[k]) := by
  rw [List.take_succ_eq_append_getElem h, List.all_append]
  simp
theorem all_at {α : Type} {f : α → Bool} {l : List α} {k : Nat} (h : k < l.length) (hk : f l[k] = false) : l.all f = false := by
  rw [List.all_eq_false]
  exact ⟨l[k], List.getElem_mem h, by simp [hk]⟩
theorem p_checkLists (A : Option Addr) (ls : List Lst) (cap : Nat) (w : World) (h : Lss w A ls) (hn : ls.length ≤ 9223372036854775807) :
    Calls Tryz.prog 139 #[.slice A ls.length cap] w fun e w' => e = .returned (.int .i64 (chkLL ls)) ∧ Up w w' := by
  have HL := hide h
  obtain ⟨b, off, rfl, hc⟩ := h
  have HC := hide hc
  clear hc
  obtain ⟨n, hN⟩ : ∃ n, ls.length = n := ⟨_, rfl⟩
  rw [hN]
  have HN := hide hN
  have hn' : n ≤ 9223372036854775807 := by omega
  clear hN hn
  go_enter Tryz.func139, Tryz.ntmps139
  go_wp2_with fail
  go_loopw [10] (fun i wr => ∃ k : Nat, k ≤ n ∧ i = .int .i64 k ∧ Up w wr ∧ fewB (ls.take k) = true) (fun i _ => n - (intOf i).toNat)
  case atStart => exact ⟨0, by omega, rfl, up_refl _, rfl⟩
  case round =>
    obtain ⟨k, hk, rfl, hu, ho⟩ := hrel
    have HO := hide ho
    clear ho
    by_cases hlt : k < n
    · have hl : k < ls.length := by rw [unhide HN]; exact hlt
      have hck := unhide HC k hl
      obtain ⟨l, hL⟩ : ∃ l, ls[k] = l := ⟨_, rfl⟩
      rw [hL] at hck
      have c0 := up_cell hu hck.1
      unfold Lst.val at c0
      have hm := hck.2.2
      have HX := hide hL
      clear hL hck
      by_cases hp : l.ps.length ≤ 256
      · go_wp2_with fail
        go_roundw
        case rel => exact ⟨k + 1, by omega, by go_num, hu, by unfold fewB; rw [all_take_succ hl, unhide HX]; have := unhide HO; unfold fewB at this; rw [this]; simpa using hp⟩
        case measure => simp [intOf]; omega
      · go_wp2_with fail
        go_ret
        refine ⟨ret_int ?_, hu⟩
        unfold chkLL fewB
        rw [all_at hl (by rw [unhide HX]; simpa using hp)]
        rfl
    · obtain rfl : k = n := by omega
      have hz : fewB ls = true := by
        have := unhide HO
        rwa [List.take_of_length_le (by rw [unhide HN]; omega)] at this
      have HZ := hide hz
      clear hz
      go_wp2_with fail
      go_loopw [20] (fun i wr => ∃ j : Nat, j ≤ k ∧ i = .int .i64 j ∧ Up w wr ∧ okLL (ls.take j) = true) (fun i _ => k - (intOf i).toNat)
      case atStart => exact ⟨0, by omega, rfl, hu, rfl⟩
      case round =>
        obtain ⟨j, hj, rfl, hu, ho⟩ := hrel
        have HO2 := hide ho
        clear ho
        by_cases hlt : j < k
        · have hl : j < ls.length := by rw [unhide HN]; exact hlt
          have hck := unhide HC j hl
          obtain ⟨l, hL⟩ : ∃ l, ls[j] = l := ⟨_, rfl⟩
          rw [hL] at hck
          have c0 := up_cell hu hck.1
          unfold Lst.val at c0
          have hp := hide (pts_up hck.2.1 hu)
          have hm := hck.2.2
          have HX := hide hL
          clear hL hck
          cases ho : okL l.ps
          · have hv : chkL l.ps = 2 := by unfold chkL; rw [ho]; rfl
            have HP := hide ho
            clear ho
            go_wp2_with (go_at_call 156; refine (p_checkPoints _ _ _ _ (unhide hp) hm).mono ?_; rintro e w' ⟨rfl, hb⟩)
            go_ret
            refine ⟨ret_int ?_, (by repeat' (first | (with_reducible exact up_refl _) | (with_reducible assumption) | (with_reducible refine up_alloc ?_ _) | (with_reducible refine up_drewN ?_ _) | (with_reducible refine up_drew ?_) | (with_reducible refine up_set ?_ (by first | (simp; done) | (simp; omega) | omega) _) | (refine up_trans ?_ (by with_reducible assumption))))⟩
            unfold chkLL okLL
            rw [unhide HZ, all_at hl (by rw [unhide HX]; exact unhide HP)]
            rfl
          · have hv : chkL l.ps = 0 := by unfold chkL; rw [ho]; rfl
            have HP := hide ho
            clear ho
            go_wp2_with (go_at_call 156; refine (p_checkPoints _ _ _ _ (unhide hp) hm).mono ?_; rintro e w' ⟨rfl, hb⟩)
            go_roundw
            case rel => exact ⟨j + 1, by omega, by go_num, (by repeat' (first | (with_reducible exact up_refl _) | (with_reducible assumption) | (with_reducible refine up_alloc ?_ _) | (with_reducible refine up_drewN ?_ _) | (with_reducible refine up_drew ?_) | (with_reducible refine up_set ?_ (by first | (simp; done) | (simp; omega) | omega) _) | (refine up_trans ?_ (by with_reducible assumption)))), by unfold okLL; rw [all_take_succ hl, unhide HX]; have := unhide HO2; unfold okLL at this; rw [this]; simpa using unhide HP⟩
            case measure => simp [intOf]; omega
        · obtain rfl : j = k := by omega
          have hz2 : chkLL ls = 0 := by
            unfold chkLL
            have := unhide HO2
            rw [List.take_of_length_le (by rw [unhide HN]; omega)] at this
            rw [unhide HZ, this]; rfl
          have HZ2 := hide hz2
          clear hz2
          go_wp2_with fail
          go_ret
          exact ⟨ret_int (unhide HZ2).symm, hu⟩
end Go.Proofs.YtdehnokcjnbjoaaGreat
namespace Go.Proofs.YtdehnokcjnbjoaaGreat
open Go.RowKit Go.Proofs.Gn
open Classical in
/-- Does it turn to the left at each corner? -/
noncomputable def tlB (l : Pl) : Bool := decide (∀ i, i < l.length → 0 < Gx.dt (Gx.g l i) (Gx.gc l (i + 1)) (Gx.gc l (i + 2)))
open Classical in
noncomputable def isHB (l : Pl) : Bool := decide (Gx.IsH l)
open Classical in
theorem isHB_iff {l : Pl} : isHB l = true ↔ Gx.IsH l := by unfold isHB; exact decide_eq_true_iff
open Classical in
theorem tlB_iff {l : Pl} : tlB l = true ↔ ∀ i, i < l.length → 0 < Gx.dt (Gx.g l i) (Gx.gc l (i + 1)) (Gx.gc l (i + 2)) := by unfold tlB; exact decide_eq_true_iff
theorem bool_no {b : Bool} (h : ¬ b = true) : b = false := by cases b; rfl; exact absurd rfl h
theorem tlB_yes {l : Pl} (h : ∀ i, i < l.length → 0 < Gx.dt (Gx.g l i) (Gx.gc l (i + 1)) (Gx.gc l (i + 2))) : tlB l = true := tlB_iff.2 h
theorem tlB_no {l : Pl} {i : Nat} (hi : i < l.length) (h : ¬ 0 < Gx.dt (Gx.g l i) (Gx.gc l (i + 1)) (Gx.gc l (i + 2))) : tlB l = false := bool_no fun k => h (tlB_iff.1 k i hi)
theorem tmod_nat (a b : Nat) : ((a : Int)).tmod (b : Int) = ((a % b : Nat) : Int) := rfl
/-- What isHull looks at of the corners up to k. -/
def FanOK (l : Pl) (k : Nat) : Prop := ∀ i, i < k → Gx.lt2 (Gx.g l 0) (Gx.g l (i + 1)) ∧ (0 < i → 0 < Gx.dt (Gx.g l 0) (Gx.g l i) (Gx.g l (i + 1)))
theorem fan_step {l : Pl} {k : Nat} (h : FanOK l k) (h1 : Gx.lt2 (Gx.g l 0) (Gx.g l (k + 1))) (h2 : 0 < k → 0 < Gx.dt (Gx.g l 0) (Gx.g l k) (Gx.g l (k + 1))) : FanOK l (k + 1) := fun i hi => by
  rcases Nat.lt_or_ge i k with c | c
  · exact h i c
  · obtain rfl : i = k := by omega
    exact ⟨h1, h2⟩
theorem isHB_no {l : Pl} {k : Nat} (hk : k + 1 < l.length) (h : ¬ (Gx.lt2 (Gx.g l 0) (Gx.g l (k + 1)) ∧ (0 < k → 0 < Gx.dt (Gx.g l 0) (Gx.g l k) (Gx.g l (k + 1))))) : isHB l = false := by
  refine bool_no fun q => ?_
  have p := isHB_iff.1 q
  exact h ⟨p.first k hk, fun h0 => p.fan k h0 hk⟩
theorem isHB_end {l : Pl} (h0 : 0 < l.length) (h : FanOK l (l.length - 1)) : isHB l = if l.length < 3 then true else tlB l := by
  have f1 : ∀ i, i + 1 < l.length → Gx.lt2 (Gx.g l 0) (Gx.g l (i + 1)) := fun i hi => (h i (by omega)).1
  have f2 : ∀ i, 0 < i → i + 1 < l.length → 0 < Gx.dt (Gx.g l 0) (Gx.g l i) (Gx.g l (i + 1)) := fun i h1 hi => (h i (by omega)).2 h1
  have ne : l ≠ [] := by intro e; rw [e] at h0; simp at h0
  split
  · rename_i c
    exact isHB_iff.2 ⟨ne, f1, f2, fun h3 => absurd h3 (by omega)⟩
  · rename_i c
    by_cases ht : ∀ i, i < l.length → 0 < Gx.dt (Gx.g l i) (Gx.gc l (i + 1)) (Gx.gc l (i + 2))
    · rw [tlB_yes ht]
      exact isHB_iff.2 ⟨ne, f1, f2, fun _ => ht⟩
    · have e : tlB l = false := bool_no fun k => ht (tlB_iff.1 k)
      rw [e]
      exact bool_no fun q => ht ((isHB_iff.1 q).turn (by omega))
end Go.Proofs.YtdehnokcjnbjoaaGreat
namespace Go.Proofs.YtdehnokcjnbjoaaGreat
open Go.RowKit Go.Proofs.Gn
/-- The length of the piece k, and of the first k pieces. -/
def px (ps : Pl) (k : Nat) : Int := (ps.getD k (0, 0)).1
def py (ps : Pl) (k : Nat) : Int := (ps.getD k (0, 0)).2
def far (ps : Pl) (k : Nat) : Int := root (sqd (px ps k) (py ps k) (px ps (k + 1)) (py ps (k + 1)))
def lon (ps : Pl) : Nat → Int
  | 0 => 0
  | k + 1 => lon ps k + far ps k
theorem lon_succ (ps : Pl) (k : Nat) : lon ps (k + 1) = lon ps k + far ps k := rfl
/-- A list that is looked at: not too long, its points valid, not empty. -/
def wayB (ps : Pl) : Bool := decide (ps.length ≤ 256) && okL ps && decide (0 < ps.length)
def wayE (ps : Pl) : Int := if ps.length ≤ 256 then if okL ps then if 0 < ps.length then 0 else 5 else 2 else 6
def wayV (ps : Pl) : Int := if wayB ps then lon ps (ps.length - 1) else 0
theorem okL_get {ps : Pl} (h : okL ps = true) {k : Nat} (hk : k < ps.length) : okp (px ps k) (py ps k) = true := by
  unfold px py
  rw [List.getD_eq_getElem?_getD, List.getElem?_eq_getElem hk]
  have := List.all_eq_true.1 h ps[k] (List.getElem_mem hk)
  simpa using this
theorem pts_get {w : World} {b off : Nat} {ps : Pl} (hc : ∀ k (h : k < ps.length), w.cell? ⟨b, off + k * 2, none⟩ = some (.int .i64 ps[k].1) ∧ w.cell? ⟨b, off + k * 2 + 1, none⟩ = some (.int .i64 ps[k].2)) {k : Nat} (hk : k < ps.length) :
    w.cell? ⟨b, off + k * 2, none⟩ = some (.int .i64 (px ps k)) ∧ w.cell? ⟨b, off + k * 2 + 1, none⟩ = some (.int .i64 (py ps k)) := by
  unfold px py
  rw [List.getD_eq_getElem?_getD, List.getElem?_eq_getElem hk]
  exact hc k hk
theorem far_bd {ps : Pl} (h : okL ps = true) {k : Nat} (hk : k + 1 < ps.length) : 0 ≤ far ps k ∧ far ps k ≤ 67108864 := by
  have a := okL_get h (k := k) (by omega)
  have b := okL_get h hk
  have a1 := okc_yes (okp_yes a).1
  have a2 := okc_yes (okp_yes a).2
  have b1 := okc_yes (okp_yes b).1
  have b2 := okc_yes (okp_yes b).2
  refine ⟨root_nonneg _, root_le (sqd_nonneg _ _ _ _) (by omega) ?_⟩
  unfold sqd
  have m1 := mul_bd2 (u := px ps (k + 1) - px ps k) (v := px ps (k + 1) - px ps k) (by omega) (by omega) (by omega) (by omega)
  have m2 := mul_bd2 (u := py ps (k + 1) - py ps k) (v := py ps (k + 1) - py ps k) (by omega) (by omega) (by omega) (by omega)
  omega
theorem lon_bd {ps : Pl} (h : okL ps = true) : ∀ k : Nat, k < ps.length → 0 ≤ lon ps k ∧ lon ps k ≤ 67108864 * (k : Int) := by
  intro k
  induction k with
  | zero => intro _; simp [lon]
  | succ k ih =>
    intro hk
    have a := ih (by omega)
    have b := far_bd h hk
    rw [lon_succ]
    omega
theorem chkLL_one (A : Option Addr) (ps : Pl) (cap : Nat) : chkLL [⟨A, ps, cap⟩] = if ps.length ≤ 256 then if okL ps then 0 else 2 else 6 := by
  simp [chkLL, fewB, okLL]
/-! ### The document's own answers -/
def ptsE (ps : Pl) : Int := if ps.length ≤ 256 then if okL ps then 0 else 2 else 6
end Go.Proofs.YtdehnokcjnbjoaaGreat
namespace Go.Proofs.YtdehnokcjnbjoaaGreat
open Go.RowKit Go.Proofs.Gn
theorem okL_bdL {ps : Pl} (h : okL ps = true) : BdL ps := fun p hp => okp_bd (List.all_eq_true.1 h p hp)
/-- The errors of hulls. -/
noncomputable def hulE (ls : List Lst) : Int := if chkLL ls = 0 then if (ls.all fun l => isHB l.ps) then 0 else 2 else chkLL ls
theorem chkLL_zero {ls : List Lst} (h : chkLL ls = 0) : ∀ l ∈ ls, l.ps.length ≤ 256 ∧ okL l.ps = true := by
  unfold chkLL at h
  intro l hl
  cases h1 : fewB ls with
  | false => rw [h1] at h; simp at h
  | true =>
    cases h2 : okLL ls with
    | false => rw [h1, h2] at h; simp at h
    | true => exact ⟨by simpa using List.all_eq_true.1 h1 l hl, List.all_eq_true.1 h2 l hl⟩
theorem hulE_one {A : Option Addr} {ps : Pl} {cap : Nat} (hl : ps.length ≤ 256) (ho : okL ps = true) : hulE [⟨A, ps, cap⟩] = if isHB ps then 0 else 2 := by
  have : chkLL [⟨A, ps, cap⟩] = 0 := by rw [chkLL_one, if_pos hl, ho]; rfl
  unfold hulE
  rw [if_pos this]
  simp
theorem p_HullNone (A : Option Addr) (cap : Nat) (w : World) :
    Calls Tryz.prog 108 #[.slice A 0 cap] w fun e w' => e = .returned (.tuple #[.slice none 0 0, .int .i64 5]) ∧ Up w w' := by
  have PC : ∀ W, Up w W → W.cell? ⟨w.heap.size, 0, none⟩ = some (.slice A 0 cap) → Calls Tryz.prog 139 #[.slice (some ⟨w.heap.size, 0, none⟩) 1 1] W fun e w' => e = .returned (.int .i64 0) ∧ Up W w' := fun W hu hw =>
    p_checkLists (some ⟨w.heap.size, 0, none⟩) [⟨A, [], cap⟩] 1 W (lss_one (l := ⟨A, [], cap⟩) hw (.inl rfl) (by simp)) (by simp)
  have HPC := hide PC
  clear PC
  go_enter Tryz.func108, Tryz.ntmps108
  go_wp2_with (go_at_call 139; (with_reducible refine (unhide HPC _ (by repeat' (first | (with_reducible exact up_refl _) | (with_reducible assumption) | (with_reducible refine up_alloc ?_ _) | (with_reducible refine up_drewN ?_ _) | (with_reducible refine up_drew ?_) | (with_reducible refine up_set ?_ (by first | (simp; done) | (simp; omega) | omega) _) | (refine up_trans ?_ (by with_reducible assumption)))) ?_).mono ?_); (· go_cell); rintro e w1 ⟨rfl, hb1⟩)
  go_ret2
  exact ⟨rfl, (by repeat' (first | (with_reducible exact up_refl _) | (with_reducible assumption) | (with_reducible refine up_alloc ?_ _) | (with_reducible refine up_drewN ?_ _) | (with_reducible refine up_drew ?_) | (with_reducible refine up_set ?_ (by first | (simp; done) | (simp; omega) | omega) _) | (refine up_trans ?_ (by with_reducible assumption))))⟩
theorem p_Hull (A : Option Addr) (ps : Pl) (cap : Nat) (w : World) (h : Pts w A ps) (h0 : 0 < ps.length) (hl : ps.length ≤ 256) (ho : okL ps = true) :
    Calls Tryz.prog 108 #[.slice A ps.length cap] w fun e w' => ∃ v, e = .returned (.tuple #[v, .int .i64 0]) ∧ w'.ownsRow w.heap.size 55 2 v (Gx.hullF ps).length (cellsPl (Gx.hullF ps)) ∧ Below w.heap.size w w' := by
  have PC : ∀ W, Up w W → W.cell? ⟨w.heap.size, 0, none⟩ = some (.slice A ps.length cap) → Calls Tryz.prog 139 #[.slice (some ⟨w.heap.size, 0, none⟩) 1 1] W fun e w' => e = .returned (.int .i64 0) ∧ Up W w' := fun W hu hw => by
    have q := p_checkLists (some ⟨w.heap.size, 0, none⟩) [⟨A, ps, cap⟩] 1 W (lss_one (l := ⟨A, ps, cap⟩) hw (pts_up h hu) (by show ps.length ≤ _; omega)) (by simp)
    rw [chkLL_one, if_pos hl, ho] at q
    exact q
  have PH : ∀ W, Up w W → Calls Tryz.prog 140 #[.slice A ps.length cap] W fun e w' => ∃ v, e = .returned v ∧ w'.ownsRow w.heap.size 55 2 v (Gx.hullF ps).length (cellsPl (Gx.hullF ps)) ∧ Up w w' := fun W hu =>
    (p_hull A ps cap W (pts_up h hu) h0 (by omega) (okL_bdL ho)).mono fun e w' ⟨v, he, hown, hb⟩ => ⟨v, he, own_base hown hu.size, up_trans hu hb⟩
  have HPC := hide PC
  have HPH := hide PH
  clear PC PH h ho
  obtain ⟨n, hN⟩ : ∃ n, ps.length = n := ⟨_, rfl⟩
  rw [hN] at HPC HPH h0 hl ⊢
  obtain ⟨R, hR⟩ : ∃ R, Gx.hullF ps = R := ⟨_, rfl⟩
  rw [hR] at HPH ⊢
  clear hN hR
  have n0 : ((n : Int) == 0) = false := by simp; omega
  go_enter Tryz.func108, Tryz.ntmps108
  go_wp2_with (first | (go_at_call 139; (with_reducible refine (unhide HPC _ (by repeat' (first | (with_reducible exact up_refl _) | (with_reducible assumption) | (with_reducible refine up_alloc ?_ _) | (with_reducible refine up_drewN ?_ _) | (with_reducible refine up_drew ?_) | (with_reducible refine up_set ?_ (by first | (simp; done) | (simp; omega) | omega) _) | (refine up_trans ?_ (by with_reducible assumption)))) ?_).mono ?_); (· go_cell); rintro e w1 ⟨rfl, hb1⟩) | (go_at_call 140; (with_reducible refine (unhide HPH _ (by repeat' (first | (with_reducible exact up_refl _) | (with_reducible assumption) | (with_reducible refine up_alloc ?_ _) | (with_reducible refine up_drewN ?_ _) | (with_reducible refine up_drew ?_) | (with_reducible refine up_set ?_ (by first | (simp; done) | (simp; omega) | omega) _) | (refine up_trans ?_ (by with_reducible assumption))))).mono ?_); rintro e w2 ⟨v, rfl, hown, hb2⟩))
  go_ret2
  exact ⟨v, rfl, hown, hb2⟩
end Go.Proofs.YtdehnokcjnbjoaaGreat
namespace Go.Proofs.YtdehnokcjnbjoaaGreat
open Go.RowKit Go.Proofs.Gn
/-- The hull of some points, as the law looks at it. -/
structure HullOf (qs H : Pl) : Prop where
  pos : 0 < H.length
  poly : Gx.Poly H
  turn : 2 < H.length → ∀ i, i < H.length → 0 < Gx.dt (Gx.g H i) (Gx.gc H (i + 1)) (Gx.gc H (i + 2))
  low : ∀ i, i < H.length → ¬ (Gx.g H i).1 < (Gx.g H 0).1 ∧ ((Gx.g H i).1 = (Gx.g H 0).1 → ¬ (Gx.g H i).2 < (Gx.g H 0).2)
  cont : ∀ q ∈ qs, Gx.Cont H q
  left : ∀ q ∈ qs, ∀ i, i < H.length → 0 ≤ Gx.dt (Gx.g H i) (Gx.gc H (i + 1)) q
  one : H.length = 1 → ∀ q ∈ qs, q = Gx.g H 0
  mem : ∀ r ∈ H, r ∈ qs
theorem hullOf {qs : Pl} (h : qs ≠ []) : HullOf qs (Gx.hullF qs) := by
  obtain ⟨hp, hin, hm⟩ := Gx.hullF_poly h
  obtain ⟨H, hH⟩ : ∃ H, Gx.hullF qs = H := ⟨_, rfl⟩
  rw [hH] at hp hin hm ⊢
  have hpos : 0 < H.length := List.length_pos_iff.2 hp.ne
  have hc : ∀ q ∈ qs, Gx.Cont H q := fun q hq => (Gx.cont_iff hp).2 (hin q hq)
  have h1 : H.length = 1 → ∀ q ∈ qs, q = Gx.g H 0 := fun hl q hq => by
    obtain ⟨r, rfl⟩ := List.length_eq_one_iff.1 hl
    obtain ⟨⟨r1, m1, e1⟩, ⟨r2, m2, e2⟩, ⟨r3, m3, e3⟩, ⟨r4, m4, e4⟩⟩ := (hc q hq).box
    obtain rfl := List.mem_singleton.1 m1; obtain rfl := List.mem_singleton.1 m2; obtain rfl := List.mem_singleton.1 m3; obtain rfl := List.mem_singleton.1 m4
    exact Prod.ext (Int.le_antisymm e2 e1) (Int.le_antisymm e4 e3)
  refine ⟨hpos, hp, fun h2 => hp.turn h2, fun i hi => ?_, hc, fun q hq i hi => ?_, h1, hm⟩
  · rcases i with _ | i
    · exact ⟨Int.lt_irrefl _, fun _ => Int.lt_irrefl _⟩
    · have := hp.first i hi
      unfold Gx.lt2 at this
      constructor
      · omega
      · intro e; omega
  · by_cases hl : H.length = 1
    · have e1 : Gx.gc H (i + 1) = Gx.g H i := by
        obtain rfl : i = 0 := by omega
        unfold Gx.gc; rw [hl]
      rw [e1]
      unfold Gx.dt
      simp [Int.sub_self]
    · exact (hc q hq).left hl i hi
theorem HullOf.is {qs H : Pl} (h : HullOf qs H) : isHB H = true := isHB_iff.2 h.poly.toIsH
/-- Without a corner. -/
def rest (H : Pl) (i : Nat) : Pl := H.take i ++ H.drop (i + 1)
theorem rest_len {H : Pl} {i : Nat} (hi : i < H.length) : (rest H i).length = H.length - 1 := by unfold rest; rw [List.length_append, List.length_take, List.length_drop]; omega
theorem rest_mem {H : Pl} {i : Nat} {r : Int × Int} (h : r ∈ rest H i) : r ∈ H := by
  unfold rest at h
  rcases List.mem_append.1 h with h | h
  · exact List.mem_of_mem_take h
  · exact List.mem_of_mem_drop h
theorem rest_at {H : Pl} {i : Nat} {r : Int × Int} (h : r ∈ rest H i) : ∃ j, j < H.length ∧ j ≠ i ∧ r = Gx.g H j := by
  unfold rest at h
  rcases List.mem_append.1 h with h | h
  · obtain ⟨j, hj, rfl⟩ := List.mem_iff_getElem.1 h
    have hj2 := hj
    rw [List.length_take] at hj2
    exact ⟨j, by omega, by omega, by rw [Gx.g_eq (by omega), List.getElem_take]⟩
  · obtain ⟨j, hj, rfl⟩ := List.mem_iff_getElem.1 h
    have hj2 := hj
    rw [List.length_drop] at hj2
    exact ⟨i + 1 + j, by omega, by omega, by rw [Gx.g_eq (by omega), List.getElem_drop]⟩
theorem rest_not {qs H : Pl} (h : HullOf qs H) (h2 : 1 < H.length) {i : Nat} (hi : i < H.length) : ¬ Gx.Cont (Gx.hullF (rest H i)) (Gx.g H i) := fun c => by
  have hr : rest H i ≠ [] := List.ne_nil_of_length_pos (by rw [rest_len hi]; omega)
  obtain ⟨hp, _, hm⟩ := Gx.hullF_poly hr
  exact Gx.without h.poly h2 hi (fun r hr => rest_at (hm r hr)) ((Gx.cont_iff hp).1 c)
theorem okL_sub {a b : Pl} (h : ∀ r ∈ a, r ∈ b) (hb : okL b = true) : okL a = true := List.all_eq_true.2 fun p hp => List.all_eq_true.1 hb p (h p hp)
theorem hullF_len (ps : Pl) : (Gx.hullF ps).length ≤ 2 * ps.length := by
  obtain ⟨a, b⟩ := hullF_eq (ps := ps) (ss := Gx.sortU ps) rfl
  have hs := sort_len ps
  by_cases h : (Gx.sortU ps).length = 1
  · rw [a h]; omega
  · rw [b h, List.length_append, List.length_take, List.length_take]
    have h1 := turnsL_len (Gx.sortU ps)
    have h2 := turnsL_len (Gx.sortU ps).reverse
    rw [List.length_reverse] at h2
    omega
end Go.Proofs.YtdehnokcjnbjoaaGreat
namespace Go.Proofs.Gx
theorem sqn (x : Int) : 0 ≤ x * x := by
  rcases Int.le_total 0 x with h | h
  · exact Int.mul_nonneg h h
  · have := Int.mul_nonneg (show 0 ≤ -x by omega) (show 0 ≤ -x by omega)
    rw [Int.neg_mul_neg] at this
    exact this
/-- The square of a distance. -/
def fr2 (a b : P2) : Int := (a.1 - b.1) * (a.1 - b.1) + (a.2 - b.2) * (a.2 - b.2)
/-- The next corner, when one more point has been looked at. -/
def gwS (a n p : P2) : P2 := if n = a ∨ dt a n p < 0 ∨ (dt a n p = 0 ∧ fr2 a n < fr2 a p) then p else n
def gwF (a : P2) (l : List P2) : P2 := l.foldl (gwS a) a
theorem gwS_mem {a n p : P2} : gwS a n p = p ∨ gwS a n p = n := by unfold gwS; split; exact .inl rfl; exact .inr rfl
/-- What lies on the line of a side, and is contained, lies on the side. -/
theorem on_side {h : List P2} (P : Poly h) {i j : Nat} (hi : i < h.length) (hj : j < h.length) (hne : g h i ≠ g h j) {q : P2} (hq : SC h q) (h0 : dt (g h i) (g h j) q = 0) :
    fr2 (g h i) q ≤ fr2 (g h i) (g h j) ∧ (fr2 (g h i) q = fr2 (g h i) (g h j) → q = g h j) := by
  obtain ⟨w1, hw1⟩ := corner_any P hi
  obtain ⟨w2, hw2⟩ := corner_any P hj
  have a1 := hw1 _ (g_mem hj) (fun e => hne e.symm)
  have a2 := hw2 _ (g_mem hi) hne
  have b1 : crs w1 (g h i) ≤ crs w1 q := by
    obtain ⟨r, hr, hle⟩ := hq w1
    by_cases e : r = g h i
    · rw [e] at hle; exact hle
    · have := hw1 r hr e; omega
  have b2 : crs w2 (g h j) ≤ crs w2 q := by
    obtain ⟨r, hr, hle⟩ := hq w2
    by_cases e : r = g h j
    · rw [e] at hle; exact hle
    · have := hw2 r hr e; omega
  generalize g h i = a at *
  generalize g h j = b at *
  obtain ⟨ax, ay⟩ := a
  obtain ⟨bx, b_y⟩ := b
  obtain ⟨qx, qy⟩ := q
  obtain ⟨ux, uy⟩ := w1
  obtain ⟨vx, vy⟩ := w2
  unfold dt at h0
  unfold crs at a1 a2 b1 b2
  unfold fr2
  simp only [Prod.mk.injEq] at *
  obtain ⟨dx, hdx⟩ : ∃ d, d = bx - ax := ⟨_, rfl⟩
  obtain ⟨dy, hdy⟩ : ∃ d, d = b_y - ay := ⟨_, rfl⟩
  obtain ⟨ex, hex⟩ : ∃ d, d = qx - ax := ⟨_, rfl⟩
  obtain ⟨ey, hey⟩ : ∃ d, d = qy - ay := ⟨_, rfl⟩
  have hb1 : bx = ax + dx := by omega
  have hb2 : b_y = ay + dy := by omega
  have hq1 : qx = ax + ex := by omega
  have hq2 : qy = ay + ey := by omega
  subst hb1 hb2 hq1 hq2
  have z : dx * ey - dy * ex = 0 := by grind
  have p1 : 0 < ux * dy - uy * dx := by grind
  have p2 : 0 ≤ ux * ey - uy * ex := by grind
  have p3 : vx * dy - vy * dx < 0 := by grind
  have p4 : 0 ≤ (vx * ey - vy * ex) - (vx * dy - vy * dx) := by grind
  obtain ⟨D, hD⟩ : ∃ D, D = dx * dx + dy * dy := ⟨_, rfl⟩
  obtain ⟨s, hs⟩ : ∃ D, D = dx * ex + dy * ey := ⟨_, rfl⟩
  obtain ⟨E, hE⟩ : ∃ D, D = ex * ex + ey * ey := ⟨_, rfl⟩
  have hD0 : 0 < D := by
    refine Int.not_le.1 fun hle => ?_
    have x0 := sqn dx
    have y0 := sqn dy
    have x1 : dx * dx = 0 := by omega
    have y1 : dy * dy = 0 := by omega
    have x2 : dx = 0 := by rcases Int.mul_eq_zero.1 x1 with h | h <;> exact h
    have y2 : dy = 0 := by rcases Int.mul_eq_zero.1 y1 with h | h <;> exact h
    subst x2 y2
    simp at p1
  have c1 : (ux * ey - uy * ex) * D = (ux * dy - uy * dx) * s := by subst hD hs; grind
  have c2 : (vx * ey - vy * ex) * D = (vx * dy - vy * dx) * s := by subst hD hs; grind
  have c3 : E * D = s * s := by subst hD hs hE; grind
  have s0 : 0 ≤ s := by
    refine Int.not_lt.1 fun hlt => ?_
    have k1 := Int.mul_pos p1 (show 0 < -s by omega)
    have k2 := Int.mul_nonneg p2 (Int.le_of_lt hD0)
    rw [Int.mul_neg] at k1
    omega
  have s1 : s ≤ D := by
    refine Int.not_lt.1 fun hlt => ?_
    have k1 := Int.mul_pos (show 0 < -(vx * dy - vy * dx) by omega) (show 0 < s - D by omega)
    have k2 := Int.mul_nonneg p4 (Int.le_of_lt hD0)
    have k3 : ((vx * ey - vy * ex) - (vx * dy - vy * dx)) * D = (vx * dy - vy * dx) * (s - D) := by
      rw [Int.sub_mul, c2, Int.mul_sub]
    rw [Int.neg_mul] at k1
    omega
  have k : s * s ≤ D * D := Int.mul_le_mul s1 s1 s0 (Int.le_of_lt hD0)
  have hle : E ≤ D := by
    refine Int.not_lt.1 fun hlt => ?_
    have := Int.mul_lt_mul_of_pos_right hlt hD0
    omega
  have e1 : (ax - (ax + ex)) * (ax - (ax + ex)) + (ay - (ay + ey)) * (ay - (ay + ey)) = E := by subst hE; grind
  have e2 : (ax - (ax + dx)) * (ax - (ax + dx)) + (ay - (ay + dy)) * (ay - (ay + dy)) = D := by subst hD; grind
  rw [e1, e2]
  refine ⟨hle, fun he => ?_⟩
  subst he
  have s2 : s = E := by
    refine Int.le_antisymm s1 (Int.not_lt.1 fun hlt => ?_)
    have k1 := Int.mul_lt_mul_of_pos_left hlt hD0
    have k2 := Int.mul_le_mul_of_nonneg_right (Int.le_of_lt hlt) s0
    omega
  have z1 : (ex - dx) * (ex - dx) + (ey - dy) * (ey - dy) = 0 := by
    have : (ex - dx) * (ex - dx) + (ey - dy) * (ey - dy) = (ex * ex + ey * ey) - 2 * (dx * ex + dy * ey) + (dx * dx + dy * dy) := by grind
    rw [this, ← hs, ← hE, ← hD, s2]; omega
  have x0 := sqn (ex - dx)
  have y0 := sqn (ey - dy)
  have x1 : (ex - dx) * (ex - dx) = 0 := by omega
  have y1 : (ey - dy) * (ey - dy) = 0 := by omega
  have x2 : ex - dx = 0 := by rcases Int.mul_eq_zero.1 x1 with h | h <;> exact h
  have y2 : ey - dy = 0 := by rcases Int.mul_eq_zero.1 y1 with h | h <;> exact h
  exact ⟨by omega, by omega⟩
/-- The scan finds the next corner. -/
theorem gw_scan {a b : P2} (hab : a ≠ b) (hb : ∀ q : P2, 0 ≤ dt a b q → True) : ∀ (l : List P2) (n : P2),
    (∀ q ∈ l, q = a ∨ q = b ∨ 0 < dt a b q ∨ (dt a b q = 0 ∧ fr2 a q < fr2 a b)) → (n = a ∨ n = b ∨ 0 < dt a b n ∨ (dt a b n = 0 ∧ fr2 a n < fr2 a b)) → (b ∈ l ∨ n = b) → l.foldl (gwS a) n = b := by
  intro l
  induction l with
  | nil =>
    intro n _ _ hm
    rcases hm with h | h
    · cases h
    · exact h
  | cons q l ih =>
    intro n hl hn hm
    rw [List.foldl_cons]
    have hq := hl q (by simp)
    refine ih _ (fun r hr => hl r (by simp [hr])) ?_ ?_
    · rcases gwS_mem (a := a) (n := n) (p := q) with e | e
      · rw [e]; exact hq
      · rw [e]; exact hn
    · by_cases hqb : q = b
      · right
        subst hqb
        unfold gwS
        by_cases hnq : n = q
        · split
          · rfl
          · exact hnq
        · rw [if_pos]
          have e : dt a n q = - dt a q n := by unfold dt; grind
          rcases hn with h | h | h | ⟨h, h'⟩
          · exact .inl h
          · exact absurd h hnq
          · exact .inr (.inl (by omega))
          · exact .inr (.inr ⟨by omega, h'⟩)
      · by_cases hnb : n = b
        · right
          subst hnb
          unfold gwS
          rw [if_neg]
          rintro (h | h | ⟨h, h'⟩)
          · exact hab h.symm
          · rcases hq with k | k | k | ⟨k, _⟩
            · subst k; rw [show dt q n q = 0 from dt_self1 q n] at h; omega
            · exact hqb k
            · omega
            · omega
          · rcases hq with k | k | k | ⟨k, k'⟩
            · subst k
              have : fr2 q q = 0 := by unfold fr2; grind
              have x0 := sqn (q.1 - n.1)
              have y0 := sqn (q.2 - n.2)
              have : 0 ≤ fr2 q n := by unfold fr2; omega
              omega
            · exact hqb k
            · omega
            · omega
        · left
          rcases hm with h | h
          · rcases List.mem_cons.1 h with h | h
            · exact absurd h.symm hqb
            · exact h
          · exact absurd h hnb
/-- From each corner of a hull of points the next one is found. -/
theorem gw_next {l : List P2} (h : l ≠ []) {i : Nat} (hi : i < (hullF l).length) : gwF (g (hullF l) i) l = gc (hullF l) (i + 1) := by
  obtain ⟨P, hsc, hin⟩ := hullF_poly h
  generalize hullF l = H at *
  by_cases h1 : H.length = 1
  · -- all points are the same
    have e0 : i = 0 := by omega
    subst e0
    have e1 : gc H (0 + 1) = g H 0 := by unfold gc; rw [h1]
    have hall : ∀ q ∈ l, q = g H 0 := fun q hq => by
      refine in_corner (a := H) (w := (0, 0)) (p := g H 0) (fun s hs hn => ?_) (hsc q hq) (by unfold crs; simp)
      obtain ⟨j, hj, rfl⟩ := mem_g hs
      exact absurd (by rw [show j = 0 by omega]) hn
    rw [e1]
    unfold gwF
    have : ∀ (m : List P2) (n : P2), (∀ q ∈ m, q = g H 0) → n = g H 0 → m.foldl (gwS (g H 0)) n = g H 0 := by
      intro m
      induction m with
      | nil => intro n _ hn; exact hn
      | cons q m ih =>
        intro n hm hn
        rw [List.foldl_cons]
        refine ih _ (fun r hr => hm r (by simp [hr])) ?_
        rcases gwS_mem (a := g H 0) (n := n) (p := q) with e | e
        · rw [e]; exact hm q (by simp)
        · rw [e]; exact hn
    exact this l _ hall rfl
  · have h2 : 2 ≤ H.length := by
      have := P.ne
      have : H.length ≠ 0 := fun e => this (List.eq_nil_of_length_eq_zero e)
      omega
    have hj : (i + 1) % H.length < H.length := Nat.mod_lt _ (by omega)
    have hne : g H i ≠ gc H (i + 1) := by
      unfold gc
      by_cases e : i + 1 < H.length
      · rw [Nat.mod_eq_of_lt e]; exact corners_ne P.toIsH (by omega) e
      · have e2 : i + 1 = H.length := by omega
        rw [e2, Nat.mod_self]
        exact (corners_ne P.toIsH (show 0 < i by omega) hi).symm
    unfold gwF
    refine gw_scan hne (fun _ _ => trivial) l _ (fun q hq => ?_) (.inl rfl) (.inl (hin _ (gc_mem P.ne _)))
    have hl := (cont_of_sc P (hsc q hq)).left h1 i hi
    by_cases hz : dt (g H i) (gc H (i + 1)) q = 0
    · obtain ⟨k1, k2⟩ := on_side P hi hj hne (hsc q hq) hz
      by_cases hqb : q = gc H (i + 1)
      · exact .inr (.inl hqb)
      · refine .inr (.inr (.inr ⟨hz, ?_⟩))
        have : fr2 (g H i) q ≠ fr2 (g H i) (gc H (i + 1)) := fun e => hqb (k2 e)
        exact Int.lt_iff_le_and_ne.2 ⟨k1, this⟩
    · exact .inr (.inr (.inl (by omega)))
/-- The least of points. -/
def lsS (n p : P2) : P2 := if p.1 < n.1 ∨ (p.1 = n.1 ∧ p.2 < n.2) then p else n
theorem ls_ok : ∀ (l : List P2) (n : P2), (∀ q ∈ l, le2 (l.foldl lsS n) q) ∧ le2 (l.foldl lsS n) n ∧ (l.foldl lsS n ∈ l ∨ l.foldl lsS n = n) := by
  intro l
  induction l with
  | nil => intro n; exact ⟨fun q h => (by cases h), le2_refl n, .inr rfl⟩
  | cons p l ih =>
    intro n
    rw [List.foldl_cons]
    obtain ⟨i1, i2, i3⟩ := ih (lsS n p)
    have hp : le2 (lsS n p) p ∧ le2 (lsS n p) n := by
      unfold lsS
      split
      · rename_i h; exact ⟨le2_refl p, .inr h⟩
      · rename_i h
        refine ⟨?_, le2_refl n⟩
        rcases lt2_tri n p with k | k | k
        · exact .inr k
        · exact .inl k
        · exact absurd k h
    refine ⟨fun q hq => ?_, le2_trans i2 hp.2, ?_⟩
    · rcases List.mem_cons.1 hq with rfl | hq
      · exact le2_trans i2 hp.1
      · exact i1 q hq
    · rcases i3 with h | h
      · exact .inl (by simp [h])
      · rw [h]
        unfold lsS
        split
        · exact .inl (by simp)
        · exact .inr rfl
/-- The least point is the first corner. -/
theorem ls_first {p : P2} {l : List P2} : (p :: l).foldl lsS p = g (hullF (p :: l)) 0 := by
  obtain ⟨P, hsc, hin⟩ := hullF_poly (l := p :: l) (by simp)
  obtain ⟨i1, i2, i3⟩ := ls_ok (p :: l) p
  have hpos : 0 < (hullF (p :: l)).length := by
    have := P.ne
    exact List.length_pos_iff.2 this
  have hm : (p :: l).foldl lsS p ∈ p :: l := by
    rcases i3 with h | h
    · exact h
    · rw [h]; simp
  generalize (p :: l).foldl lsS p = a at *
  generalize hullF (p :: l) = H at *
  have h0 : le2 a (g H 0) := i1 _ (hin _ (g_mem hpos))
  rcases h0 with h | h
  · exact h
  · exfalso
    -- every corner is not before the first one, so no contained point is
    have hall : ∀ r ∈ H, le2 (g H 0) r := fun r hr => by
      obtain ⟨j, hj, rfl⟩ := mem_g hr
      cases j with
      | zero => exact le2_refl _
      | succ j => exact .inr (P.first j (by omega))
    obtain ⟨r, hr, hle⟩ := hsc a hm (0, -1)
    have hr2 := hall r hr
    unfold crs at hle
    unfold le2 lt2 at hr2
    unfold lt2 at h
    simp at hle
    have hx : a.1 = (g H 0).1 := by rcases hr2 with rfl | hr2 <;> omega
    -- on the line of the least X: the second coordinates decide
    obtain ⟨N, hN0, hN⟩ := over_all (fun s => (a.2 - s.2)) H
    obtain ⟨r2, hr2', hle2⟩ := hsc a hm (1, -N - 1)
    have hall2 := hall r2 hr2'
    have hb := hN r2 hr2'
    unfold crs at hle2
    unfold le2 lt2 at hall2
    simp only at hle2
    rcases hall2 with e | e | ⟨e, e'⟩
    · rw [← e] at hle2 hb
      have : (-N - 1) * (g H 0).1 = (-N - 1) * a.1 := by rw [hx]
      omega
    · have k := Int.mul_le_mul_of_nonneg_left (show a.1 + 1 ≤ r2.1 by omega) (show 0 ≤ N + 1 by omega)
      have k1 : (-N - 1) * r2.1 = -((N + 1) * r2.1) := by grind
      have k2 : (-N - 1) * a.1 = -((N + 1) * a.1) := by grind
      have k3 : (N + 1) * (a.1 + 1) = (N + 1) * a.1 + (N + 1) := by grind
      omega
    · have : (-N - 1) * r2.1 = (-N - 1) * a.1 := by rw [← e, hx]
      omega
end Go.Proofs.Gx
namespace Go.Proofs.YtdehnokcjnbjoaaGreat
open Go.RowKit
/-- An iterator yields xs one after another; where it yields x, Y x holds; a round that goes on keeps Kp. -/
def SeqY {α : Type} (F : Fence) (n : Nat) (P : Program) (g : Nat) (lb : Array Value) (encs : α → Array Value) (Kp : World → World → Prop) (Y : α → World → Prop) (S Sp : List α → Prop) (w : World) : Prop :=
  ∀ (l : Nat) (J Jx : List α → World → Prop) (W : World), Below w.heap.size w W → w.heap.size + 2 ≤ W.heap.size → l < W.heap.size → OwnFrom W.heap.size J → OwnFrom W.heap.size Jx → J [] W →
    (∀ xs x V, J xs V → Y x V → YieldAt F (n - 1) P l (encs x) V fun e V' => (e = .returned (.bool true) ∧ J (xs ++ [x]) V' ∧ Kp V V') ∨ (e = .returned (.bool false) ∧ Jx (xs ++ [x]) V' ∧ KeepsFrom (l + 1) V V')) →
    CallsIn F n P g (#[.func (.yield l) #[] #[]] ++ lb) W fun e V => (∃ v, e = .returned v) ∧ ((∃ xs, S xs ∧ J xs V) ∨ ∃ xs, Sp xs ∧ Jx xs V)
/-- The two blocks that a loop lays ahead of its rounds. -/
def TwoBk (B : Nat) (r : Loop) (V : World) : Prop := V.heap[B]? = some (.deferred (some [])) ∧ V.heap[B + 1]? = some (.loop r)
theorem TwoBk.turn {B : Nat} {r r' : Loop} {V : World} (h : TwoBk B r V) : TwoBk B r' (V.putObj (B + 1) (.loop r')) :=
  ⟨(World.putObj_heap_other (by omega)).trans h.1, World.putObj_heap_same (Array.getElem?_eq_some_iff.1 h.2).1⟩
theorem TwoBk.kept {B : Nat} {r : Loop} {V V' : World} (h : TwoBk B r V) (k : KeepsFrom B V V') : TwoBk B r V' := ⟨k.same _ _ (Nat.le_refl _) h.1 rfl, k.same _ _ (by omega) h.2 rfl⟩
theorem TwoBk.walks {B : Nat} {r : Loop} {V V' : World} {row : Option Nat} (h : TwoBk B r V) (g : V.grownBy V' row) (k : ∀ j, row = some j → ∃ o : Obj, V.heap[j]? = some o ∧ o.isWalk = true) : TwoBk B r V' :=
  ⟨(grownBy_keeps g k h.1 rfl).trans h.1, (grownBy_keeps g k h.2 rfl).trans h.2⟩
theorem TwoBk.far {B : Nat} {r : Loop} {V V' : World} {row : Option Nat} (h : TwoBk B r V) (g : V.grownBy V' row) (k : ∀ j, row = some j → B + 1 < j) : TwoBk B r V' :=
  ⟨(g.block _ (Array.getElem?_eq_some_iff.1 h.1).1 (fun e => by have := k _ e.symm; omega)).trans h.1, (g.block _ (Array.getElem?_eq_some_iff.1 h.2).1 (fun e => by have := k _ e.symm; omega)).trans h.2⟩
theorem TwoBk.new (w : World) (r : Loop) : TwoBk w.heap.size r ((w.alloc (.deferred (some []))).alloc (.loop r)) := by
  constructor
  · exact (Below.heap_alloc _ _ _ (by simp)).trans (World.alloc_heap_new w _)
  · have t := World.alloc_heap_new (w.alloc (.deferred (some []))) (.loop r)
    rwa [World.size_alloc] at t
theorem own_turn {β : Type} {B : Nat} {I : β → World → Prop} (hI : OwnFrom B I) {s : β} {V : World} {r : Loop} (h : TwoBk B r V) (r' : Loop) (hs : I s V) : I s (V.putObj (B + 1) (.loop r')) := hI.putObj _ hs (by omega) h.2 rfl
theorem kf_mono {n m : Nat} {W W' : World} (h : KeepsFrom n W W') (hn : n ≤ m) : KeepsFrom m W W' := ⟨h.size, fun k o hk => h.same k o (Nat.le_trans hn hk)⟩
theorem kf_put {n : Nat} (W : World) (j : Nat) (o' : Obj) (hj : j < n) : KeepsFrom n W (W.putObj j o') := ⟨by simp, fun k ok hk hh _ => (World.putObj_heap_other (by omega)).trans hh⟩
theorem wpIn_rangeFunc_ownY {F : Fence} {n : Nat} {P : Program} {α : Type} {g : Operand} {ps : Array Tmp} {assign body : Code} {Q : Exit → Act → World → Prop} {a : Act} {w : World}
    (hro : F.round = none) (h1 : 1 ≤ n) {gf : Nat} {lb : Array Value} (hg : a.eval g = .func (.func gf) #[] lb) (hFg : F.fn gf) (eg : ∀ args w, (callFunc gf args).run P w = .ok (.enter gf args) w)
    {encs : α → Array Value} {Kp : World → World → Prop} {Y : α → World → Prop} {S Sp : List α → Prop} {w0 : World} (hseq : SeqY F (n - 1) P gf lb encs Kp Y S Sp w0) (hb0 : Below w0.heap.size w0 w)
    (hKt : ∀ {A B C : World}, Kp A B → Kp B C → Kp A C) (hKb : ∀ (V : World) (o o' : Obj), V.heap[w.heap.size + 1]? = some o → o.isCells = false → o.isWalk = false → Kp V (V.putObj (w.heap.size + 1) o')) (hps : ∀ x, (encs x).size = ps.size)
    (I : List α → World → Prop) (Ix : Code → List α → World → Prop) (hI : OwnFrom w.heap.size I) (hIx : ∀ c, OwnFrom w.heap.size (Ix c)) (h0 : I [] w) (Ax : List α → α → Act → World → Prop) (hAx : ∀ xs x a', OwnFrom w.heap.size (fun (_ : Unit) W => Ax xs x a' W))
    (hassign : ∀ (l : Nat) (xs : List α) (x : α) (V : World) (K : Act → World → Prop), I xs V → Y x V → (∀ a' V', KeepsFrom w.heap.size V V' → Kp V V' → I xs V' → Ax xs x a' V' → K a' V') →
      assign.wpIn (F.inRound l) (n - 1 - 1) P (Exit.then K (fun _ _ _ => False)) { tmps := (ps.zip (encs x)).foldl (fun t (p, v) => t.setIfInBounds p v) a.tmps, defers := [] } V)
    (hbody : ∀ (l : Nat) (xs : List α) (x : α) (a' : Act) (V : World), w.heap.size ≤ l → (∃ r, V.heap[l]? = some (.loop r)) → I xs V → Ax xs x a' V → body.wpIn (F.inRound l) (n - 1 - 1) P (ownPostG w.heap.size Kp I Ix (xs ++ [x]) V) a' V)
    (hdone : ∀ (D : Nat) (xs : List α) (V : World), w.heap.size ≤ D → S xs → I xs V → V.heap[D]? = some (.deferred (some [])) → Q .normal { a with defers := { target := .collected D, args := #[] } :: a.defers } V)
    (hstop : ∀ (D : Nat) (c : Code) (xs : List α) (V : World), w.heap.size ≤ D → Sp xs → Ix c xs V → V.heap[D]? = some (.deferred (some [])) → c.wpIn F n P Q { a with defers := { target := .collected D, args := #[] } :: a.defers } V) :
    (Code.rangeFunc g ps assign body).wpIn F n P Q a w := by
  refine wpIn_rangeFunc fun fn hfn => ?_
  rw [hro]
  generalize hB : w.heap.size = B at *
  let R : LoopState → Option Code → Loop := fun st pe => { state := st, pending := pe, fn, tmps := a.tmps, params := ps, assign, body, defers := B }
  have hnew := TwoBk.new w (R .ready none)
  have henter : (Instr.enterLoop fn a.tmps ps assign body none).run P w = .ok (B + 1, [{ target := .collected B, args := #[] }]) ((w.alloc (.deferred (some []))).alloc (.loop (R .ready none))) := by
    have t := run_enterLoop_outer (P := P) (w := w) fn a.tmps ps assign body
    rw [hB] at t
    exact t
  have hV0 : I [] ((w.alloc (.deferred (some []))).alloc (.loop (R .ready none))) := hI.alloc _ (hI.alloc _ h0)
  have hbw : Below w0.heap.size w0 ((w.alloc (.deferred (some []))).alloc (.loop (R .ready none))) := (hb0.alloc hb0.size _).alloc (by simp; have := hb0.size; omega) _
  have hsz : B ≤ ((w.alloc (.deferred (some []))).alloc (.loop (R .ready none))).heap.size := by simp; omega
  generalize (w.alloc (.deferred (some []))).alloc (.loop (R .ready none)) = V0 at *
  rw [hB] at hnew
  refine ⟨B + 1, _, V0, { target := .fn (.func gf) lb, args := #[.func (.yield (B + 1)) #[] #[]] }, V0, gf, #[.func (.yield (B + 1)) #[] #[]] ++ lb, V0, henter, ?_, ?_, ?_, fun _ => h1, ?_⟩
  · simp only [resolve, hg]; simp [go_sem]
  · intro f' hf'; simp [Target.leads] at hf'; exact hf' ▸ hFg
  · simp [invoke, go_sem, eg]
  have hlt : B + 1 < V0.heap.size := (Array.getElem?_eq_some_iff.1 hnew.2).1
  have hw2 : w0.heap.size + 2 ≤ V0.heap.size := by have := hb0.size; omega
  refine (hseq (B + 1) (fun xs V => TwoBk B (R .ready none) V ∧ I xs V) (fun xs V => ∃ c, TwoBk B (R .done (some c)) V ∧ Ix c xs V) V0 hbw hw2 hlt ?_ ?_ ⟨hnew, hV0⟩ ?_).mono ?_
  · exact fun s U U' row hs gr hr => ⟨hs.1.far gr (fun j e => Nat.lt_of_lt_of_le hlt (hr j e).1), hI _ _ _ _ hs.2 gr (fun j e => ⟨Nat.le_trans hsz (hr j e).1, (hr j e).2⟩)⟩
  · exact fun s U U' row ⟨c, h2, hs⟩ gr hr => ⟨c, h2.far gr (fun j e => Nat.lt_of_lt_of_le hlt (hr j e).1), hIx c _ _ _ _ hs gr (fun j e => ⟨Nat.le_trans hsz (hr j e).1, (hr j e).2⟩)⟩
  · rintro xs x V ⟨h2, hi⟩ hy
    refine ⟨fn, _, assign, body, run_yield (P := P) (r := R .ready none) h2.2 (hps x), roundIn_of_wpIn hfn (hassign _ xs x V _ hi hy ?_)⟩
    intro a' V1 kf kp hi1 hax
    have h3 := h2.kept kf
    refine ⟨_, run_beginRound h3.2 rfl, ?_⟩
    have h4 : TwoBk B { R .ready none with state := .busy } (V1.putObj (B + 1) (.loop { R .ready none with state := .busy })) := h3.turn
    have kb := hKb V1 _ (.loop { R .ready none with state := .busy }) h3.2 rfl rfl
    refine wpIn_mono (hbody _ xs x a' _ (by omega) ⟨_, h4.2⟩ (own_turn hI h3 _ hi1) (own_turn (hAx xs x a') h3 _ (s := ()) hax)) ?_
    have fin : ∀ (jump : Option Code) {V2 : World}, KeepsFrom B (V1.putObj (B + 1) (.loop { R .ready none with state := .busy })) V2 →
        TwoBk B { R .ready none with state := .busy } V2 ∧ (Instr.endRound (B + 1) jump).run P V2 = .ok (.bool jump.isNone) (V2.putObj (B + 1) (.loop (R (if jump.isNone then .ready else .done) jump))) := fun jump V2 k2 =>
      ⟨h4.kept k2, run_endRound (P := P) jump (h4.kept k2).2⟩
    have left : ∀ (c : Code) {V2 : World}, KeepsFrom B (V1.putObj (B + 1) (.loop { R .ready none with state := .busy })) V2 → Ix c (xs ++ [x]) V2 →
        ∃ v V3, (Instr.endRound (B + 1) (some c)).run P V2 = .ok v V3 ∧ ((Ending.returned v = .returned (.bool true) ∧ (TwoBk B (R .ready none) V3 ∧ I (xs ++ [x]) V3) ∧ Kp V V3) ∨ (Ending.returned v = .returned (.bool false) ∧ (∃ c, TwoBk B (R .done (some c)) V3 ∧ Ix c (xs ++ [x]) V3) ∧ KeepsFrom (B + 1 + 1) V V3)) := fun c V2 k2 hx =>
      ⟨_, _, (fin (some c) k2).2, .inr ⟨rfl, ⟨c, (fin (some c) k2).1.turn, own_turn (hIx c) (fin (some c) k2).1 _ hx⟩, (kf_mono kf (by omega)).trans ((kf_put _ _ _ (by omega)).trans ((kf_mono k2 (by omega)).trans (kf_put _ _ _ (by omega))))⟩⟩
    intro e a2 V2 hp
    match e, hp with
    | .normal, ⟨k2, kp2, hi2⟩ =>
      exact ⟨_, _, (fin none k2).2, .inl ⟨rfl, ⟨(fin none k2).1.turn, own_turn hI (fin none k2).1 _ hi2⟩, hKt kp (hKt (hKt kb kp2) (hKb _ _ _ (fin none k2).1.2 rfl rfl))⟩⟩
    | .ret, ⟨k2, hx⟩ => exact left _ k2 hx
    | .exit _, ⟨k2, hx⟩ => exact left _ k2 hx
    | .goto _, ⟨k2, hx⟩ => exact left _ k2 hx
    | .panic _, hp => exact hp.elim
    | .outgrown, hp => exact hp.elim
  · rintro e V ⟨⟨v, rfl⟩, ⟨xs, hS, h2, hi⟩ | ⟨xs, hS, c, h2, hi⟩⟩
    · exact ⟨none, _, run_endLoop (P := P) h2.2 (by simp [R]), hdone B xs _ (Nat.le_refl _) hS (own_turn hI h2 _ hi) ((World.putObj_heap_other (by omega)).trans h2.1)⟩
    · exact ⟨some c, _, run_endLoop (P := P) h2.2 (by simp [R]), hstop B c xs _ (Nat.le_refl _) hS (own_turn (hIx c) h2 _ hi) ((World.putObj_heap_other (by omega)).trans h2.1)⟩
theorem at_wpIn {F : Fence} {n : Nat} {P : Program} {c : Code} {Q : Exit → Act → World → Prop} {a : Act} {w : World} (h : ∀ w', w' = w → c.wpIn F n P Q a w') : c.wpIn F n P Q a w := h w rfl
end Go.Proofs.YtdehnokcjnbjoaaGreat
namespace Go.Proofs.YtdehnokcjnbjoaaGreat
open Go.RowKit
def KpP (p : Nat → Prop) (W W' : World) : Prop := W.heap.size ≤ W'.heap.size ∧ ∀ k o, ¬ p k → W.heap[k]? = some o → o.isCells = true → W'.heap[k]? = some o
section
variable {p : Nat → Prop} {W W' : World}
theorem kpP_refl (W : World) : KpP p W W := ⟨Nat.le_refl _, fun _ _ _ h _ => h⟩
theorem kpP_trans {X Y Z : World} (h : KpP p X Y) (k : KpP p Y Z) : KpP p X Z := ⟨Nat.le_trans h.1 k.1, fun i o hi ho hc => k.2 i o hi (h.2 i o hi ho hc) hc⟩
theorem kpP_up (h : Up W W') : KpP p W W' := ⟨h.size, fun k _ _ hk _ => (h.block k (Array.getElem?_eq_some_iff.1 hk).1).trans hk⟩
theorem kpP_set {B i : Nat} (W : World) (v : Value) (hB : p B) : KpP p W (W.setCell ⟨B, i, none⟩ v) := ⟨by show W.heap.size ≤ (W.heap.modify _ _).size; rw [Array.size_modify]; exact Nat.le_refl _, fun k _ hk h _ => (Below.heap_setCell W ⟨B, i, none⟩ v k (fun e => hk (e ▸ hB))).trans h⟩
theorem kpP_put (W : World) (j : Nat) (o o' : Obj) (h : W.heap[j]? = some o) (hc : o.isCells = false) : KpP p W (W.putObj j o') :=
  ⟨by simp, fun k ok _ hk hcc => by
    have : k ≠ j := fun e => by subst e; rw [h] at hk; cases hk; rw [hc] at hcc; cases hcc
    exact (World.putObj_heap_other this).trans hk⟩
theorem kpP_cell (h : KpP p W W') {a : Addr} (ha : ¬ p a.block) {v : Value} (hv : W.cell? a = some v) : W'.cell? a = some v := by
  obtain ⟨o, ho, hc⟩ := cells_of_cell hv
  exact (World.cell?_of_block (a := a) ((h.2 _ _ ha ho hc).trans ho.symm)).trans hv
theorem kpP_frozen (h : KpP p W W') {a : Addr} (ha : ¬ p a.block) {v : Value} (hv : W.cell? a = some v) : W'.frozen? a = W.frozen? a := by
  obtain ⟨o, ho, hc⟩ := cells_of_cell hv
  have e := (h.2 _ _ ha ho hc).trans ho.symm
  unfold World.frozen?
  rw [e]
theorem bx_kpP {b : Nat} {vs : List Value} (h : Bx W b vs) (k : KpP p W W') (hb : ¬ p b) : Bx W' b vs := fun i v hi =>
  ⟨kpP_cell k (a := ⟨b, i, none⟩) hb (h i v hi).1, (kpP_frozen k (a := ⟨b, i, none⟩) hb (h i v hi).1).trans (h i v hi).2⟩
theorem bx_ownP {b : Nat} {row : Option Nat} {vs : List Value} (h : Bx W b vs) (hg : W.grownBy W' row) (hr : ∀ r, row = some r → ∃ o : Obj, W.heap[r]? = some o ∧ o.isCells = false) : Bx W' b vs := fun i v hi =>
  ⟨cell_kept (h i v hi).1 hg hr, (frozen_kept (h i v hi).1 hg hr).trans (h i v hi).2⟩
theorem kpP_own {W0 : World} {row : Option Nat} (h : KpP p W0 W) (hg : W.grownBy W' row) (hr : ∀ r, row = some r → ∃ o : Obj, W.heap[r]? = some o ∧ o.isCells = false) : KpP p W0 W' :=
  ⟨Nat.le_trans h.1 hg.size, fun k o hk h0 hc => by
    have hV := h.2 k o hk h0 hc
    refine (hg.block k (Array.getElem?_eq_some_iff.1 hV).1 (fun e => ?_)).trans hV
    obtain ⟨o', ho', hc'⟩ := hr k e.symm
    rw [hV] at ho'; cases ho'; rw [hc] at hc'; cases hc'⟩
theorem up_kfP {B : Nat} (h : Up W W') : KeepsFrom B W W' := ⟨h.size, fun _ _ _ hk _ => (h.block _ (Array.getElem?_eq_some_iff.1 hk).1).trans hk⟩
theorem up_grP (h : Up W W') : W.grownBy W' none := ⟨h.os, h.tape, h.output, h.size, fun k hk _ => h.block k hk⟩
end
/-- Beside the cells: whatever is no cells, from n on. -/
def KpQ (p : Nat → Prop) (n : Nat) (W W' : World) : Prop := KpP p W W' ∧ KeepsFrom n W W'
theorem kpQ_trans {p : Nat → Prop} {n : Nat} {X Y Z : World} (h : KpQ p n X Y) (k : KpQ p n Y Z) : KpQ p n X Z := ⟨kpP_trans h.1 k.1, h.2.trans k.2⟩
theorem kpQ_mono {p : Nat → Prop} {n m : Nat} {W W' : World} (h : KpQ p n W W') (hn : n ≤ m) : KpQ p m W W' := ⟨h.1, kf_mono h.2 hn⟩
theorem kpQ_up {p : Nat → Prop} {n : Nat} {W W' : World} (h : Up W W') : KpQ p n W W' := ⟨kpP_up h, up_kfP h⟩
theorem kpQ_set {p : Nat → Prop} {n B i : Nat} (W : World) (v : Value) (hB : p B) : KpQ p n W (W.setCell ⟨B, i, none⟩ v) := ⟨kpP_set W v hB, (KeepsOthers.setCell _ _ _).from _⟩
theorem kpQ_put {p : Nat → Prop} {n : Nat} (W : World) (j : Nat) (o o' : Obj) (hj : j < n) (h : W.heap[j]? = some o) (hc : o.isCells = false) : KpQ p n W (W.putObj j o') :=
  ⟨kpP_put W j o o' h hc, ⟨by simp, fun k ok hk hh _ => (World.putObj_heap_other (by omega)).trans hh⟩⟩
theorem yield_casesP {e : Ending} {A B : Prop} (h : (e = .returned (.bool true) ∧ A) ∨ (e = .returned (.bool false) ∧ B)) : ∃ bv : Bool, e = .returned (.bool bv) ∧ ((bv = true ∧ A) ∨ (bv = false ∧ B)) := by
  rcases h with ⟨h1, h2⟩ | ⟨h1, h2⟩
  · exact ⟨true, h1, .inl ⟨rfl, h2⟩⟩
  · exact ⟨false, h1, .inr ⟨rfl, h2⟩⟩
end Go.Proofs.YtdehnokcjnbjoaaGreat
namespace Go.Proofs.YtdehnokcjnbjoaaGreat
open Go.RowKit
/-- A mark. -/
abbrev mkD (D : Nat) : Deferred := { target := .collected D, args := #[] }
/-- Marks that are still open, each once, all made behind B. -/
structure MkAt (B : Nat) (Ds : List Nat) (W : World) : Prop where
  nd : Ds.Nodup
  at_ : ∀ D ∈ Ds, W.heap[D]? = some (.deferred (some []))
  lo : ∀ D ∈ Ds, B ≤ D
theorem MkAt.nil (B : Nat) (W : World) : MkAt B [] W := ⟨List.nodup_nil, fun _ h => (by cases h), fun _ h => (by cases h)⟩
theorem MkAt.lt {B : Nat} {Ds : List Nat} {W : World} (h : MkAt B Ds W) {D : Nat} (hD : D ∈ Ds) : D < W.heap.size := (Array.getElem?_eq_some_iff.1 (h.at_ D hD)).1
theorem MkAt.up {B : Nat} {Ds : List Nat} {W W' : World} (h : MkAt B Ds W) (u : Up W W') : MkAt B Ds W' := ⟨h.nd, fun D hD => (u.block D (h.lt hD)).trans (h.at_ D hD), h.lo⟩
theorem MkAt.grown {B : Nat} {Ds : List Nat} {W W' : World} {row : Option Nat} (h : MkAt B Ds W) (g : W.grownBy W' row) (hr : ∀ r, row = some r → r ∉ Ds) : MkAt B Ds W' :=
  ⟨h.nd, fun D hD => (g.block D (h.lt hD) (fun e => hr D e.symm hD)).trans (h.at_ D hD), h.lo⟩
theorem MkAt.set {B : Nat} {Ds : List Nat} {W : World} (h : MkAt B Ds W) {p : Addr} {v : Value} (hp : W.cell? p = some v) (u : Value) : MkAt B Ds (W.setCell p u) :=
  ⟨h.nd, fun D hD => (Below.heap_setCell W p u D (fun e => by
    have a := h.at_ D hD
    subst e
    unfold World.cell? at hp
    rw [a] at hp
    cases hp)).trans (h.at_ D hD), h.lo⟩
theorem MkAt.cons {B : Nat} {Ds : List Nat} {W : World} (h : MkAt B Ds W) {D : Nat} (hD : W.heap[D]? = some (.deferred (some []))) (hB : B ≤ D) (hn : D ∉ Ds) : MkAt B (D :: Ds) W :=
  ⟨List.nodup_cons.2 ⟨hn, h.nd⟩, fun E hE => by rcases List.mem_cons.1 hE with rfl | hE; exact hD; exact h.at_ E hE, fun E hE => by rcases List.mem_cons.1 hE with rfl | hE; exact hB; exact h.lo E hE⟩
theorem MkAt.own {B C : Nat} {β : Type} {Ds : List Nat} (hC : ∀ D ∈ Ds, D < C) : OwnFrom C (fun (_ : β) W => MkAt B Ds W) := fun _ _ _ _ hs hg hr => hs.grown hg (fun r e hm => by have := (hr r e).1; have := hC r hm; omega)
/-- At the end each mark is taken. -/
theorem leaves_marks {F : Fence} {n : Nat} {P : Program} {fn : Func} {tmps : Array Value} {R : Ending → World → Prop} (Inv : World → Prop) {B : Nat}
    (hI : ∀ (W : World) (D : Nat), B ≤ D → Inv W → W.heap[D]? = some (.deferred (some [])) → Inv (W.putObj D (.deferred none)))
    (hR : ∀ W, Inv W → LeavesIn F n P fn tmps R [] .returning W) : ∀ (Ds : List Nat) (W : World), MkAt B Ds W → Inv W → LeavesInM F n P fn tmps R (Ds.map mkD) .returning W
  | [], W, _, h => hR W h
  | D :: Ds, W, hM, h => by
    have hD := hM.at_ D (by simp)
    refine ⟨by simp, .inl ⟨D, _, rfl, run_takeDeferred hD, leaves_marks Inv hI hR Ds _ ⟨(List.nodup_cons.1 hM.nd).2, fun E hE => ?_, fun E hE => hM.lo E (by simp [hE])⟩ (hI W D (hM.lo D (by simp)) h hD)⟩⟩
    have hne : E ≠ D := fun e => (List.nodup_cons.1 hM.nd).1 (e ▸ hE)
    exact (World.putObj_heap_other hne).trans (hM.at_ E (by simp [hE]))
end Go.Proofs.YtdehnokcjnbjoaaGreat
set_option linter.unusedVariables false
namespace Go.Proofs.YtdehnokcjnbjoaaGreat
open Go.RowKit Go.Proofs.Gn
theorem own_upN {W W' : World} {base e size n : Nat} {v : Value} {xs : List Value} (h : W.ownsRow base e size v n xs) (hu : Up W W') : W'.ownsRow base e size v n xs := by
  rcases h with ⟨hl, h | ⟨g, cap, cur, rfl, hb, hg, h⟩⟩
  · exact ⟨hl, .inl h⟩
  · refine ⟨hl, .inr ⟨g, cap, cur, rfl, hb, ?_, h⟩⟩
    rw [hu.block g (Array.getElem?_eq_some_iff.1 hg).1]
    exact hg
def cellsN (l : List Int) : List Value := l.map fun x => .int .i64 x
theorem cellsN_snoc (l : List Int) (x : Int) : cellsN (l ++ [x]) = cellsN l ++ [.int .i64 x] := by simp [cellsN]
theorem cellsN_length (l : List Int) : (cellsN l).length = l.length := by simp [cellsN]
theorem info_intN : (Tryz.prog.info? 3).map (fun i => (i.zero, i.size, i.bytes)) = some (some (.int .i64 0), 1, 8) := by kernel_rfl
theorem one_newN (W : World) (x : Value) (t : TypeId) : ∀ j u, [x][j]? = some u → (W.alloc (.cells #[x] t)).cell? ((⟨W.heap.size, 0, none⟩ : Addr).add j) = some u := by
  intro j u hj
  have b := bx_new W [x] t
  match j, hj with
  | 0, hj => simp at hj; subst hj; exact bx1 b
  | (j + 1), hj => simp at hj
/-- Where ints lie. -/
def Nms (W : World) (A : Option Addr) (l : List Int) : Prop := l = [] ∨ ∃ b off, A = some ⟨b, off, none⟩ ∧ ∀ k (h : k < l.length), W.cell? ⟨b, off + k, none⟩ = some (.int .i64 l[k])
theorem nms_up {W W' : World} {A : Option Addr} {l : List Int} (h : Nms W A l) (hu : Up W W') : Nms W' A l := by
  rcases h with h | ⟨b, off, e, hc⟩
  · exact .inl h
  · exact .inr ⟨b, off, e, fun k hk => up_cell hu (hc k hk)⟩
theorem own_nms {W : World} {base e n : Nat} {v : Value} {l : List Int} (h : W.ownsRow base e 1 v n (cellsN l)) : ∃ A cap, v = .slice A l.length cap ∧ Nms W A l := by
  have hn : n = l.length := by
    have hl : (cellsN l).length = n * 1 := h.1
    rw [cellsN_length] at hl
    omega
  subst hn
  rcases h.2 with ⟨h1, h2⟩ | ⟨g, cap, cur, rfl, _⟩
  · have e0 : l = [] := by cases l with
      | nil => rfl
      | cons a l => simp at h2
    subst e0
    exact ⟨_, _, h1, .inl rfl⟩
  · refine ⟨_, _, rfl, .inr ⟨g, 0, rfl, fun k hk => ?_⟩⟩
    rw [Nat.zero_add, h.cellAt k (by omega)]
    simp [cellsN, hk]
end Go.Proofs.YtdehnokcjnbjoaaGreat
