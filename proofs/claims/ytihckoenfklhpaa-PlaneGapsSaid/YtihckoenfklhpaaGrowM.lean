/- A hull grown by t, and a hull moved: the mathematics. -/
import Derived.Test.YtihckoenfklhpaaSumM
namespace Go.Proofs.Gx
/-- The square of size t; of size 0 it is a point. -/
def sqL (t : Int) : List P2 := if t = 0 then [(0, 0)] else sq t
theorem sqL_len (t : Int) : 0 < (sqL t).length ∧ (sqL t).length ≤ 4 := by
  unfold sqL
  split <;> simp [sq]
theorem one_poly (p : P2) : Poly [p] where
  ne := by simp
  first := fun i hi => by simp at hi
  fan := fun i h0 hi => by simp at hi; try omega
  turn := fun h => by simp at h
  left := fun q hq i hi => by
    simp at hq hi
    subst hq hi
    rw [show g [q] 0 = q from rfl]
    unfold dt
    simp
theorem sqL_poly {t : Int} (h : 0 ≤ t) : Poly (sqL t) := by
  unfold sqL
  split
  · exact one_poly _
  · exact sq_poly (by omega)
theorem sqL_bd {t : Int} (h : 0 ≤ t) {y : P2} (hy : y ∈ sqL t) : (-t ≤ y.1 ∧ y.1 ≤ t) ∧ (-t ≤ y.2 ∧ y.2 ≤ t) := by
  unfold sqL at hy
  split at hy
  · simp at hy; subst hy; simp only; omega
  · rcases sq_mem.1 hy with rfl | rfl | rfl | rfl <;> (simp only; omega)
theorem sqL_reach {t : Int} (h : 0 ≤ t) (w : P2) : (∃ y ∈ sqL t, crs w y = - (t * nm w)) ∧ ∀ y ∈ sqL t, - (t * nm w) ≤ crs w y := by
  unfold sqL
  split
  · rename_i e
    subst e
    have z : crs w (0, 0) = 0 := by unfold crs; simp
    refine ⟨⟨_, List.mem_singleton.2 rfl, by rw [z]; simp⟩, fun y hy => ?_⟩
    rw [List.mem_singleton.1 hy, z]
    simp
  · exact sq_reach h w
/-- The grown hull meets the other one just if there is room of t. -/
theorem grown_diffs {a b G : List P2} {t : Int} (h : 0 ≤ t) (hp : Path a (sqL t) G) : Diffs G b (0, 0) ↔ Room a b t := by
  have z : ∀ w : P2, crs w (0, 0) = 0 := fun w => by unfold crs; simp
  constructor
  · intro d w
    obtain ⟨r, hr, y, hy, e⟩ := d w
    obtain ⟨x, hx, s, hs, rfl⟩ := hp.mem r hr
    have := (sqL_reach h w).2 s hs
    refine ⟨x, hx, y, hy, ?_⟩
    rw [z, crs_sb, crs_adr] at e
    rw [crs_sb]
    omega
  · intro r w
    obtain ⟨x, hx, y, hy, e⟩ := r w
    obtain ⟨⟨s, hs, f⟩, _⟩ := sqL_reach h w
    obtain ⟨q, hq, k⟩ := path_sc hp hx hs w
    refine ⟨q, hq, y, hy, ?_⟩
    rw [crs_adr] at k
    rw [crs_sb] at e
    rw [z, crs_sb]
    omega
/-- All points moved by d. -/
def mvL (d : P2) (b : List P2) : List P2 := b.map fun p => ad p d
theorem mvL_len (d : P2) (b : List P2) : (mvL d b).length = b.length := by simp [mvL]
theorem g_mvL {d : P2} {b : List P2} {i : Nat} (h : i < b.length) : g (mvL d b) i = ad (g b i) d := by
  rw [g_eq (by rw [mvL_len]; exact h), g_eq h]
  simp [mvL]
theorem gc_mvL {d : P2} {b : List P2} (h0 : 0 < b.length) (i : Nat) : gc (mvL d b) i = ad (gc b i) d := by
  unfold gc
  rw [mvL_len]
  exact g_mvL (Nat.mod_lt _ h0)
theorem dt_mv (d a b c : P2) : dt (ad a d) (ad b d) (ad c d) = dt a b c := by unfold dt ad; grind
theorem lt2_mv {d a b : P2} (h : lt2 a b) : lt2 (ad a d) (ad b d) := by unfold lt2 ad at *; simp only; omega
theorem mem_mvL {d : P2} {b : List P2} {x : P2} : x ∈ mvL d b ↔ ∃ y ∈ b, x = ad y d := by
  unfold mvL
  rw [List.mem_map]
  constructor
  · rintro ⟨y, hy, rfl⟩; exact ⟨y, hy, rfl⟩
  · rintro ⟨y, hy, rfl⟩; exact ⟨y, hy, rfl⟩
theorem mvL_poly {b : List P2} (P : Poly b) (d : P2) : Poly (mvL d b) := by
  have h0 : 0 < b.length := List.length_pos_iff.2 P.ne
  refine { ne := List.length_pos_iff.1 (by rw [mvL_len]; exact h0), first := fun i hi => ?_, fan := fun i h1 hi => ?_, turn := fun h3 i hi => ?_, left := fun q hq i hi => ?_ }
  · rw [mvL_len] at hi
    rw [g_mvL h0, g_mvL hi]
    exact lt2_mv (P.first i hi)
  · rw [mvL_len] at hi
    rw [g_mvL h0, g_mvL (by omega), g_mvL hi, dt_mv]
    exact P.fan i h1 hi
  · rw [mvL_len] at hi h3
    rw [g_mvL hi, gc_mvL h0, gc_mvL h0, dt_mv]
    exact P.turn h3 i hi
  · obtain ⟨y, hy, rfl⟩ := mem_mvL.1 hq
    rw [mvL_len] at hi
    rw [g_mvL hi, gc_mvL h0, dt_mv]
    exact P.left y hy i hi
/-- A short way in a direction. -/
theorem crs_short {t : Int} {d : P2} (h : (-t ≤ d.1 ∧ d.1 ≤ t) ∧ (-t ≤ d.2 ∧ d.2 ≤ t)) (w : P2) : -(t * nm w) ≤ crs w d ∧ crs w d ≤ t * nm w := by
  obtain ⟨a, b⟩ := w
  obtain ⟨x, y⟩ := d
  simp only at h
  have key : ∀ u v : Int, -t ≤ v → v ≤ t → -(t * (u.natAbs : Int)) ≤ u * v ∧ u * v ≤ t * (u.natAbs : Int) := fun u v h1 h2 => by
    rcases Int.le_total 0 u with c | c
    · have e : (u.natAbs : Int) = u := by omega
      have p1 := Int.mul_nonneg c (show 0 ≤ t - v by omega)
      have p2 := Int.mul_nonneg c (show 0 ≤ t + v by omega)
      rw [e]
      constructor <;> grind
    · have e : (u.natAbs : Int) = -u := by omega
      have p1 := Int.mul_nonneg (show 0 ≤ -u by omega) (show 0 ≤ t - v by omega)
      have p2 := Int.mul_nonneg (show 0 ≤ -u by omega) (show 0 ≤ t + v by omega)
      rw [e]
      constructor <;> grind
  have k1 := key a y h.2.1 h.2.2
  have k2 := key b x h.1.1 h.1.2
  have e : t * nm (a, b) = t * (a.natAbs : Int) + t * (b.natAbs : Int) := by unfold nm; simp only; rw [Int.mul_add]
  rw [e]
  unfold crs
  simp only
  omega
theorem crs_ad (w x d : P2) : crs w (ad x d) = crs w x + crs w d := by unfold crs ad; grind
/-- Room between a hull and one that is moved. -/
theorem room_move {a b : List P2} {g t : Int} {d : P2} (h : (-t ≤ d.1 ∧ d.1 ≤ t) ∧ (-t ≤ d.2 ∧ d.2 ≤ t)) (r : Room a b g) : Room a (mvL d b) (g + t) := fun w => by
  obtain ⟨x, hx, y, hy, e⟩ := r w
  refine ⟨x, hx, ad y d, mem_mvL.2 ⟨y, hy, rfl⟩, ?_⟩
  have := crs_short h w
  rw [crs_sb] at e ⊢
  rw [crs_ad, Int.add_mul]
  omega
theorem room_back {a b : List P2} {g t : Int} {d : P2} (h : (-t ≤ d.1 ∧ d.1 ≤ t) ∧ (-t ≤ d.2 ∧ d.2 ≤ t)) (r : Room a (mvL d b) g) : Room a b (g + t) := fun w => by
  obtain ⟨x, hx, y', hy', e⟩ := r w
  obtain ⟨y, hy, rfl⟩ := mem_mvL.1 hy'
  refine ⟨x, hx, y, hy, ?_⟩
  have := crs_short h w
  rw [crs_sb] at e ⊢
  rw [crs_ad] at e
  rw [Int.add_mul]
  omega
/-- Near hulls: the gap is small. -/
theorem room_near {a b : List P2} (ha : a ≠ []) (hb : b ≠ []) {t : Int} (h : ∀ x ∈ a, ∀ y ∈ b, (-t ≤ x.1 - y.1 ∧ x.1 - y.1 ≤ t) ∧ (-t ≤ x.2 - y.2 ∧ x.2 - y.2 ≤ t)) : Room a b t := fun w => by
  obtain ⟨x, hx⟩ := List.exists_mem_of_ne_nil _ ha
  obtain ⟨y, hy⟩ := List.exists_mem_of_ne_nil _ hb
  exact ⟨x, hx, y, hy, (crs_short (d := sb x y) (by have := h x hx y hy; unfold sb; simp only; omega) w).2⟩
end Go.Proofs.Gx
