/- What is known of the hull of points: for the law PlaneLeast. -/
import Derived.Test.YtihckoenfklhpaaHulls
import Derived.Test.YtihckoenfklhpaaHullM
namespace Go.Proofs.Ytihckoenfklhpaa
open Go.RowKit Go.Proofs.Gn
/-- The hull of some points, as the law looks at it. -/
structure HullOf (qs H : Pl) : Prop where
  pos : 0 < H.length
  poly : Gx.Poly H
  turn : 2 < H.length → ∀ i, i < H.length → 0 < Gx.dt (Gx.g H i) (Gx.gc H (i + 1)) (Gx.gc H (i + 2))
  low : ∀ i, i < H.length → ¬ (Gx.g H i).1 < (Gx.g H 0).1 ∧ ((Gx.g H i).1 = (Gx.g H 0).1 → ¬ (Gx.g H i).2 < (Gx.g H 0).2)
  cont : ∀ q ∈ qs, Gx.Cont H q
  left : ∀ q ∈ qs, ∀ i, i < H.length → 0 ≤ Gx.dt (Gx.g H i) (Gx.gc H (i + 1)) q
  one : H.length = 1 → ∀ q ∈ qs, q = Gx.g H 0
  mem : ∀ r ∈ H, r ∈ qs
theorem hullOf {qs : Pl} (h : qs ≠ []) : HullOf qs (Gx.hullF qs) := by
  obtain ⟨hp, hin, hm⟩ := Gx.hullF_poly h
  obtain ⟨H, hH⟩ : ∃ H, Gx.hullF qs = H := ⟨_, rfl⟩
  rw [hH] at hp hin hm ⊢
  have hpos : 0 < H.length := List.length_pos_iff.2 hp.ne
  have hc : ∀ q ∈ qs, Gx.Cont H q := fun q hq => (Gx.cont_iff hp).2 (hin q hq)
  have h1 : H.length = 1 → ∀ q ∈ qs, q = Gx.g H 0 := fun hl q hq => by
    obtain ⟨r, rfl⟩ := List.length_eq_one_iff.1 hl
    obtain ⟨⟨r1, m1, e1⟩, ⟨r2, m2, e2⟩, ⟨r3, m3, e3⟩, ⟨r4, m4, e4⟩⟩ := (hc q hq).box
    obtain rfl := List.mem_singleton.1 m1; obtain rfl := List.mem_singleton.1 m2; obtain rfl := List.mem_singleton.1 m3; obtain rfl := List.mem_singleton.1 m4
    exact Prod.ext (Int.le_antisymm e2 e1) (Int.le_antisymm e4 e3)
  refine ⟨hpos, hp, fun h2 => hp.turn h2, fun i hi => ?_, hc, fun q hq i hi => ?_, h1, hm⟩
  · rcases i with _ | i
    · exact ⟨Int.lt_irrefl _, fun _ => Int.lt_irrefl _⟩
    · have := hp.first i hi
      unfold Gx.lt2 at this
      constructor
      · omega
      · intro e; omega
  · by_cases hl : H.length = 1
    · have e1 : Gx.gc H (i + 1) = Gx.g H i := by
        obtain rfl : i = 0 := by omega
        unfold Gx.gc; rw [hl]
      rw [e1]
      unfold Gx.dt
      simp [Int.sub_self]
    · exact (hc q hq).left hl i hi
theorem HullOf.is {qs H : Pl} (h : HullOf qs H) : isHB H = true := isHB_iff.2 h.poly.toIsH
/-- Without a corner. -/
def rest (H : Pl) (i : Nat) : Pl := H.take i ++ H.drop (i + 1)
theorem rest_len {H : Pl} {i : Nat} (hi : i < H.length) : (rest H i).length = H.length - 1 := by unfold rest; rw [List.length_append, List.length_take, List.length_drop]; omega
theorem rest_mem {H : Pl} {i : Nat} {r : Int × Int} (h : r ∈ rest H i) : r ∈ H := by
  unfold rest at h
  rcases List.mem_append.1 h with h | h
  · exact List.mem_of_mem_take h
  · exact List.mem_of_mem_drop h
theorem rest_at {H : Pl} {i : Nat} {r : Int × Int} (h : r ∈ rest H i) : ∃ j, j < H.length ∧ j ≠ i ∧ r = Gx.g H j := by
  unfold rest at h
  rcases List.mem_append.1 h with h | h
  · obtain ⟨j, hj, rfl⟩ := List.mem_iff_getElem.1 h
    have hj2 := hj
    rw [List.length_take] at hj2
    exact ⟨j, by omega, by omega, by rw [Gx.g_eq (by omega), List.getElem_take]⟩
  · obtain ⟨j, hj, rfl⟩ := List.mem_iff_getElem.1 h
    have hj2 := hj
    rw [List.length_drop] at hj2
    exact ⟨i + 1 + j, by omega, by omega, by rw [Gx.g_eq (by omega), List.getElem_drop]⟩
theorem rest_not {qs H : Pl} (h : HullOf qs H) (h2 : 1 < H.length) {i : Nat} (hi : i < H.length) : ¬ Gx.Cont (Gx.hullF (rest H i)) (Gx.g H i) := fun c => by
  have hr : rest H i ≠ [] := List.ne_nil_of_length_pos (by rw [rest_len hi]; omega)
  obtain ⟨hp, _, hm⟩ := Gx.hullF_poly hr
  exact Gx.without h.poly h2 hi (fun r hr => rest_at (hm r hr)) ((Gx.cont_iff hp).1 c)
theorem okL_sub {a b : Pl} (h : ∀ r ∈ a, r ∈ b) (hb : okL b = true) : okL a = true := List.all_eq_true.2 fun p hp => List.all_eq_true.1 hb p (h p hp)
theorem hullF_len (ps : Pl) : (Gx.hullF ps).length ≤ 2 * ps.length := by
  obtain ⟨a, b⟩ := hullF_eq (ps := ps) (ss := Gx.sortU ps) rfl
  have hs := sort_len ps
  by_cases h : (Gx.sortU ps).length = 1
  · rw [a h]; omega
  · rw [b h, List.length_append, List.length_take, List.length_take]
    have h1 := turnsL_len (Gx.sortU ps)
    have h2 := turnsL_len (Gx.sortU ps).reverse
    rw [List.length_reverse] at h2
    omega
end Go.Proofs.Ytihckoenfklhpaa
