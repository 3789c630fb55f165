/- Turning by quarters: what four times do, and hulls of turned points. -/
import Derived.Test.YtdehnokcjnbjoaaGreatTurnN
import Derived.Test.YtdehnokcjnbjoaaGreatPkOpenLoad
import Derived.Test.YtdehnokcjnbjoaaGreatPkRefDown
namespace Go.Proofs.YtdehnokcjnbjoaaGreat
open Go.RowKit Go.Proofs.Gn Go.Proofs.Gx
set_option linter.unusedVariables false
theorem trN_add (a b : Nat) (L : List Pce) : trN a (trN b L) = trN (a + b) L := by
  induction a with
  | zero => rw [Nat.zero_add]; rfl
  | succ a ih => rw [Nat.succ_add]; show (trN a (trN b L)).map trP = (trN (a + b) L).map trP; rw [ih]
theorem tyN_add (a b : Nat) (L : List Eye) : tyN a (tyN b L) = tyN (a + b) L := by
  induction a with
  | zero => rw [Nat.zero_add]; rfl
  | succ a ih => rw [Nat.succ_add]; show (tyN a (tyN b L)).map tyP = (tyN (a + b) L).map tyP; rw [ih]
theorem trP4 (p : Pce) : trP (trP (trP (trP p))) = p := by
  obtain ⟨x, y, z, l, w, h, m⟩ := p
  unfold trP
  dsimp only
  congr 1 <;> omega
theorem tyP4 (p : Eye) : tyP (tyP (tyP (tyP p))) = p := by
  obtain ⟨x, y, z, s⟩ := p
  simp only [tyP, Int.neg_neg]
theorem trN4 (L : List Pce) : trN 4 L = L := by
  show (((L.map trP).map trP).map trP).map trP = L
  rw [List.map_map, List.map_map, List.map_map]
  exact (List.map_congr_left fun p _ => trP4 p).trans (List.map_id'' (fun _ => rfl) L)
theorem tyN4 (L : List Eye) : tyN 4 L = L := by
  show (((L.map tyP).map tyP).map tyP).map tyP = L
  rw [List.map_map, List.map_map, List.map_map]
  exact (List.map_congr_left fun p _ => tyP4 p).trans (List.map_id'' (fun _ => rfl) L)
theorem trN_mod (k r : Nat) (L : List Pce) : trN (r + 4 * k) L = trN r L := by
  induction k with
  | zero => rfl
  | succ k ih => rw [show r + 4 * (k + 1) = (r + 4 * k) + 4 by omega, ← trN_add, trN4, ih]
theorem tyN_mod (k r : Nat) (L : List Eye) : tyN (r + 4 * k) L = tyN r L := by
  induction k with
  | zero => rfl
  | succ k ih => rw [show r + 4 * (k + 1) = (r + 4 * k) + 4 by omega, ← tyN_add, tyN4, ih]
theorem quN_eq (q : Int) : (quN q : Int) = q % 4 := by
  obtain ⟨_, _, h⟩ := quN_at q
  have e := Int.mul_tdiv_add_tmod q 4
  omega
theorem qu_two (a b : Int) (L : List Pce) (Y : List Eye) : trN (quN b) (trN (quN a) L) = trN (quN (a + b)) L ∧ tyN (quN b) (tyN (quN a) Y) = tyN (quN (a + b)) Y := by
  have ha := quN_eq a
  have hb := quN_eq b
  have hab := quN_eq (a + b)
  have l1 := quN_lt a
  have l2 := quN_lt b
  have l3 := quN_lt (a + b)
  rw [trN_add, tyN_add]
  by_cases h : quN b + quN a < 4
  · have e : quN b + quN a = quN (a + b) := by omega
    rw [e]
    exact ⟨rfl, rfl⟩
  · have e : quN b + quN a = quN (a + b) + 4 * 1 := by omega
    rw [e]
    exact ⟨trN_mod 1 _ L, tyN_mod 1 _ Y⟩
theorem qu_four (b : Int) (L : List Pce) (Y : List Eye) : trN (quN (4 * b)) L = L ∧ tyN (quN (4 * b)) Y = Y := by
  have h := quN_eq (4 * b)
  have e : quN (4 * b) = 0 := by omega
  rw [e]
  exact ⟨rfl, rfl⟩
/-- A point turned. -/
def rotP (q : P2) : P2 := (-q.2, q.1)
theorem crs_rot (u v : P2) : crs (rotP u) (rotP v) = crs u v := by unfold crs rotP; grind
theorem sc_rot {h : List P2} {q : P2} (s : SC h q) : SC (h.map rotP) (rotP q) := fun w => by
  obtain ⟨r, hr, e⟩ := s (w.2, -w.1)
  refine ⟨rotP r, List.mem_map.2 ⟨r, hr, rfl⟩, ?_⟩
  have ew : rotP (w.2, -w.1) = w := by unfold rotP; simp
  rw [← ew, crs_rot, crs_rot]
  exact e
theorem sc_tr {a h : List P2} {q : P2} (s : SC h q) (ha : ∀ r ∈ h, SC a r) : SC a q := fun w => by
  obtain ⟨r, hr, e⟩ := s w
  obtain ⟨t, ht, e'⟩ := ha r hr w
  exact ⟨t, ht, by omega⟩
theorem hull_rot {L : List P2} (h : L ≠ []) : hullF ((hullF L).map rotP) = hullF (L.map rotP) := by
  obtain ⟨p, i, m⟩ := hullF_poly h
  obtain ⟨pa, ia, ma⟩ := hullF_poly (l := (hullF L).map rotP) (by simpa using p.ne)
  obtain ⟨pb, ib, mb⟩ := hullF_poly (l := L.map rotP) (by simpa using h)
  refine poly_ext pa pb (fun r hr => ?_) (fun r hr => ?_)
  · obtain ⟨q, hq, rfl⟩ := List.mem_map.1 (mb r hr)
    exact sc_tr (sc_rot (i q hq)) ia
  · obtain ⟨q, hq, rfl⟩ := List.mem_map.1 (ma r hr)
    exact ib _ (List.mem_map.2 ⟨q, m q hq, rfl⟩)
theorem cnP_tr (p : Pce) (q : P2) : q ∈ cnP (trP p) ↔ q ∈ (cnP p).map rotP := by
  obtain ⟨x, y, z, l, w, h, m⟩ := p
  obtain ⟨q1, q2⟩ := q
  simp only [cnP, trP, rotP, List.map_cons, List.map_nil, List.mem_cons, Prod.mk.injEq, List.not_mem_nil, or_false]
  omega
theorem cnA_tr (ps : List Pce) (q : P2) : q ∈ (cnA ps).map rotP ↔ q ∈ cnA (ps.map trP) := by
  unfold cnA
  induction ps with
  | nil => simp
  | cons p ps ih =>
    rw [List.map_cons, List.flatMap_cons, List.flatMap_cons, List.map_append, List.mem_append, List.mem_append, ih, cnP_tr]
theorem hull_tr {ps : List Pce} (h : 1 ≤ ps.length) : hullF ((hullF (cnA ps)).map rotP) = hullF (cnA (ps.map trP)) := by
  rw [hull_rot (by intro e; have q := cnA_len ps; rw [e] at q; simp at q; omega)]
  exact hullF_same (cnA_tr ps)
theorem tr_one (L : List Pce) (Y : List Eye) : trN (quN 1) L = L.map trP ∧ tyN (quN 1) Y = Y.map tyP := ⟨rfl, rfl⟩
end Go.Proofs.YtdehnokcjnbjoaaGreat
