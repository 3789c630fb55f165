/- What the example of a load rubs: numbers. The order of points: what compare returns. The box of a hull: its least and greatest coordinates. A stack of points without what is on its top as long as it does not turn to the left. -/
import Derived.Test.YtdehnokcjnbjoaaSl
import Derived.Test.YtdehnokcjnbjoaaPkHullM
import Derived.Deep.DeepCutAuto
import Derived.Test.YtdehnokcjnbjoaaBx
import Derived.Test.YtdehnokcjnbjoaaPt
import Derived.Sort.Grow
import Derived.StillTailTactics
namespace Go.Proofs.Ytdehnokcjnbjoaa
open Go.RowKit Go.Proofs.Gn
/-- Far from the limits, all of them. -/
def BdL (ps : Pl) : Prop := ∀ p ∈ ps, Bd p.1 ∧ Bd p.2
theorem bdL_get {ps : Pl} (h : BdL ps) {k : Nat} (hk : k < ps.length) : Bd (Gx.g ps k).1 ∧ Bd (Gx.g ps k).2 := h _ (Gx.g_mem hk)
theorem pts_g {w : World} {b off : Nat} {ps : Pl} (hc : ∀ k (h : k < ps.length), w.cell? ⟨b, off + k * 2, none⟩ = some (.int .i64 ps[k].1) ∧ w.cell? ⟨b, off + k * 2 + 1, none⟩ = some (.int .i64 ps[k].2)) {k : Nat} (hk : k < ps.length) :
    w.cell? ⟨b, off + k * 2, none⟩ = some (.int .i64 (Gx.g ps k).1) ∧ w.cell? ⟨b, off + k * 2 + 1, none⟩ = some (.int .i64 (Gx.g ps k).2) := by
  rw [Gx.g_eq hk]
  exact hc k hk
theorem det_dt (a b c : Int × Int) : det a.1 a.2 b.1 b.2 c.1 c.2 = Gx.dt a b c := rfl
theorem cmp_le (d : Int) : decide (cmpV d 0 ≤ 0) = decide (d ≤ 0) := by
  unfold cmpV
  rw [Bool.eq_iff_iff]
  simp only [decide_eq_true_eq]
  split
  · omega
  · split <;> omega
/-- What is left of a stack. -/
def leftS (p : Int × Int) (ps : Pl) : Pl := (Gx.popS p ps.reverse).reverse
theorem leftS_prefix (p : Int × Int) (ps : Pl) : leftS p ps <+: ps := by
  have := Gx.pop_suffix p ps.reverse
  unfold leftS
  rw [← List.reverse_suffix, List.reverse_reverse]
  exact this
theorem leftS_short {p : Int × Int} {ps : Pl} (h : ps.length < 2) : leftS p ps = ps := by
  match ps, h with
  | [], _ => rfl
  | [_], _ => rfl
theorem leftS_step {p : Int × Int} {ps : Pl} {n : Nat} (h : ps.length = n + 2) : leftS p ps = if Gx.dt (Gx.g ps n) (Gx.g ps (n + 1)) p ≤ 0 then leftS p (ps.take (n + 1)) else ps := by
  obtain ⟨r, rfl⟩ : ∃ r, ps = r.reverse := ⟨ps.reverse, by simp⟩
  match r, h with
  | b :: a :: t, h =>
    have ht : t.length = n := by simpa using h
    have e1 : Gx.g (b :: a :: t).reverse n = a := by
      rw [Gx.g_eq (by simp; omega)]
      simp [ht]
    have e2 : Gx.g (b :: a :: t).reverse (n + 1) = b := by
      rw [Gx.g_eq (by simp; omega)]
      simp [ht]
    have e3 : (b :: a :: t).reverse.take (n + 1) = (a :: t).reverse := by
      rw [List.reverse_cons, List.take_append_of_le_length (by simp; omega), List.take_of_length_le (by simp; omega)]
    rw [e1, e2, e3]
    unfold leftS
    rw [List.reverse_reverse, List.reverse_reverse]
    conv => lhs; unfold Gx.popS
    split <;> rfl
end Go.Proofs.Ytdehnokcjnbjoaa
namespace Go.Proofs.Ytdehnokcjnbjoaa
open Go.RowKit Go.Proofs.Gn
/-- The least and the greatest coordinates of points. -/
structure IsBox (ps : Pl) (k : Nat) (l1 l2 h1 h2 : Int) : Prop where
  l1a : ∃ r ∈ ps, r.1 = l1
  l2a : ∃ r ∈ ps, r.2 = l2
  h1a : ∃ r ∈ ps, r.1 = h1
  h2a : ∃ r ∈ ps, r.2 = h2
  l1b : ∀ i, i < k → l1 ≤ (Gx.g ps i).1
  l2b : ∀ i, i < k → l2 ≤ (Gx.g ps i).2
  h1b : ∀ i, i < k → (Gx.g ps i).1 ≤ h1
  h2b : ∀ i, i < k → (Gx.g ps i).2 ≤ h2
theorem min_of {P : Int → Prop} {a b : Int} (ha : P a) (hb : P b) : P (if b < a then b else a) := by split <;> assumption
theorem max_of {P : Int → Prop} {a b : Int} (ha : P a) (hb : P b) : P (if b > a then b else a) := by split <;> assumption
theorem box_step {ps : Pl} {k : Nat} {l1 l2 h1 h2 x y : Int} (h : IsBox ps k l1 l2 h1 h2) (hk : k < ps.length) (e : Gx.g ps k = (x, y)) :
    IsBox ps (k + 1) (if x < l1 then x else l1) (if y < l2 then y else l2) (if x > h1 then x else h1) (if y > h2 then y else h2) := by
  have hx : ∃ r ∈ ps, r.1 = x := ⟨Gx.g ps k, Gx.g_mem hk, by rw [e]⟩
  have hy : ∃ r ∈ ps, r.2 = y := ⟨Gx.g ps k, Gx.g_mem hk, by rw [e]⟩
  have low : ∀ {a b : Int}, (if b < a then b else a) ≤ a ∧ (if b < a then b else a) ≤ b := fun {a b} => by split <;> omega
  have high : ∀ {a b : Int}, a ≤ (if b > a then b else a) ∧ b ≤ (if b > a then b else a) := fun {a b} => by split <;> omega
  refine ⟨min_of (P := fun z => ∃ r ∈ ps, r.1 = z) h.l1a hx, min_of (P := fun z => ∃ r ∈ ps, r.2 = z) h.l2a hy, max_of (P := fun z => ∃ r ∈ ps, r.1 = z) h.h1a hx, max_of (P := fun z => ∃ r ∈ ps, r.2 = z) h.h2a hy, ?_, ?_, ?_, ?_⟩
  · intro i hi
    rcases Nat.lt_or_ge i k with c | c
    · exact Int.le_trans low.1 (h.l1b i c)
    · obtain rfl : i = k := by omega
      rw [e]; exact low.2
  · intro i hi
    rcases Nat.lt_or_ge i k with c | c
    · exact Int.le_trans low.1 (h.l2b i c)
    · obtain rfl : i = k := by omega
      rw [e]; exact low.2
  · intro i hi
    rcases Nat.lt_or_ge i k with c | c
    · exact Int.le_trans (h.h1b i c) high.1
    · obtain rfl : i = k := by omega
      rw [e]; exact high.2
  · intro i hi
    rcases Nat.lt_or_ge i k with c | c
    · exact Int.le_trans (h.h2b i c) high.1
    · obtain rfl : i = k := by omega
      rw [e]; exact high.2
theorem bx_set2 {W : World} {b : Nat} {u0 u1 v0 v1 : Value} (h : Bx W b [u0, u1]) : Bx ((W.setCell ⟨b, 0, none⟩ v0).setCell ⟨b, 1, none⟩ v1) b [v0, v1] := bx_set (bx_set h 0 v0) 1 v1
theorem bx_far2 {W : World} {b g : Nat} {vs : List Value} {v0 v1 : Value} (h : Bx W b vs) (hg : g ≠ b) : Bx ((W.setCell ⟨g, 0, none⟩ v0).setCell ⟨g, 1, none⟩ v1) b vs := bx_far (bx_far h (p := ⟨g, 0, none⟩) hg _) (p := ⟨g, 1, none⟩) hg _
end Go.Proofs.Ytdehnokcjnbjoaa
namespace Go.Proofs.Ytdehnokcjnbjoaa
open Go.RowKit Go.Proofs.Gn
/-- What compare returns. -/
def cmp2 (ax ay bx b_y : Int) : Int := if cmpV ax bx = 0 then cmpV ay b_y else cmpV ax bx
theorem c_Or {b off : Nat} {x y : Int} (w : World) (h0 : w.cell? ⟨b, off, none⟩ = some (.int .i64 x)) (h1 : w.cell? ⟨b, off + 1, none⟩ = some (.int .i64 y)) :
    Calls Try.prog 87 #[.slice (some ⟨b, off, none⟩) 2 2] w fun e w' => e = .returned (.int .i64 (if x = 0 then y else x)) ∧ w = w' := by
  by_cases hx : x = 0
  · subst hx
    by_cases hy : y = 0
    · subst hy
      go_enter Try.func87, Try.ntmps87
      go_wp2
      go_rounds 3
      go_ret
      exact ⟨rfl, rfl⟩
    · have e1 : (y == 0) = false := by simp; exact hy
      go_enter Try.func87, Try.ntmps87
      go_wp2
      go_rounds 2
      go_ret
      exact ⟨rfl, rfl⟩
  · have e1 : (x == 0) = false := by simp; exact hx
    rw [if_neg hx]
    go_enter Try.func87, Try.ntmps87
    go_wp2
    go_rounds 1
    go_ret
    exact ⟨rfl, rfl⟩

/-- New blocks and draws, and nothing else. -/
def Gr (w w' : World) : Prop := ∃ q os, w' = Go.Sort.grow (w.drewN q) os
theorem gr_refl (w : World) : Gr w w := ⟨0, #[], by simp [Go.Sort.grow, World.drewN]⟩
theorem gr_alloc {a b : World} (h : Gr a b) (o : Obj) : Gr a (b.alloc o) := by
  obtain ⟨q, os, rfl⟩ := h
  exact ⟨q, os ++ #[o], by rw [Go.Sort.alloc_eq_grow, Go.Sort.grow_grow]⟩
theorem gr_drew {a b : World} (h : Gr a b) : Gr a b.drew := by
  obtain ⟨q, os, rfl⟩ := h
  exact ⟨q + 1, os, rfl⟩
theorem gr_up {a b : World} (h : Gr a b) : Up a b := by
  obtain ⟨q, os, rfl⟩ := h
  refine ⟨rfl, rfl, rfl, by simp, fun k hk => ?_⟩
  simp [Go.Sort.grow, Array.getElem?_append, hk]
theorem gr_cell {a b : World} (h : Gr a b) {p : Addr} {v : Value} (hc : a.cell? p = some v) : b.cell? p = some v := up_cell (gr_up h) hc
theorem gr_trans {a b c : World} (h : Gr a b) (k : Gr b c) : Gr a c := by
  obtain ⟨q, os, rfl⟩ := h
  obtain ⟨q', os', rfl⟩ := k
  exact ⟨q + q', os ++ os', by simp [Go.Sort.grow, World.drewN, Nat.add_assoc]⟩
theorem cmpV_neg (a b : Int) : cmpV a b < 0 ↔ a < b := by unfold cmpV; split; simp_all; split <;> simp_all
theorem cmpV_zero (a b : Int) : cmpV a b = 0 ↔ a = b := by unfold cmpV; split; omega; split <;> omega
theorem cmp2_neg (a b : Int × Int) : cmp2 a.1 a.2 b.1 b.2 < 0 ↔ Gx.lt2 a b := by
  unfold cmp2 Gx.lt2
  have h1 := cmpV_neg a.1 b.1
  have h2 := cmpV_neg a.2 b.2
  have h3 := cmpV_zero a.1 b.1
  split <;> omega
theorem cmp2_pos (a b : Int × Int) : 0 < cmp2 a.1 a.2 b.1 b.2 ↔ Gx.lt2 b a := by
  unfold cmp2 Gx.lt2 cmpV
  split <;> split <;> (try split) <;> (try split) <;> omega
end Go.Proofs.Ytdehnokcjnbjoaa
namespace Go.Proofs.Ytdehnokcjnbjoaa
open Go.RowKit Go.Proofs.Gn
set_option linter.unusedVariables false
/-- The way to the next corner, when one more point has been looked at. -/
def nxS (a w p : Int × Int) : Int × Int :=
  if w.1 * (p.2 - a.2) - w.2 * (p.1 - a.1) < 0 then (p.1 - a.1, p.2 - a.2)
  else if w.1 * (p.2 - a.2) - w.2 * (p.1 - a.1) = 0 then (if w.1 * w.1 + w.2 * w.2 < (p.1 - a.1) * (p.1 - a.1) + (p.2 - a.2) * (p.2 - a.2) then (p.1 - a.1, p.2 - a.2) else w) else w
def nxW (a : Int × Int) : Int × Int → List (Int × Int) → Int × Int
  | w, [] => w
  | w, p :: l => nxW a (nxS a w p) l
def nxF (l : List (Int × Int)) (a : Int × Int) : Int × Int := (a.1 + (nxW a (0, 0) l).1, a.2 + (nxW a (0, 0) l).2)
/-- Points that are not far. -/
def Nr (b : Int) (p : Int × Int) : Prop := (-b ≤ p.1 ∧ p.1 ≤ b) ∧ (-b ≤ p.2 ∧ p.2 ≤ b)
theorem nxS_nr {a w p : Int × Int} (ha : Nr 4000 a) (hp : Nr 4000 p) (hw : Nr 8000 w) : Nr 8000 (nxS a w p) := by
  have h : Nr 8000 (p.1 - a.1, p.2 - a.2) := by
    unfold Nr at *
    dsimp only
    omega
  unfold nxS
  split
  · exact h
  · split
    · split
      · exact h
      · exact hw
    · exact hw
theorem nxW_nr {a : Int × Int} (ha : Nr 4000 a) : ∀ {l : List (Int × Int)} {w : Int × Int}, (∀ p ∈ l, Nr 4000 p) → Nr 8000 w → Nr 8000 (nxW a w l)
  | [], w, _, hw => hw
  | p :: l, w, hl, hw => (nxW_nr (w := nxS a w p) ha (fun q hq => hl q (by simp [hq])) (nxS_nr ha (hl p (by simp)) hw) : Nr 8000 (nxW a (nxS a w p) l))
theorem nxW_drop {a w : Int × Int} {l : List (Int × Int)} {k : Nat} (h : k < l.length) : nxW a w (l.drop k) = nxW a (nxS a w l[k]) (l.drop (k + 1)) := by
  rw [List.drop_eq_getElem_cons h]
  rfl
theorem mul_nr0 {x y A B : Int} (h : 0 ≤ x) (hx : x ≤ A) (hy : -B ≤ y ∧ y ≤ B) (hB : 0 ≤ B) : -(A * B) ≤ x * y ∧ x * y ≤ A * B := by
  have a := Int.mul_le_mul_of_nonneg_left hy.2 h
  have b := Int.mul_le_mul_of_nonneg_left hy.1 h
  have c := Int.mul_le_mul_of_nonneg_right hx hB
  rw [Int.mul_neg] at b
  omega
theorem mul_nr {x y A B : Int} (hx : -A ≤ x ∧ x ≤ A) (hy : -B ≤ y ∧ y ≤ B) (hB : 0 ≤ B) : -(A * B) ≤ x * y ∧ x * y ≤ A * B := by
  rcases Int.le_total 0 x with h | h
  · exact mul_nr0 h hx.2 hy hB
  · have q := mul_nr0 (x := -x) (by omega) (show -x ≤ A by omega) hy hB
    rw [Int.neg_mul] at q
    omega
/-- What the example rubs, its hull, the ways along it, and the directions that look away. -/
def ruL : List (Int × Int) := [(1500, 0), (1060, 1060), (0, 1500), (-1060, 1060), (-1500, 0), (-1060, -1060), (0, -1500), (1060, -1060)]
def huL : List (Int × Int) := [(-1500, 0), (-1060, -1060), (0, -1500), (1060, -1060), (1500, 0), (1060, 1060), (0, 1500), (-1060, 1060)]
def waL : List (Int × Int) := [(440, -1060), (1060, -440), (1060, 440), (440, 1060), (-440, 1060), (-1060, 440), (-1060, -440), (-440, -1060)]
def diL : List (Int × Int) := [(-1060, -440), (-440, -1060), (440, -1060), (1060, -440), (1060, 440), (440, 1060), (-440, 1060), (-1060, 440)]
theorem ruL_nr : ∀ p ∈ ruL, Nr 4000 p := by
  intro p hp
  unfold ruL at hp
  simp at hp
  unfold Nr
  rcases hp with rfl | rfl | rfl | rfl | rfl | rfl | rfl | rfl <;> decide
theorem huL_nr : ∀ p ∈ huL, Nr 4000 p := by
  intro p hp
  unfold huL at hp
  simp at hp
  unfold Nr
  rcases hp with rfl | rfl | rfl | rfl | rfl | rfl | rfl | rfl <;> decide
/-- Along the hull, corner by corner. -/
theorem huL_next : ∀ k (h : k < 8), nxF ruL (huL[k]'(by simp [huL]; omega)) = huL[(k + 1) % 8]'(by simp [huL]; omega) := by decide
theorem huL_first : ∀ k (h : k < 8), k ≠ 0 → huL[k]'(by simp [huL]; omega) ≠ (-1500, 0) := by decide
theorem huL_way : ∀ k (h : k < 8), ((huL[(k + 1) % 8]'(by simp [huL]; omega)).1 - (huL[k]'(by simp [huL]; omega)).1, (huL[(k + 1) % 8]'(by simp [huL]; omega)).2 - (huL[k]'(by simp [huL]; omega)).2) = waL[k]'(by simp [waL]; omega) := by decide
/-- Whether all of a hull lies behind what is needed. -/
def prF (d m n : Int × Int) : Bool := decide (d.1 * n.1 + d.2 * n.2 < m.1 * n.1 + m.2 * n.2)
theorem ex_slips : (diL.map fun n => huL.all fun d => prF d (1505, 0) n) = [false, false, false, true, true, false, false, false] := by decide
theorem ex_holds : (diL.map fun n => huL.all fun d => prF d (1500, 0) n) = [false, false, false, false, false, false, false, false] := by decide
end Go.Proofs.Ytdehnokcjnbjoaa
