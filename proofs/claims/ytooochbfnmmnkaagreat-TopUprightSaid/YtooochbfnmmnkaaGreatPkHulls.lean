/- The hull of points, whether points are one, and whether one contains a point: what the program's functions return. What Length returns, of the program and of the document's own answers. What isHull returns. Lists of lists of points: the looks at them. What hull returns. The corners that are left of a sorted list when it turns to the left at each of them. Whether a hull contains a point. Whether a hull contains a point. The pairs of neighbours of a hull, as the program yields them: a contract of the iterator. The box of a hull: its least and greatest coordinates. The document's Check of a vehicle. Vehicles: which ones the document takes. The document's mass and Check of a load. -/
import Derived.Test.YtooochbfnmmnkaaGreatPkCompact
import Derived.Test.YtooochbfnmmnkaaGreatVehC
import Derived.Test.YtooochbfnmmnkaaGreatBx
import Derived.RangeFuncNested
import Derived.RangeFuncLeaves
import Derived.Shelf.Abstract
import Derived.Shelf.RegionOpen
import Derived.OwnWalkIn
import Derived.TacticsInMore
import Derived.LoopNIn
import Derived.LoopIn
import Derived.Test.YtooochbfnmmnkaaGreatHeldIn
import Derived.Test.YtooochbfnmmnkaaGreatPkOwn
import Derived.Test.YtooochbfnmmnkaaGreatSl
import Derived.Test.YtooochbfnmmnkaaGreatMath
import Derived.Deep.DeepCutAuto
namespace Go.Proofs.YtooochbfnmmnkaaGreat
open Go.RowKit Go.Proofs.Gn
theorem mas_pre {ps : List Pce} {k : Nat} (hk : k ≤ ps.length) (h : okPs (ps.take k) = true) : 0 ≤ mas (ps.take k) ∧ mas (ps.take k) ≤ 16777216 * k := by
  have t := mas_bd h k (by simp; omega)
  rwa [List.take_take, Nat.min_self] at t
end Go.Proofs.YtooochbfnmmnkaaGreat
namespace Go.Proofs.YtooochbfnmmnkaaGreat
open Go.RowKit Go.Proofs.Gn
end Go.Proofs.YtooochbfnmmnkaaGreat
namespace Go.Proofs.YtooochbfnmmnkaaGreat
open Go.RowKit Go.Proofs.Gn
theorem ve6 {s : ByteArray} {us : List Unt} {f t : Int} (h : tmV us = true) : veE s us f t = 6 := by unfold veE; rw [if_pos h]
theorem ve2 {s : ByteArray} {us : List Unt} {f t : Int} (h0 : tmV us = false) (h : nmS s = false ∨ auV us = false ∨ win f 0 t = false ∨ decide (t < (us.length : Int)) = false) : veE s us f t = 2 := by
  unfold veE
  rw [if_neg (by rw [h0]; simp), if_neg]
  intro hh
  simp only [Bool.and_eq_true] at hh
  rcases h with h | h | h | h <;> simp_all
theorem ve0 {s : ByteArray} {us : List Unt} {f t : Int} (h0 : tmV us = false) (h1 : nmS s = true) (h2 : auV us = true) (h3 : win f 0 t = true) (h4 : decide (t < (us.length : Int)) = true) : veE s us f t = 0 := by
  unfold veE
  rw [if_neg (by rw [h0]; simp), if_pos (by rw [h1, h2, h3, h4]; rfl)]
theorem au_no {us : List Unt} (h : us.all okU = false ∨ ¬ 0 < us.length ∨ ¬ hdK us = 0) : auV us = false := by
  unfold auV
  rcases h with h | h | h <;> simp [h]
end Go.Proofs.YtooochbfnmmnkaaGreat
namespace Go.Proofs.YtooochbfnmmnkaaGreat
open Go.RowKit Go.Proofs.Gn
/-- The least and the greatest coordinates of points. -/
structure IsBox (ps : Pl) (k : Nat) (l1 l2 h1 h2 : Int) : Prop where
  l1a : ∃ r ∈ ps, r.1 = l1
  l2a : ∃ r ∈ ps, r.2 = l2
  h1a : ∃ r ∈ ps, r.1 = h1
  h2a : ∃ r ∈ ps, r.2 = h2
  l1b : ∀ i, i < k → l1 ≤ (Gx.g ps i).1
  l2b : ∀ i, i < k → l2 ≤ (Gx.g ps i).2
  h1b : ∀ i, i < k → (Gx.g ps i).1 ≤ h1
  h2b : ∀ i, i < k → (Gx.g ps i).2 ≤ h2
theorem min_of {P : Int → Prop} {a b : Int} (ha : P a) (hb : P b) : P (if b < a then b else a) := by split <;> assumption
theorem max_of {P : Int → Prop} {a b : Int} (ha : P a) (hb : P b) : P (if b > a then b else a) := by split <;> assumption
theorem box_step {ps : Pl} {k : Nat} {l1 l2 h1 h2 x y : Int} (h : IsBox ps k l1 l2 h1 h2) (hk : k < ps.length) (e : Gx.g ps k = (x, y)) :
    IsBox ps (k + 1) (if x < l1 then x else l1) (if y < l2 then y else l2) (if x > h1 then x else h1) (if y > h2 then y else h2) := by
  have hx : ∃ r ∈ ps, r.1 = x := ⟨Gx.g ps k, Gx.g_mem hk, by rw [e]⟩
  have hy : ∃ r ∈ ps, r.2 = y := ⟨Gx.g ps k, Gx.g_mem hk, by rw [e]⟩
  have low : ∀ {a b : Int}, (if b < a then b else a) ≤ a ∧ (if b < a then b else a) ≤ b := fun {a b} => by split <;> omega
  have high : ∀ {a b : Int}, a ≤ (if b > a then b else a) ∧ b ≤ (if b > a then b else a) := fun {a b} => by split <;> omega
  refine ⟨min_of (P := fun z => ∃ r ∈ ps, r.1 = z) h.l1a hx, min_of (P := fun z => ∃ r ∈ ps, r.2 = z) h.l2a hy, max_of (P := fun z => ∃ r ∈ ps, r.1 = z) h.h1a hx, max_of (P := fun z => ∃ r ∈ ps, r.2 = z) h.h2a hy, ?_, ?_, ?_, ?_⟩
  · intro i hi
    rcases Nat.lt_or_ge i k with c | c
    · exact Int.le_trans low.1 (h.l1b i c)
    · obtain rfl : i = k := by omega
      rw [e]; exact low.2
  · intro i hi
    rcases Nat.lt_or_ge i k with c | c
    · exact Int.le_trans low.1 (h.l2b i c)
    · obtain rfl : i = k := by omega
      rw [e]; exact low.2
  · intro i hi
    rcases Nat.lt_or_ge i k with c | c
    · exact Int.le_trans (h.h1b i c) high.1
    · obtain rfl : i = k := by omega
      rw [e]; exact high.2
  · intro i hi
    rcases Nat.lt_or_ge i k with c | c
    · exact Int.le_trans (h.h2b i c) high.1
    · obtain rfl : i = k := by omega
      rw [e]; exact high.2
theorem bx_set2 {W : World} {b : Nat} {u0 u1 v0 v1 : Value} (h : Bx W b [u0, u1]) : Bx ((W.setCell ⟨b, 0, none⟩ v0).setCell ⟨b, 1, none⟩ v1) b [v0, v1] := bx_set (bx_set h 0 v0) 1 v1
theorem bx_far2 {W : World} {b g : Nat} {vs : List Value} {v0 v1 : Value} (h : Bx W b vs) (hg : g ≠ b) : Bx ((W.setCell ⟨g, 0, none⟩ v0).setCell ⟨g, 1, none⟩ v1) b vs := bx_far (bx_far h (p := ⟨g, 0, none⟩) hg _) (p := ⟨g, 1, none⟩) hg _
end Go.Proofs.YtooochbfnmmnkaaGreat
namespace Go.Proofs.YtooochbfnmmnkaaGreat
open Go.RowKit Go.Proofs.Gn Go.Shelf
attribute [local go_sem] Oper.semAt_some
abbrev Pr := (Int × Int) × (Int × Int)
/-- How many sides. -/
def sidesN (ps : Pl) : Nat := if ps.length = 1 then 0 else ps.length
/-- The first k pairs of neighbours. -/
def nbs (ps : Pl) (k : Nat) : List Pr := (List.range k).map fun i => (Gx.g ps i, Gx.gc ps (i + 1))
theorem nbs_succ (ps : Pl) (k : Nat) : nbs ps (k + 1) = nbs ps k ++ [(Gx.g ps k, Gx.gc ps (k + 1))] := by simp [nbs, List.range_succ]
theorem nbs_len (ps : Pl) (k : Nat) : (nbs ps k).length = k := by simp [nbs]
/-- What a round keeps: what was there when the walk began, and the box of the list. -/
def KpN (n₀ Bs : Nat) (W W' : World) : Prop := Below n₀ W W' ∧ ∀ v, W.cell? ⟨Bs, 0, none⟩ = some v → W'.cell? ⟨Bs, 0, none⟩ = some v
theorem kpN_refl (n₀ Bs : Nat) (W : World) : KpN n₀ Bs W W := ⟨Below.refl _ _, fun _ h => h⟩
theorem kpN_trans {n₀ Bs : Nat} {A B C : World} (h : KpN n₀ Bs A B) (k : KpN n₀ Bs B C) : KpN n₀ Bs A C := ⟨h.1.trans k.1, fun v hv => k.2 v (h.2 v hv)⟩
theorem kpN_up {n₀ Bs : Nat} {W W' : World} (h : Up W W') (hn : n₀ ≤ W.heap.size) : KpN n₀ Bs W W' := ⟨h.mono hn, fun _ hv => up_cell h hv⟩
theorem grown_drew (W : World) : W.grownBy W.drew none := ⟨rfl, rfl, rfl, Nat.le_refl _, fun _ _ _ => rfl⟩
theorem yield_cases {e : Ending} {A B : Prop} (h : (e = .returned (.bool true) ∧ A) ∨ (e = .returned (.bool false) ∧ B)) : ∃ bv : Bool, e = .returned (.bool bv) ∧ ((bv = true ∧ A) ∨ (bv = false ∧ B)) := by
  rcases h with ⟨h1, h2⟩ | ⟨h1, h2⟩
  · exact ⟨true, h1, .inl ⟨rfl, h2⟩⟩
  · exact ⟨false, h1, .inr ⟨rfl, h2⟩⟩
theorem upto_mod (k n : Nat) : ((k : Int) + 1).tmod (n : Int) = (((k + 1) % n : Nat) : Int) := by rw [show (k : Int) + 1 = ((k + 1 : Nat) : Int) by omega]; rfl
end Go.Proofs.YtooochbfnmmnkaaGreat
namespace Go.Proofs.YtooochbfnmmnkaaGreat
open Go.RowKit Go.Proofs.Gn Go.Shelf
attribute [local go_sem] Oper.semAt_some
/-- What has come when k rounds are over. -/
def upTo {α : Type} (f : Nat → α) (k : Nat) : List α := (List.range k).map f
theorem upTo_succ {α : Type} (f : Nat → α) (k : Nat) : upTo f (k + 1) = upTo f k ++ [f k] := by simp [upTo, List.range_succ]
theorem upTo_len {α : Type} (f : Nat → α) (k : Nat) : (upTo f k).length = k := by simp [upTo]
theorem kpN_b {n₀ Bs : Nat} {w : World} (hn : n₀ ≤ w.heap.size) (hB : Bs < w.heap.size) (W : World) (l : Nat) (o o' : Obj) (hl : w.heap.size ≤ l) (h : W.heap[l]? = some o) (hc : o.isCells = false) (hw : o.isWalk = false) : KpN n₀ Bs W (W.putObj l o') :=
  ⟨belowK_b hn W l o o' hl h hc hw, fun _ hv => ((belowK_b (n₀ := Bs + 1) hB W l o o' hl h hc hw).cell (p := ⟨Bs, 0, none⟩) (Nat.lt_succ_self _)).trans hv⟩
/-- The box is one. -/
theorem box_ex {ps : Pl} (h0 : 0 < ps.length) : ∀ k, k < ps.length → ∃ l1 l2 h1 h2, IsBox ps (k + 1) l1 l2 h1 h2
  | 0, _ => by
    have m := Gx.g_mem h0
    refine ⟨(Gx.g ps 0).1, (Gx.g ps 0).2, (Gx.g ps 0).1, (Gx.g ps 0).2, ⟨_, m, rfl⟩, ⟨_, m, rfl⟩, ⟨_, m, rfl⟩, ⟨_, m, rfl⟩, ?_, ?_, ?_, ?_⟩ <;> (intro i hi; obtain rfl : i = 0 := by omega) <;> exact Int.le_refl _
  | k + 1, hk => by
    obtain ⟨l1, l2, h1, h2, hB⟩ := box_ex h0 k (by omega)
    exact ⟨_, _, _, _, box_step hB hk rfl⟩
theorem box_one {ps : Pl} {l1 l2 h1 h2 l1' l2' h1' h2' : Int} (a : IsBox ps ps.length l1 l2 h1 h2) (b : IsBox ps ps.length l1' l2' h1' h2') : l1 = l1' ∧ l2 = l2' ∧ h1 = h1' ∧ h2 = h2' := by
  have lo : ∀ {f : Int × Int → Int} {x y : Int}, (∃ r ∈ ps, f r = x) → (∀ i, i < ps.length → y ≤ f (Gx.g ps i)) → y ≤ x := fun {f x y} ⟨r, hr, e⟩ h => by
    obtain ⟨i, hi, rfl⟩ := Gx.mem_g hr
    rw [← e]; exact h i hi
  have hi : ∀ {f : Int × Int → Int} {x y : Int}, (∃ r ∈ ps, f r = x) → (∀ i, i < ps.length → f (Gx.g ps i) ≤ y) → x ≤ y := fun {f x y} ⟨r, hr, e⟩ h => by
    obtain ⟨i, hi, rfl⟩ := Gx.mem_g hr
    rw [← e]; exact h i hi
  exact ⟨Int.le_antisymm (lo (f := Prod.fst) b.l1a a.l1b) (lo (f := Prod.fst) a.l1a b.l1b), Int.le_antisymm (lo (f := Prod.snd) b.l2a a.l2b) (lo (f := Prod.snd) a.l2a b.l2b), Int.le_antisymm (hi (f := Prod.fst) a.h1a b.h1b) (hi (f := Prod.fst) b.h1a a.h1b), Int.le_antisymm (hi (f := Prod.snd) a.h2a b.h2b) (hi (f := Prod.snd) b.h2a a.h2b)⟩
theorem box_in {ps : Pl} {l1 l2 h1 h2 : Int} (a : IsBox ps ps.length l1 l2 h1 h2) (q : Int × Int) : Gx.Box ps q ↔ l1 ≤ q.1 ∧ q.1 ≤ h1 ∧ l2 ≤ q.2 ∧ q.2 ≤ h2 := by
  have get : ∀ {r}, r ∈ ps → l1 ≤ r.1 ∧ l2 ≤ r.2 ∧ r.1 ≤ h1 ∧ r.2 ≤ h2 := fun hr => by
    obtain ⟨i, hi, rfl⟩ := Gx.mem_g hr
    exact ⟨a.l1b i hi, a.l2b i hi, a.h1b i hi, a.h2b i hi⟩
  constructor
  · rintro ⟨⟨r, hr, e⟩, ⟨s, hs, f⟩, ⟨t, ht, g⟩, ⟨u, hu, k⟩⟩
    have := get hr; have := get hs; have := get ht; have := get hu
    omega
  · rintro ⟨e, f, g, k⟩
    obtain ⟨r, hr, r1⟩ := a.l1a; obtain ⟨s, hs, s1⟩ := a.h1a; obtain ⟨t, ht, t1⟩ := a.l2a; obtain ⟨u, hu, u1⟩ := a.h2a
    exact ⟨⟨r, hr, by omega⟩, ⟨s, hs, by omega⟩, ⟨t, ht, by omega⟩, ⟨u, hu, by omega⟩⟩
theorem cmp_lt (d : Int) : decide (cmpV d 0 < 0) = decide (d < 0) := by
  unfold cmpV
  rw [Bool.eq_iff_iff]
  simp only [decide_eq_true_eq]
  split
  · omega
  · split <;> omega
theorem up_keepsFrom {B : Nat} {W W' : World} (h : Up W W') : KeepsFrom B W W' := ⟨h.size, fun _ _ _ hk _ => (h.block _ (Array.getElem?_eq_some_iff.1 hk).1).trans hk⟩
/-- A pair of points near enough. -/
abbrev Qp := { x : (Int × Int) × (Int × Int) // (Bd x.1.1 ∧ Bd x.1.2) ∧ (Bd x.2.1 ∧ Bd x.2.2) }
theorem bdL_any {ps : Pl} (h : BdL ps) (k : Nat) : Bd (Gx.g ps k).1 ∧ Bd (Gx.g ps k).2 := by
  by_cases c : k < ps.length
  · exact bdL_get h c
  · have : Gx.g ps k = (0, 0) := by unfold Gx.g; rw [List.getD_eq_getElem?_getD, List.getElem?_eq_none (by omega)]; rfl
    rw [this]; unfold Bd; simp
def qp (ps : Pl) (h : BdL ps) (k : Nat) : Qp := ⟨(Gx.g ps k, Gx.gc ps (k + 1)), bdL_any h _, bdL_any h _⟩
/-- Contained: in the box, and on the left of all sides. -/
theorem cont_upTo {ps : Pl} (hb : BdL ps) {q : Int × Int} : Gx.Cont ps q ↔ Gx.Box ps q ∧ ∀ x ∈ upTo (qp ps hb) (sidesN ps), 0 ≤ Gx.dt x.1.1 x.1.2 q := by
  by_cases h : ps.length = 1
  · have e : upTo (qp ps hb) (sidesN ps) = [] := by unfold sidesN; rw [if_pos h]; rfl
    rw [e]
    exact ⟨fun c => ⟨c.box, fun x hx => by cases hx⟩, fun c => ⟨c.1, fun k => absurd h k⟩⟩
  · have e : Gx.Left ps q ↔ ∀ x ∈ upTo (qp ps hb) (sidesN ps), 0 ≤ Gx.dt x.1.1 x.1.2 q := by
      unfold sidesN upTo Gx.Left
      rw [if_neg h]
      simp only [List.mem_map, List.mem_range, forall_exists_index, and_imp]
      exact ⟨fun H x i hi e => e ▸ H i hi, fun H i hi => H _ i hi rfl⟩
    rw [← e]
    exact ⟨fun c => ⟨c.box, c.left h⟩, fun c => ⟨c.1, fun _ => c.2⟩⟩
/-- There is a side that has the point on its right. -/
theorem cont_no {ps : Pl} (hb : BdL ps) {q : Int × Int} {k : Nat} (hk : k ≤ sidesN ps) {x : Qp} (hx : x ∈ upTo (qp ps hb) k) (h : Gx.dt x.1.1 x.1.2 q < 0) : ¬ Gx.Cont ps q := fun c => by
  obtain ⟨i, hi, rfl⟩ := List.mem_map.1 hx
  have := ((cont_upTo hb).1 c).2 (qp ps hb i) (List.mem_map.2 ⟨i, List.mem_range.2 (by have := List.mem_range.1 hi; omega), rfl⟩)
  omega
end Go.Proofs.YtooochbfnmmnkaaGreat
namespace Go.Proofs.YtooochbfnmmnkaaGreat
open Go.RowKit Go.Proofs.Gn Go.Shelf
attribute [local go_sem] Oper.semAt_some
end Go.Proofs.YtooochbfnmmnkaaGreat
namespace Go.Proofs.YtooochbfnmmnkaaGreat
open Go.RowKit Go.Proofs.Gn
/-- The corners that are left, in their order. -/
def turnsL (ss : Pl) : Pl := (Gx.chainR ss).reverse
theorem turnsL_snoc (ss : Pl) (p : Int × Int) : turnsL (ss ++ [p]) = leftS p (turnsL ss) ++ [p] := by
  unfold turnsL leftS
  rw [Gx.chainR_snoc, List.reverse_reverse]
  unfold Gx.pushS
  rw [List.reverse_cons]
theorem turnsL_sub (ss : Pl) : ∀ p ∈ turnsL ss, p ∈ ss := by
  intro p hp
  generalize hr : ss.reverse = r
  induction r generalizing ss p with
  | nil =>
    have : ss = [] := by simpa using hr
    subst this
    simp [turnsL, Gx.chainR] at hp
  | cons q r ih =>
    have e : ss = r.reverse ++ [q] := by rw [← List.reverse_reverse ss, hr]; simp
    rw [e] at hp ⊢
    rw [turnsL_snoc] at hp
    rcases List.mem_append.1 hp with hp | hp
    · exact List.mem_append_left _ (ih r.reverse p ((leftS_prefix _ _).subset hp) (by simp))
    · exact List.mem_append_right _ hp
theorem turnsL_len (ss : Pl) : (turnsL ss).length ≤ ss.length := by
  generalize hr : ss.reverse = r
  induction r generalizing ss with
  | nil =>
    have : ss = [] := by simpa using hr
    subst this
    simp [turnsL, Gx.chainR]
  | cons q r ih =>
    have e : ss = r.reverse ++ [q] := by rw [← List.reverse_reverse ss, hr]; simp
    rw [e, turnsL_snoc]
    have a := (leftS_prefix q (turnsL r.reverse)).length_le
    have b := ih r.reverse (by simp)
    simp only [List.length_append, List.length_cons, List.length_nil]
    omega
theorem turnsL_pos {ss : Pl} (h : 0 < ss.length) : 0 < (turnsL ss).length := by
  obtain ⟨t, q, e⟩ : ∃ t q, ss = t ++ [q] := by
    have hne : ss ≠ [] := by intro e; rw [e] at h; simp at h
    exact ⟨ss.dropLast, ss.getLast hne, (List.dropLast_concat_getLast hne).symm⟩
  rw [e, turnsL_snoc]
  simp
theorem bdL_sub {a b : Pl} (h : BdL b) (hs : ∀ p ∈ a, p ∈ b) : BdL a := fun p hp => h p (hs p hp)
theorem turns_own {W : World} {B : Nat} {v : Value} {m : Nat} {ss ps : Pl} {x y : Int} {k : Nat} (ht : turnsL (ss.take (k + 1)) = leftS (x, y) ps ++ [(x, y)]) (hq : leftS (x, y) ps = ps.take m) (hm : (leftS (x, y) ps).length = m)
    (ho : W.ownsRow B 43 2 v (m + 1) (cellsPl (ps.take m) ++ [.int .i64 x, .int .i64 y])) : W.ownsRow B 43 2 v (turnsL (ss.take (k + 1))).length (cellsPl (turnsL (ss.take (k + 1)))) := by
  rw [ht, cellsPl_snoc, List.length_append, hm, hq]
  exact ho
set_option maxRecDepth 100000 in
set_option maxHeartbeats 2000000 in
theorem p_leftTurns (A : Option Addr) (ss : Pl) (cap : Nat) (w : World) (h : Pts w A ss) (hn : ss.length ≤ 70000) (hb : BdL ss) :
    Calls Tryz.prog 77 #[.slice A ss.length cap] w fun e w' => ∃ v, e = .returned v ∧ w'.ownsRow w.heap.size 43 2 v (turnsL ss).length (cellsPl (turnsL ss)) ∧ Below w.heap.size w w' := by
  have HS := hide h
  have HBD := hide hb
  clear h hb
  obtain ⟨n, hN⟩ : ∃ n, ss.length = n := ⟨_, rfl⟩
  rw [hN] at hn ⊢
  have HN := hide hN
  clear hN
  obtain ⟨i0, hi, hz0, hz1, hz2⟩ := info_parts info_pt
  have HI := hide hi
  clear hi
  go_enter Tryz.func77, Tryz.ntmps77
  go_wp2_with fail
  go_loopw [3, 8] (fun v i wr => ∃ k : Nat, k ≤ n ∧ i = .int .i64 k ∧ wr.ownsRow w.heap.size 43 2 v (turnsL (ss.take k)).length (cellsPl (turnsL (ss.take k))) ∧ Below w.heap.size w wr ∧ (k = 0 → v = .slice none 0 0)) (fun _ i _ => n - (intOf i).toNat)
  case atStart => exact ⟨0, Nat.zero_le _, rfl, World.ownsRow_nil _ _ _ _, Below.refl _ _, fun _ => rfl⟩
  case round =>
    obtain ⟨k, hk, rfl, hown, hbe, hnil⟩ := hrel
    by_cases hlt : k < n
    · have hl : k < ss.length := by rw [unhide HN]; exact hlt
      obtain ⟨b, off, rfl, hc⟩ := (unhide HS).resolve_left (by intro e; rw [e] at hl; simp at hl)
      obtain ⟨c0, c1⟩ := hc k hl
      have bd := unhide HBD ss[k] (List.getElem_mem hl)
      have ht : ss.take (k + 1) = ss.take k ++ [(ss[k].1, ss[k].2)] := by rw [List.take_succ_eq_append_getElem hl]
      obtain ⟨x, hx⟩ : ∃ x, ss[k].1 = x := ⟨_, rfl⟩
      obtain ⟨y, hy⟩ : ∃ y, ss[k].2 = y := ⟨_, rfl⟩
      rw [hx] at c0 bd ht
      rw [hy] at c1 bd ht
      have hts := turnsL_snoc (ss.take k) (x, y)
      rw [← ht] at hts
      have d0 := up_cell hbe c0
      have d1 := up_cell hbe c1
      have bps : BdL (turnsL (ss.take k)) := bdL_sub (unhide HBD) fun p hp => List.mem_of_mem_take (turnsL_sub _ p hp)
      have lps : (turnsL (ss.take k)).length ≤ k := by have := turnsL_len (ss.take k); rw [List.length_take, unhide HN] at this; omega
      obtain ⟨ps, hps⟩ : ∃ ps, turnsL (ss.take k) = ps := ⟨_, rfl⟩
      rw [hps] at hown hts bps lps
      have lq := (leftS_prefix (x, y) ps).length_le
      have hq : leftS (x, y) ps = ps.take (leftS (x, y) ps).length := (List.prefix_iff_eq_take.1 (leftS_prefix (x, y) ps))
      have HTS := hide hts
      have HBE := hide hbe
      have HO := hide hown
      have HBP := hide bps
      have hk0 : k = 0 → ps = [] := fun e => by rw [← hps, e]; rfl
      by_cases hk1 : k = 0
      · subst hk1
        obtain rfl := hnil rfl
        obtain rfl := hk0 rfl
        simp only [Nat.zero_mul, Nat.add_zero] at d0 d1
        clear hown hbe hnil hk0 hps hts bps hx hy ht hc c0 c1 lps lq hq
        go_wp2_with (first
          | (go_at_call 100; refine (p_drop0 _ _ _).mono ?_; rintro e w2 ⟨rfl, hb2⟩; have x2 : w2.cell? ⟨wr.heap.size, 0, none⟩ = some (.int .i64 x) := up_cell hb2 (by go_cell); have y2 : w2.cell? ⟨wr.heap.size, 1, none⟩ = some (.int .i64 y) := up_cell hb2 (by go_cell))
          | (at_builtin; refine wpList_append_own _ rfl _ _ 67 rfl w.heap.size 43 i0 _ 2 16 Tryz.underlying67 (unhide HI) hz0 hz1 hz2 rfl (by decide) _ 0 (cellsPl (([] : Pl).take 0)) rfl (World.ownsRow_nil _ _ _ _) ⟨w2.heap.size, 0, none⟩ 1 1 [.int .i64 x, .int .i64 y] rfl rfl (two_new _ _ _ _) (by intro u hu; simp at hu; rcases hu with rfl | rfl <;> rfl) (by unfold maxLen; omega) (by omega) (by have := (unhide HBE).size; have := hb2.size; simp at this ⊢; omega) ?_; intro v' w3 hown' hgrow _))
        have R1 := turns_own (unhide HTS) (ps := []) (m := 0) rfl rfl hown'
        have R2 : Below w.heap.size w w3 := Below.grown (below_up (unhide HBE) (Nat.le_refl _) (up_alloc (up_trans (up_alloc (up_refl _) _) hb2) _)) hgrow (by have := (unhide HBE).size; have := hb2.size; simp at this ⊢; omega) (fun j hj => by cases hj)
        exact ⟨⟨1, by omega, by go_num, R1, R2, by omega⟩, by simp [intOf]; omega⟩
      · have hpos : 0 < ps.length := by
          rw [← hps]
          exact turnsL_pos (by rw [List.length_take, unhide HN]; omega)
        obtain ⟨g, cp, hv, hg, hcp, hcp2⟩ := own_some hown hpos
        subst hv
        obtain ⟨m, hm⟩ : ∃ m, (leftS (x, y) ps).length = m := ⟨_, rfl⟩
        have PD : ∀ W : World, W.ownsRow w.heap.size 43 2 (.slice (some ⟨g, 0, none⟩) ps.length cp) ps.length (cellsPl ps) → W.cell? ⟨wr.heap.size, 0, none⟩ = some (.int .i64 x) → W.cell? ⟨wr.heap.size, 1, none⟩ = some (.int .i64 y) →
            Calls Tryz.prog 100 #[.slice (some ⟨g, 0, none⟩) ps.length cp, .func (.func 101) #[] #[.pointer (some ⟨wr.heap.size, 0, none⟩)]] W fun e w' => e = .returned (.slice (some ⟨g, 0, none⟩) m cp) ∧ Up W w' := fun W hO hx hy => by
          have q := p_drop g ps cp wr.heap.size x y W (own_cells hO) hx hy hcp hcp2 bps bd.1 bd.2
          rwa [hm] at q
        rw [hm] at lq hq
        have HPD := hide PD
        have HQ := hide hq
        have HM := hide hm
        obtain ⟨N, hN2⟩ : ∃ N, ps.length = N := ⟨_, rfl⟩
        rw [hN2] at HO HPD lq lps ⊢
        clear hown hbe hnil hk0 hps hts bps hx hy ht hc c0 c1 PD hq hm hcp hcp2 hpos hN2
        go_wp2_with (first
          | (go_at_call 100; (with_reducible refine (unhide HPD _ ((unhide HO).alloc _) (by go_cell) (by go_cell)).mono ?_); rintro e w2 ⟨rfl, hb2⟩; have x2 : w2.cell? ⟨wr.heap.size, 0, none⟩ = some (.int .i64 x) := up_cell hb2 (by go_cell); have y2 : w2.cell? ⟨wr.heap.size, 1, none⟩ = some (.int .i64 y) := up_cell hb2 (by go_cell))
          | (at_builtin; refine wpList_append_own _ rfl _ _ 67 rfl w.heap.size 43 i0 _ 2 16 Tryz.underlying67 (unhide HI) hz0 hz1 hz2 rfl (by decide) _ m (cellsPl (ps.take m)) rfl (by rw [← cellsPl_take]; exact (own_prefix (own_up ((unhide HO).alloc _) hb2) lq).alloc _) ⟨w2.heap.size, 0, none⟩ 1 1 [.int .i64 x, .int .i64 y] rfl rfl (two_new _ _ _ _) (by intro u hu; simp at hu; rcases hu with rfl | rfl <;> rfl) (by unfold maxLen; omega) (by omega) (by have := (unhide HBE).size; have := hb2.size; simp at this ⊢; omega) ?_; intro v' w3 hown' hgrow _))
        have R1 := turns_own (unhide HTS) (unhide HQ) (unhide HM) hown'
        have R2 : Below w.heap.size w w3 := Below.grown (below_up (unhide HBE) (Nat.le_refl _) (up_alloc (up_trans (up_alloc (up_refl _) _) hb2) _)) hgrow (by have := (unhide HBE).size; have := hb2.size; simp at this ⊢; omega) (fun j hj => by cases hj; exact hg)
        exact ⟨⟨k + 1, by omega, by go_num, R1, R2, by omega⟩, by simp [intOf]; omega⟩
    · obtain rfl : k = n := by omega
      have e : ss.take k = ss := List.take_of_length_le (by rw [unhide HN]; exact Nat.le_refl _)
      rw [e] at hown
      have HO := hide hown
      have HBE := hide hbe
      clear e hown hbe hnil
      go_wp2_with fail
      exact bodyPost_ret (by simp [results, Tryz.results77, go_sem]) rfl ⟨_, rfl, unhide HO, unhide HBE⟩
end Go.Proofs.YtooochbfnmmnkaaGreat
namespace Go.Proofs.YtooochbfnmmnkaaGreat
open Go.RowKit Go.Proofs.Gn
theorem cellsPl_append (a b : Pl) : cellsPl (a ++ b) = cellsPl a ++ cellsPl b := by simp [cellsPl]
theorem hullF_eq {ps ss : Pl} (h : ss = Gx.sortU ps) : (ss.length = 1 → Gx.hullF ps = ss) ∧ (ss.length ≠ 1 → Gx.hullF ps = (turnsL ss).take ((turnsL ss).length - 1) ++ (turnsL ss.reverse).take ((turnsL ss.reverse).length - 1)) := by
  subst h
  unfold Gx.hullF Gx.hullS turnsL
  refine ⟨fun h => by rw [if_pos h], fun h => by rw [if_neg h, List.dropLast_eq_take, List.dropLast_eq_take]⟩
theorem own_one {W : World} {base e : Nat} {v : Value} {n : Nat} {ps : Pl} (h : W.ownsRow base e 2 v n (cellsPl ps)) : n = ps.length := own_len h
theorem sort_len (ps : Pl) : (Gx.sortU ps).length ≤ ps.length := by
  have : ∀ (l : Pl) (p : Int × Int), (Gx.insU p l).length ≤ l.length + 1 := by
    intro l p
    induction l with
    | nil => exact Nat.le_refl _
    | cons a l ih =>
      unfold Gx.insU
      split
      · simpa using ih
      · split <;> simp
  generalize hr : ps.reverse = r
  induction r generalizing ps with
  | nil =>
    have : ps = [] := by simpa using hr
    subst this
    exact Nat.le_refl _
  | cons q r ih =>
    have e : ps = r.reverse ++ [q] := by rw [← List.reverse_reverse ps, hr]; simp
    rw [e, Gx.sortU_snoc]
    have a := this (Gx.sortU r.reverse) q
    have b := ih r.reverse (by simp)
    simp only [List.length_append, List.length_cons, List.length_nil]
    omega
theorem own_base {W : World} {base b' e size n : Nat} {v : Value} {xs : List Value} (h : W.ownsRow base e size v n xs) (hb : b' ≤ base) : W.ownsRow b' e size v n xs := by
  rcases h with ⟨hl, h | ⟨g, cap, cur, rfl, h1, h2⟩⟩
  · exact ⟨hl, .inl h⟩
  · exact ⟨hl, .inr ⟨g, cap, cur, rfl, Nat.le_trans hb h1, h2⟩⟩
theorem own_lt {W : World} {base e size n m cap g : Nat} {xs : List Value} (h : W.ownsRow base e size (.slice (some ⟨g, 0, none⟩) n cap) m xs) : g < W.heap.size := by
  rcases h.2 with ⟨k, _⟩ | ⟨g', cap', cur, e1, _, hgg, _⟩
  · simp at k
  · simp only [Value.slice.injEq, Option.some.injEq, Addr.mk.injEq, and_true] at e1
    obtain ⟨rfl, _⟩ := e1
    exact (Array.getElem?_eq_some_iff.1 hgg).1
/-- leftTurns at a list of the call's own. -/
theorem p_turnsO {B m a cp g : Nat} {ss : Pl} (ha : (turnsL ss).length = a) (hm : ss.length = m) (h0 : 0 < m) (hn : m ≤ 70000) (hb : BdL ss) (W : World) (h : W.ownsRow B 43 2 (.slice (some ⟨g, 0, none⟩) m cp) m (cellsPl ss)) :
    Calls Tryz.prog 77 #[.slice (some ⟨g, 0, none⟩) m cp] W fun e w' => ∃ g4 c4, e = .returned (.slice (some ⟨g4, 0, none⟩) a c4) ∧ W.heap.size ≤ g4 ∧ a ≤ c4 ∧ c4 ≤ 9223372036854775807 ∧ w'.ownsRow W.heap.size 43 2 (.slice (some ⟨g4, 0, none⟩) a c4) a (cellsPl (turnsL ss)) ∧ Up W w' := by
  obtain ⟨A, c, e, hp⟩ := own_pts h
  rw [hm] at e
  simp only [Value.slice.injEq, true_and] at e
  obtain ⟨rfl, rfl⟩ := e
  have q := p_leftTurns (some ⟨g, 0, none⟩) ss cp W hp (by omega) hb
  rw [hm, ha] at q
  refine q.mono fun e w' ⟨v, he, ho, hb⟩ => ?_
  have := turnsL_pos (ss := ss) (by omega)
  obtain ⟨g4, c4, rfl, h1, h2, h3⟩ := own_some ho (by omega)
  exact ⟨g4, c4, he, h1, h2, h3, ho, hb⟩
set_option maxRecDepth 100000 in
set_option maxHeartbeats 2000000 in
theorem p_hull (A : Option Addr) (ps : Pl) (cap : Nat) (w : World) (h : Pts w A ps) (h0 : 0 < ps.length) (hn : ps.length ≤ 60000) (hb : BdL ps) :
    Calls Tryz.prog 47 #[.slice A ps.length cap] w fun e w' => ∃ v, e = .returned v ∧ w'.ownsRow w.heap.size 43 2 v (Gx.hullF ps).length (cellsPl (Gx.hullF ps)) ∧ Below w.heap.size w w' := by
  have PC := p_clone A ps cap w h h0 (by omega)
  obtain ⟨ss, hss⟩ : ∃ ss, Gx.sortU ps = ss := ⟨_, rfl⟩
  have hssl : ss.length ≤ ps.length := by rw [← hss]; exact sort_len ps
  have hss0 : 0 < ss.length := by
    rw [← hss]
    exact List.length_pos_iff.2 (Gx.sortU_ne (by intro e; rw [e] at h0; simp at h0))
  have hbs : BdL ss := by rw [← hss]; exact fun p hp => hb p (((Gx.sortU_ok ps).2 p).1 hp)
  have hF := hullF_eq hss.symm
  have PS : ∀ (W : World) (g cp : Nat), W.ownsRow w.heap.size 43 2 (.slice (some ⟨g, 0, none⟩) ps.length cp) ps.length (cellsPl ps) → Below w.heap.size w W → w.heap.size ≤ g → ps.length ≤ cp → cp ≤ 9223372036854775807 →
      Calls Tryz.prog 74 #[.slice (some ⟨g, 0, none⟩) ps.length cp, .func (.func 75) #[] #[]] W fun e w' => e = .returned (.tuple #[]) ∧
        (∃ qs : Pl, Gx.dedup qs = ss ∧ w'.ownsRow w.heap.size 43 2 (.slice (some ⟨g, 0, none⟩) ps.length cp) ps.length (cellsPl qs)) ∧ Below w.heap.size w w' := fun W g cp ho hb hg hc hc2 => by
    have hgl : g < W.heap.size := by
      rcases ho.2 with ⟨k, _⟩ | ⟨g', cap', cur, e1, _, hgg, _⟩
      · simp at k
      · simp only [Value.slice.injEq, Option.some.injEq, Addr.mk.injEq, and_true, true_and] at e1
        obtain ⟨rfl, rfl⟩ := e1
        exact (Array.getElem?_eq_some_iff.1 hgg).1
    refine (p_sort W ho hb.size hg hgl (by omega)).mono fun e w' ⟨he, qs, hp, hq, ho', hb'⟩ => ⟨he, ⟨qs, ?_, ho'⟩, hb.trans hb'⟩
    rw [← hss]
    exact Gx.dedup_sort hp hq
  have PK : ∀ (W : World) (g cp : Nat) (qs : Pl), Gx.dedup qs = ss → W.ownsRow w.heap.size 43 2 (.slice (some ⟨g, 0, none⟩) ps.length cp) ps.length (cellsPl qs) → Below w.heap.size w W → w.heap.size ≤ g → ps.length ≤ cp → cp ≤ 9223372036854775807 →
      Calls Tryz.prog 76 #[.slice (some ⟨g, 0, none⟩) ps.length cp] W fun e w' => e = .returned (.slice (some ⟨g, 0, none⟩) ss.length cp) ∧
        w'.ownsRow w.heap.size 43 2 (.slice (some ⟨g, 0, none⟩) ss.length cp) ss.length (cellsPl ss) ∧ Below w.heap.size w w' := fun W g cp qs hq ho hb hg hc hc2 => by
    refine (p_compact_any W ho hb.size hg (by omega) (by omega) hc hc2).mono fun e w' ⟨he, ho', hb'⟩ => ?_
    rw [hq] at he ho'
    exact ⟨he, ho', hb.trans hb'⟩
  obtain ⟨n, hN⟩ : ∃ n, ps.length = n := ⟨_, rfl⟩
  obtain ⟨m, hM⟩ : ∃ m, ss.length = m := ⟨_, rfl⟩
  rw [hN] at h0 hn hssl PC PS PK
  rw [hN]
  rw [hM] at hssl hss0 hF PK
  have HPC := hide PC
  have HPS := hide PS
  have HPK := hide PK
  have HBS := hide hbs
  have HM := hide hM
  have HF := hide hF
  clear PC PS PK h hb hss hbs hN hM hF
  have g1 : (1 : Int) ≤ (n : Int) := by omega
  by_cases h1 : m = 1
  · subst h1
    have e := (unhide HF).1 rfl
    rw [e, unhide HM]
    clear HBS HF e
    go_enter Tryz.func47, Tryz.ntmps47
    go_wp2_with (first
      | (go_at_call 73; (with_reducible refine (unhide HPC).mono ?_); rintro e w1 ⟨v, rfl, ho1, hb1⟩; obtain ⟨g, cp, rfl, hg, hcp, hcp2⟩ := own_some ho1 (by omega); have O1 := hide ho1; have B1 := hide hb1; clear ho1 hb1 HPC)
      | (go_at_call 74; (with_reducible refine (unhide HPS _ _ _ (unhide O1) (unhide B1) hg hcp hcp2).mono ?_); rintro e w2 ⟨rfl, ⟨qs, hq, ho2⟩, hb2⟩; have O2 := hide ho2; have B2 := hide hb2; have HQ := hide hq; clear ho2 hb2 hq HPS)
      | (go_at_call 76; (with_reducible refine (unhide HPK _ _ _ _ (unhide HQ) (unhide O2) (unhide B2) hg hcp hcp2).mono ?_); rintro e w3 ⟨rfl, ho3, hb3⟩; have O3 := hide ho3; have B3 := hide hb3; clear ho3 hb3 HPK))
    exact bodyPost_ret (by simp [results, Tryz.results47, go_sem]) rfl ⟨_, rfl, unhide O3, unhide B3⟩
  · have h2 : (m : Int) ≠ 1 := by omega
    have h3 : ((m : Int) == 1) = false := by simpa using h2
    obtain ⟨a, ha⟩ : ∃ a, (turnsL ss).length = a := ⟨_, rfl⟩
    obtain ⟨b, hb⟩ : ∃ b, (turnsL ss.reverse).length = b := ⟨_, rfl⟩
    have e := (unhide HF).2 h1
    rw [ha, hb] at e
    have ha0 : 0 < a := by rw [← ha]; exact turnsL_pos (by rw [unhide HM]; exact hss0)
    have hb0 : 0 < b := by rw [← hb]; exact turnsL_pos (by simp [unhide HM]; exact hss0)
    have ha1 : a ≤ m := by rw [← ha, ← unhide HM]; exact turnsL_len ss
    have hb1 : b ≤ m := by rw [← hb, ← unhide HM]; have := turnsL_len ss.reverse; simpa using this
    have P1 : ∀ (W : World) (g cp : Nat), W.ownsRow w.heap.size 43 2 (.slice (some ⟨g, 0, none⟩) m cp) m (cellsPl ss) → _ := fun W g cp ho => p_turnsO (cp := cp) ha (unhide HM) hss0 (by omega) (unhide HBS) W ho
    have P2 : ∀ (W : World) (g cp : Nat), W.ownsRow w.heap.size 43 2 (.slice (some ⟨g, 0, none⟩) m cp) m (cellsPl ss.reverse) → _ := fun W g cp ho => p_turnsO (cp := cp) hb (by rw [List.length_reverse]; exact unhide HM) hss0 (by omega) (bdL_sub (unhide HBS) fun p hp => List.mem_reverse.1 hp) W ho
    have HP1 := hide P1
    have HP2 := hide P2
    have HE := hide e
    clear HF P1 P2 e h2
    go_enter Tryz.func47, Tryz.ntmps47
    go_wp2_with (first
      | (go_at_call 73; (with_reducible refine (unhide HPC).mono ?_); rintro e w1 ⟨v, rfl, ho1, hb1⟩; obtain ⟨g, cp, rfl, hg, hcp, hcp2⟩ := own_some ho1 (by omega); have O1 := hide ho1; have B1 := hide hb1; clear ho1 hb1 HPC)
      | (go_at_call 74; (with_reducible refine (unhide HPS _ _ _ (unhide O1) (unhide B1) hg hcp hcp2).mono ?_); rintro e w2 ⟨rfl, ⟨qs, hq, ho2⟩, hb2⟩; have O2 := hide ho2; have B2 := hide hb2; have HQ := hide hq; clear ho2 hb2 hq HPS)
      | (go_at_call 76; (with_reducible refine (unhide HPK _ _ _ _ (unhide HQ) (unhide O2) (unhide B2) hg hcp hcp2).mono ?_); rintro e w3 ⟨rfl, ho3, hb3⟩; have O3 := hide ho3; have B3 := hide hb3; clear ho3 hb3 HPK)
      | (go_at_call 77; (with_reducible refine (unhide HP1 _ _ _ (unhide O3)).mono ?_); rintro e w4 ⟨g4, c4, rfl, hg4, hc4, hc4', ho4, hb4⟩; have O4 := hide ho4; have B4 := hide hb4; clear ho4 hb4 HP1)
      | (go_at_call 78; (with_reducible refine (p_reverse _ (own_up (unhide O3) (unhide B4)) (Nat.le_trans (unhide B3).size (up_size (unhide B4))) hg (by omega)).mono ?_); rintro e w5 ⟨rfl, ho5, hb5, hgr⟩; have O5 := hide ho5; have B5 := hide hb5; have GR := hide hgr; clear ho5 hb5 hgr)
      | (go_at_call 77; (with_reducible refine (unhide HP2 _ _ _ (unhide O5)).mono ?_); rintro e w6 ⟨g6, c6, rfl, hg6, hc6, hc6', ho6, hb6⟩; have O6 := hide ho6; have B6 := hide hb6; clear ho6 hb6 HP2))
    obtain ⟨i0, hi, hz0, hz1, hz2⟩ := info_parts info_pt
    have gne : g4 ≠ g := by
      have := own_lt (unhide O3)
      omega
    have OL : w6.ownsRow w.heap.size 43 2 (.slice (some ⟨g4, 0, none⟩) (a - 1) c4) (a - 1) (cellsPl ((turnsL ss).take (a - 1))) := by
      rw [← cellsPl_take]
      exact own_prefix (own_base (own_up ((unhide O4).kept (unhide GR) (.inr (by intro e; cases e; exact gne rfl))) (unhide B6)) (unhide B3).size) (Nat.sub_le _ _)
    have CR := cells_at (own_cells (own_prefix (unhide O6) (Nat.sub_le b 1)  |> (fun h => by rw [cellsPl_take] at h; exact h)))
    have BB : Below w.heap.size w w6 := (((unhide B3).trans ((unhide B4).mono (unhide B3).size)).trans (unhide B5)).trans ((unhide B6).mono (Nat.le_trans (unhide B3).size (Nat.le_trans (up_size (unhide B4)) (unhide B5).size)))
    have lr : ((turnsL ss.reverse).take (b - 1)).length = b - 1 := by rw [List.length_take]; omega
    have HI := hide hi
    have HOL := hide OL
    have HCR := hide CR
    have HBB := hide BB
    have HLR := hide lr
    have HLA := hide ha
    clear hi OL CR BB lr ha hb
    have w1' : IntKind.i64.wrap ((a : Int) - 1) = ((a - 1 : Nat) : Int) := by rw [IntWalk.i64_in _ ⟨by omega, by omega⟩]; omega
    have w2' : IntKind.i64.wrap ((b : Int) - 1) = ((b - 1 : Nat) : Int) := by rw [IntWalk.i64_in _ ⟨by omega, by omega⟩]; omega
    have w3' : ((a - 1 : Nat) : Int) ≤ (c4 : Int) := by omega
    have w4' : ((b - 1 : Nat) : Int) ≤ (c6 : Int) := by omega
    have w5' : a - 1 ≤ c4 := by omega
    have w6' : b - 1 ≤ c6 := by omega
    go_region_law (refine step_append_mine _ rfl (.tmp 26) (.tmp 31) 67 rfl w.heap.size 43 i0 _ 2 16 Tryz.underlying67 (unhide HI) hz0 hz1 hz2 rfl (Nat.zero_lt_succ _) (.slice (some ⟨g4, 0, none⟩) (a - 1) c4) (a - 1) (cellsPl ((turnsL ss).take (a - 1))) (by go_simp; done) (by exact unhide HOL) ⟨g6, 0, none⟩ (b - 1) c6 (cellsPl ((turnsL ss.reverse).take (b - 1))) (by go_simp; done) (by rw [cellsPl_length, unhide HLR]) (by intro j u hj; rw [show (⟨g6, 0, none⟩ : Addr).add j = ⟨g6, 0 + j, none⟩ from Go.WideShapes.add_plain _ _ _]; exact unhide HCR j u hj) (cellsPl_one _) (by unfold maxLen; omega) (by omega) (by exact (unhide HBB).size) ?_; intro v' w7 hown' hgrow)
    have hfin : w7.ownsRow w.heap.size 43 2 v' (Gx.hullF ps).length (cellsPl (Gx.hullF ps)) := by
      rw [unhide HE, cellsPl_append, List.length_append, unhide HLR, List.length_take, unhide HLA, Nat.min_eq_left (Nat.sub_le _ _)]
      exact hown'
    have hbel : Below w.heap.size w w7 := Below.grown (Below.drew (unhide HBB)) hgrow (Below.drew (unhide HBB)).size (fun j hj => by cases hj; exact Nat.le_trans (unhide B3).size hg4)
    have HFIN := hide hfin
    have HBEL := hide hbel
    clear hfin hbel hown' hgrow
    go_wp2
    exact bodyPost_ret (by simp [results, Tryz.results47, go_sem]) rfl ⟨_, rfl, unhide HFIN, unhide HBEL⟩
end Go.Proofs.YtooochbfnmmnkaaGreat
namespace Go.Proofs.YtooochbfnmmnkaaGreat
open Go.RowKit Go.Proofs.Gn
/-- A list as it lies: where, its points, its capacity. -/
structure Lst where
  at_ : Option Addr
  ps : Pl
  cap : Nat
def Lst.val (l : Lst) : Value := .slice l.at_ l.ps.length l.cap
/-- The slice at A holds these lists. -/
def Lss (w : World) (A : Option Addr) (ls : List Lst) : Prop :=
  ∃ b off, A = some ⟨b, off, none⟩ ∧ ∀ k (h : k < ls.length), w.cell? ⟨b, off + k, none⟩ = some ls[k].val ∧ Pts w ls[k].at_ ls[k].ps ∧ ls[k].ps.length ≤ 9223372036854775807
theorem lss_up {w w' : World} {A : Option Addr} {ls : List Lst} (h : Lss w A ls) (hu : Up w w') : Lss w' A ls := by
  obtain ⟨b, off, hA, hc⟩ := h
  exact ⟨b, off, hA, fun k hk => ⟨up_cell hu (hc k hk).1, pts_up (hc k hk).2.1 hu, (hc k hk).2.2⟩⟩
theorem lss_one {w : World} {b off : Nat} {l : Lst} (h0 : w.cell? ⟨b, off, none⟩ = some l.val) (h1 : Pts w l.at_ l.ps) (h2 : l.ps.length ≤ 9223372036854775807) : Lss w (some ⟨b, off, none⟩) [l] :=
  ⟨b, off, rfl, fun k hk => by
    obtain rfl : k = 0 := by simp at hk; omega
    exact ⟨h0, h1, h2⟩⟩
theorem lss_two {w : World} {b off : Nat} {l m : Lst} (h0 : w.cell? ⟨b, off, none⟩ = some l.val) (h1 : Pts w l.at_ l.ps) (h2 : l.ps.length ≤ 9223372036854775807) (k0 : w.cell? ⟨b, off + 1, none⟩ = some m.val) (k1 : Pts w m.at_ m.ps) (k2 : m.ps.length ≤ 9223372036854775807) : Lss w (some ⟨b, off, none⟩) [l, m] :=
  ⟨b, off, rfl, fun k hk => by
    match k, hk with
    | 0, _ => exact ⟨h0, h1, h2⟩
    | 1, _ => exact ⟨k0, k1, k2⟩⟩
/-- Is no list too long? Are all points valid? -/
def fewB (ls : List Lst) : Bool := ls.all fun l => decide (l.ps.length ≤ 256)
def okLL (ls : List Lst) : Bool := ls.all fun l => okL l.ps
def chkLL (ls : List Lst) : Int := if fewB ls then if okLL ls then 0 else 2 else 6
theorem all_take_succ {α : Type} {f : α → Bool} {l : List α} {k : Nat} (h : k < l.length) : (l.take (k + 1)).all f = ((l.take k).all f && f l[k]) := by
  rw [List.take_succ_eq_append_getElem h, List.all_append]
  simp
theorem all_at {α : Type} {f : α → Bool} {l : List α} {k : Nat} (h : k < l.length) (hk : f l[k] = false) : l.all f = false := by
  rw [List.all_eq_false]
  exact ⟨l[k], List.getElem_mem h, by simp [hk]⟩
theorem p_checkLists (A : Option Addr) (ls : List Lst) (cap : Nat) (w : World) (h : Lss w A ls) (hn : ls.length ≤ 9223372036854775807) :
    Calls Tryz.prog 46 #[.slice A ls.length cap] w fun e w' => e = .returned (.int .i64 (chkLL ls)) ∧ Up w w' := by
  have HL := hide h
  obtain ⟨b, off, rfl, hc⟩ := h
  have HC := hide hc
  clear hc
  obtain ⟨n, hN⟩ : ∃ n, ls.length = n := ⟨_, rfl⟩
  rw [hN]
  have HN := hide hN
  have hn' : n ≤ 9223372036854775807 := by omega
  clear hN hn
  go_enter Tryz.func46, Tryz.ntmps46
  go_wp2_with fail
  go_loopw [10] (fun i wr => ∃ k : Nat, k ≤ n ∧ i = .int .i64 k ∧ Up w wr ∧ fewB (ls.take k) = true) (fun i _ => n - (intOf i).toNat)
  case atStart => exact ⟨0, by omega, rfl, up_refl _, rfl⟩
  case round =>
    obtain ⟨k, hk, rfl, hu, ho⟩ := hrel
    have HO := hide ho
    clear ho
    by_cases hlt : k < n
    · have hl : k < ls.length := by rw [unhide HN]; exact hlt
      have hck := unhide HC k hl
      obtain ⟨l, hL⟩ : ∃ l, ls[k] = l := ⟨_, rfl⟩
      rw [hL] at hck
      have c0 := up_cell hu hck.1
      unfold Lst.val at c0
      have hm := hck.2.2
      have HX := hide hL
      clear hL hck
      by_cases hp : l.ps.length ≤ 256
      · go_wp2_with fail
        go_roundw
        case rel => exact ⟨k + 1, by omega, by go_num, hu, by unfold fewB; rw [all_take_succ hl, unhide HX]; have := unhide HO; unfold fewB at this; rw [this]; simpa using hp⟩
        case measure => simp [intOf]; omega
      · go_wp2_with fail
        go_ret
        refine ⟨ret_int ?_, hu⟩
        unfold chkLL fewB
        rw [all_at hl (by rw [unhide HX]; simpa using hp)]
        rfl
    · obtain rfl : k = n := by omega
      have hz : fewB ls = true := by
        have := unhide HO
        rwa [List.take_of_length_le (by rw [unhide HN]; omega)] at this
      have HZ := hide hz
      clear hz
      go_wp2_with fail
      go_loopw [20] (fun i wr => ∃ j : Nat, j ≤ k ∧ i = .int .i64 j ∧ Up w wr ∧ okLL (ls.take j) = true) (fun i _ => k - (intOf i).toNat)
      case atStart => exact ⟨0, by omega, rfl, hu, rfl⟩
      case round =>
        obtain ⟨j, hj, rfl, hu, ho⟩ := hrel
        have HO2 := hide ho
        clear ho
        by_cases hlt : j < k
        · have hl : j < ls.length := by rw [unhide HN]; exact hlt
          have hck := unhide HC j hl
          obtain ⟨l, hL⟩ : ∃ l, ls[j] = l := ⟨_, rfl⟩
          rw [hL] at hck
          have c0 := up_cell hu hck.1
          unfold Lst.val at c0
          have hp := hide (pts_up hck.2.1 hu)
          have hm := hck.2.2
          have HX := hide hL
          clear hL hck
          cases ho : okL l.ps
          · have hv : chkL l.ps = 2 := by unfold chkL; rw [ho]; rfl
            have HP := hide ho
            clear ho
            go_wp2_with (go_at_call 67; refine (p_checkPoints _ _ _ _ (unhide hp) hm).mono ?_; rintro e w' ⟨rfl, hb⟩)
            go_ret
            refine ⟨ret_int ?_, (by repeat' (first | (with_reducible exact up_refl _) | (with_reducible assumption) | (with_reducible refine up_alloc ?_ _) | (with_reducible refine up_drewN ?_ _) | (with_reducible refine up_drew ?_) | (with_reducible refine up_set ?_ (by first | (simp; done) | (simp; omega) | omega) _) | (refine up_trans ?_ (by with_reducible assumption))))⟩
            unfold chkLL okLL
            rw [unhide HZ, all_at hl (by rw [unhide HX]; exact unhide HP)]
            rfl
          · have hv : chkL l.ps = 0 := by unfold chkL; rw [ho]; rfl
            have HP := hide ho
            clear ho
            go_wp2_with (go_at_call 67; refine (p_checkPoints _ _ _ _ (unhide hp) hm).mono ?_; rintro e w' ⟨rfl, hb⟩)
            go_roundw
            case rel => exact ⟨j + 1, by omega, by go_num, (by repeat' (first | (with_reducible exact up_refl _) | (with_reducible assumption) | (with_reducible refine up_alloc ?_ _) | (with_reducible refine up_drewN ?_ _) | (with_reducible refine up_drew ?_) | (with_reducible refine up_set ?_ (by first | (simp; done) | (simp; omega) | omega) _) | (refine up_trans ?_ (by with_reducible assumption)))), by unfold okLL; rw [all_take_succ hl, unhide HX]; have := unhide HO2; unfold okLL at this; rw [this]; simpa using unhide HP⟩
            case measure => simp [intOf]; omega
        · obtain rfl : j = k := by omega
          have hz2 : chkLL ls = 0 := by
            unfold chkLL
            have := unhide HO2
            rw [List.take_of_length_le (by rw [unhide HN]; omega)] at this
            rw [unhide HZ, this]; rfl
          have HZ2 := hide hz2
          clear hz2
          go_wp2_with fail
          go_ret
          exact ⟨ret_int (unhide HZ2).symm, hu⟩
end Go.Proofs.YtooochbfnmmnkaaGreat
namespace Go.Proofs.YtooochbfnmmnkaaGreat
open Go.RowKit Go.Proofs.Gn
open Classical in
/-- Does it turn to the left at each corner? -/
noncomputable def tlB (l : Pl) : Bool := decide (∀ i, i < l.length → 0 < Gx.dt (Gx.g l i) (Gx.gc l (i + 1)) (Gx.gc l (i + 2)))
open Classical in
noncomputable def isHB (l : Pl) : Bool := decide (Gx.IsH l)
open Classical in
theorem isHB_iff {l : Pl} : isHB l = true ↔ Gx.IsH l := by unfold isHB; exact decide_eq_true_iff
open Classical in
theorem tlB_iff {l : Pl} : tlB l = true ↔ ∀ i, i < l.length → 0 < Gx.dt (Gx.g l i) (Gx.gc l (i + 1)) (Gx.gc l (i + 2)) := by unfold tlB; exact decide_eq_true_iff
theorem bool_no {b : Bool} (h : ¬ b = true) : b = false := by cases b; rfl; exact absurd rfl h
theorem tlB_yes {l : Pl} (h : ∀ i, i < l.length → 0 < Gx.dt (Gx.g l i) (Gx.gc l (i + 1)) (Gx.gc l (i + 2))) : tlB l = true := tlB_iff.2 h
theorem tlB_no {l : Pl} {i : Nat} (hi : i < l.length) (h : ¬ 0 < Gx.dt (Gx.g l i) (Gx.gc l (i + 1)) (Gx.gc l (i + 2))) : tlB l = false := bool_no fun k => h (tlB_iff.1 k i hi)
theorem tmod_nat (a b : Nat) : ((a : Int)).tmod (b : Int) = ((a % b : Nat) : Int) := rfl
/-- What isHull looks at of the corners up to k. -/
def FanOK (l : Pl) (k : Nat) : Prop := ∀ i, i < k → Gx.lt2 (Gx.g l 0) (Gx.g l (i + 1)) ∧ (0 < i → 0 < Gx.dt (Gx.g l 0) (Gx.g l i) (Gx.g l (i + 1)))
theorem fan_step {l : Pl} {k : Nat} (h : FanOK l k) (h1 : Gx.lt2 (Gx.g l 0) (Gx.g l (k + 1))) (h2 : 0 < k → 0 < Gx.dt (Gx.g l 0) (Gx.g l k) (Gx.g l (k + 1))) : FanOK l (k + 1) := fun i hi => by
  rcases Nat.lt_or_ge i k with c | c
  · exact h i c
  · obtain rfl : i = k := by omega
    exact ⟨h1, h2⟩
theorem isHB_no {l : Pl} {k : Nat} (hk : k + 1 < l.length) (h : ¬ (Gx.lt2 (Gx.g l 0) (Gx.g l (k + 1)) ∧ (0 < k → 0 < Gx.dt (Gx.g l 0) (Gx.g l k) (Gx.g l (k + 1))))) : isHB l = false := by
  refine bool_no fun q => ?_
  have p := isHB_iff.1 q
  exact h ⟨p.first k hk, fun h0 => p.fan k h0 hk⟩
theorem isHB_end {l : Pl} (h0 : 0 < l.length) (h : FanOK l (l.length - 1)) : isHB l = if l.length < 3 then true else tlB l := by
  have f1 : ∀ i, i + 1 < l.length → Gx.lt2 (Gx.g l 0) (Gx.g l (i + 1)) := fun i hi => (h i (by omega)).1
  have f2 : ∀ i, 0 < i → i + 1 < l.length → 0 < Gx.dt (Gx.g l 0) (Gx.g l i) (Gx.g l (i + 1)) := fun i h1 hi => (h i (by omega)).2 h1
  have ne : l ≠ [] := by intro e; rw [e] at h0; simp at h0
  split
  · rename_i c
    exact isHB_iff.2 ⟨ne, f1, f2, fun h3 => absurd h3 (by omega)⟩
  · rename_i c
    by_cases ht : ∀ i, i < l.length → 0 < Gx.dt (Gx.g l i) (Gx.gc l (i + 1)) (Gx.gc l (i + 2))
    · rw [tlB_yes ht]
      exact isHB_iff.2 ⟨ne, f1, f2, fun _ => ht⟩
    · have e : tlB l = false := bool_no fun k => ht (tlB_iff.1 k)
      rw [e]
      exact bool_no fun q => ht ((isHB_iff.1 q).turn (by omega))
end Go.Proofs.YtooochbfnmmnkaaGreat
namespace Go.Proofs.YtooochbfnmmnkaaGreat
open Go.RowKit Go.Proofs.Gn
/-- The length of the piece k, and of the first k pieces. -/
def px (ps : Pl) (k : Nat) : Int := (ps.getD k (0, 0)).1
def py (ps : Pl) (k : Nat) : Int := (ps.getD k (0, 0)).2
def far (ps : Pl) (k : Nat) : Int := root (sqd (px ps k) (py ps k) (px ps (k + 1)) (py ps (k + 1)))
def lon (ps : Pl) : Nat → Int
  | 0 => 0
  | k + 1 => lon ps k + far ps k
theorem lon_succ (ps : Pl) (k : Nat) : lon ps (k + 1) = lon ps k + far ps k := rfl
/-- A list that is looked at: not too long, its points valid, not empty. -/
def wayB (ps : Pl) : Bool := decide (ps.length ≤ 256) && okL ps && decide (0 < ps.length)
def wayE (ps : Pl) : Int := if ps.length ≤ 256 then if okL ps then if 0 < ps.length then 0 else 5 else 2 else 6
def wayV (ps : Pl) : Int := if wayB ps then lon ps (ps.length - 1) else 0
theorem okL_get {ps : Pl} (h : okL ps = true) {k : Nat} (hk : k < ps.length) : okp (px ps k) (py ps k) = true := by
  unfold px py
  rw [List.getD_eq_getElem?_getD, List.getElem?_eq_getElem hk]
  have := List.all_eq_true.1 h ps[k] (List.getElem_mem hk)
  simpa using this
theorem pts_get {w : World} {b off : Nat} {ps : Pl} (hc : ∀ k (h : k < ps.length), w.cell? ⟨b, off + k * 2, none⟩ = some (.int .i64 ps[k].1) ∧ w.cell? ⟨b, off + k * 2 + 1, none⟩ = some (.int .i64 ps[k].2)) {k : Nat} (hk : k < ps.length) :
    w.cell? ⟨b, off + k * 2, none⟩ = some (.int .i64 (px ps k)) ∧ w.cell? ⟨b, off + k * 2 + 1, none⟩ = some (.int .i64 (py ps k)) := by
  unfold px py
  rw [List.getD_eq_getElem?_getD, List.getElem?_eq_getElem hk]
  exact hc k hk
theorem far_bd {ps : Pl} (h : okL ps = true) {k : Nat} (hk : k + 1 < ps.length) : 0 ≤ far ps k ∧ far ps k ≤ 67108864 := by
  have a := okL_get h (k := k) (by omega)
  have b := okL_get h hk
  have a1 := okc_yes (okp_yes a).1
  have a2 := okc_yes (okp_yes a).2
  have b1 := okc_yes (okp_yes b).1
  have b2 := okc_yes (okp_yes b).2
  refine ⟨root_nonneg _, root_le (sqd_nonneg _ _ _ _) (by omega) ?_⟩
  unfold sqd
  have m1 := mul_bd2 (u := px ps (k + 1) - px ps k) (v := px ps (k + 1) - px ps k) (by omega) (by omega) (by omega) (by omega)
  have m2 := mul_bd2 (u := py ps (k + 1) - py ps k) (v := py ps (k + 1) - py ps k) (by omega) (by omega) (by omega) (by omega)
  omega
theorem lon_bd {ps : Pl} (h : okL ps = true) : ∀ k : Nat, k < ps.length → 0 ≤ lon ps k ∧ lon ps k ≤ 67108864 * (k : Int) := by
  intro k
  induction k with
  | zero => intro _; simp [lon]
  | succ k ih =>
    intro hk
    have a := ih (by omega)
    have b := far_bd h hk
    rw [lon_succ]
    omega
theorem chkLL_one (A : Option Addr) (ps : Pl) (cap : Nat) : chkLL [⟨A, ps, cap⟩] = if ps.length ≤ 256 then if okL ps then 0 else 2 else 6 := by
  simp [chkLL, fewB, okLL]
/-! ### The document's own answers -/
def ptsE (ps : Pl) : Int := if ps.length ≤ 256 then if okL ps then 0 else 2 else 6
end Go.Proofs.YtooochbfnmmnkaaGreat
namespace Go.Proofs.YtooochbfnmmnkaaGreat
open Go.RowKit Go.Proofs.Gn
theorem okL_bdL {ps : Pl} (h : okL ps = true) : BdL ps := fun p hp => okp_bd (List.all_eq_true.1 h p hp)
/-- The errors of hulls. -/
noncomputable def hulE (ls : List Lst) : Int := if chkLL ls = 0 then if (ls.all fun l => isHB l.ps) then 0 else 2 else chkLL ls
theorem chkLL_zero {ls : List Lst} (h : chkLL ls = 0) : ∀ l ∈ ls, l.ps.length ≤ 256 ∧ okL l.ps = true := by
  unfold chkLL at h
  intro l hl
  cases h1 : fewB ls with
  | false => rw [h1] at h; simp at h
  | true =>
    cases h2 : okLL ls with
    | false => rw [h1, h2] at h; simp at h
    | true => exact ⟨by simpa using List.all_eq_true.1 h1 l hl, List.all_eq_true.1 h2 l hl⟩
theorem hulE_one {A : Option Addr} {ps : Pl} {cap : Nat} (hl : ps.length ≤ 256) (ho : okL ps = true) : hulE [⟨A, ps, cap⟩] = if isHB ps then 0 else 2 := by
  have : chkLL [⟨A, ps, cap⟩] = 0 := by rw [chkLL_one, if_pos hl, ho]; rfl
  unfold hulE
  rw [if_pos this]
  simp
theorem p_HullNone (A : Option Addr) (cap : Nat) (w : World) :
    Calls Tryz.prog 22 #[.slice A 0 cap] w fun e w' => e = .returned (.tuple #[.slice none 0 0, .int .i64 5]) ∧ Up w w' := by
  have PC : ∀ W, Up w W → W.cell? ⟨w.heap.size, 0, none⟩ = some (.slice A 0 cap) → Calls Tryz.prog 46 #[.slice (some ⟨w.heap.size, 0, none⟩) 1 1] W fun e w' => e = .returned (.int .i64 0) ∧ Up W w' := fun W hu hw =>
    p_checkLists (some ⟨w.heap.size, 0, none⟩) [⟨A, [], cap⟩] 1 W (lss_one (l := ⟨A, [], cap⟩) hw (.inl rfl) (by simp)) (by simp)
  have HPC := hide PC
  clear PC
  go_enter Tryz.func22, Tryz.ntmps22
  go_wp2_with (go_at_call 46; (with_reducible refine (unhide HPC _ (by repeat' (first | (with_reducible exact up_refl _) | (with_reducible assumption) | (with_reducible refine up_alloc ?_ _) | (with_reducible refine up_drewN ?_ _) | (with_reducible refine up_drew ?_) | (with_reducible refine up_set ?_ (by first | (simp; done) | (simp; omega) | omega) _) | (refine up_trans ?_ (by with_reducible assumption)))) ?_).mono ?_); (· go_cell); rintro e w1 ⟨rfl, hb1⟩)
  go_ret2
  exact ⟨rfl, (by repeat' (first | (with_reducible exact up_refl _) | (with_reducible assumption) | (with_reducible refine up_alloc ?_ _) | (with_reducible refine up_drewN ?_ _) | (with_reducible refine up_drew ?_) | (with_reducible refine up_set ?_ (by first | (simp; done) | (simp; omega) | omega) _) | (refine up_trans ?_ (by with_reducible assumption))))⟩
theorem p_Hull (A : Option Addr) (ps : Pl) (cap : Nat) (w : World) (h : Pts w A ps) (h0 : 0 < ps.length) (hl : ps.length ≤ 256) (ho : okL ps = true) :
    Calls Tryz.prog 22 #[.slice A ps.length cap] w fun e w' => ∃ v, e = .returned (.tuple #[v, .int .i64 0]) ∧ w'.ownsRow w.heap.size 43 2 v (Gx.hullF ps).length (cellsPl (Gx.hullF ps)) ∧ Below w.heap.size w w' := by
  have PC : ∀ W, Up w W → W.cell? ⟨w.heap.size, 0, none⟩ = some (.slice A ps.length cap) → Calls Tryz.prog 46 #[.slice (some ⟨w.heap.size, 0, none⟩) 1 1] W fun e w' => e = .returned (.int .i64 0) ∧ Up W w' := fun W hu hw => by
    have q := p_checkLists (some ⟨w.heap.size, 0, none⟩) [⟨A, ps, cap⟩] 1 W (lss_one (l := ⟨A, ps, cap⟩) hw (pts_up h hu) (by show ps.length ≤ _; omega)) (by simp)
    rw [chkLL_one, if_pos hl, ho] at q
    exact q
  have PH : ∀ W, Up w W → Calls Tryz.prog 47 #[.slice A ps.length cap] W fun e w' => ∃ v, e = .returned v ∧ w'.ownsRow w.heap.size 43 2 v (Gx.hullF ps).length (cellsPl (Gx.hullF ps)) ∧ Up w w' := fun W hu =>
    (p_hull A ps cap W (pts_up h hu) h0 (by omega) (okL_bdL ho)).mono fun e w' ⟨v, he, hown, hb⟩ => ⟨v, he, own_base hown hu.size, up_trans hu hb⟩
  have HPC := hide PC
  have HPH := hide PH
  clear PC PH h ho
  obtain ⟨n, hN⟩ : ∃ n, ps.length = n := ⟨_, rfl⟩
  rw [hN] at HPC HPH h0 hl ⊢
  obtain ⟨R, hR⟩ : ∃ R, Gx.hullF ps = R := ⟨_, rfl⟩
  rw [hR] at HPH ⊢
  clear hN hR
  have n0 : ((n : Int) == 0) = false := by simp; omega
  go_enter Tryz.func22, Tryz.ntmps22
  go_wp2_with (first | (go_at_call 46; (with_reducible refine (unhide HPC _ (by repeat' (first | (with_reducible exact up_refl _) | (with_reducible assumption) | (with_reducible refine up_alloc ?_ _) | (with_reducible refine up_drewN ?_ _) | (with_reducible refine up_drew ?_) | (with_reducible refine up_set ?_ (by first | (simp; done) | (simp; omega) | omega) _) | (refine up_trans ?_ (by with_reducible assumption)))) ?_).mono ?_); (· go_cell); rintro e w1 ⟨rfl, hb1⟩) | (go_at_call 47; (with_reducible refine (unhide HPH _ (by repeat' (first | (with_reducible exact up_refl _) | (with_reducible assumption) | (with_reducible refine up_alloc ?_ _) | (with_reducible refine up_drewN ?_ _) | (with_reducible refine up_drew ?_) | (with_reducible refine up_set ?_ (by first | (simp; done) | (simp; omega) | omega) _) | (refine up_trans ?_ (by with_reducible assumption))))).mono ?_); rintro e w2 ⟨v, rfl, hown, hb2⟩))
  go_ret2
  exact ⟨v, rfl, hown, hb2⟩
end Go.Proofs.YtooochbfnmmnkaaGreat
