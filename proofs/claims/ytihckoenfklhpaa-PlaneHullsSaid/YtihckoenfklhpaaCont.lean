/- Whether a hull contains a point. Whether a hull contains a point. -/
import Derived.RangeFuncNested
import Derived.RangeFuncLeaves
import Derived.Test.YtihckoenfklhpaaNeigh
import Derived.Test.YtihckoenfklhpaaBoxP
import Derived.Test.YtihckoenfklhpaaHullM
namespace Go.Proofs.Ytihckoenfklhpaa
open Go.RowKit Go.Proofs.Gn Go.Shelf
attribute [local go_sem] Oper.semAt_some
/-- What has come when k rounds are over. -/
def upTo {α : Type} (f : Nat → α) (k : Nat) : List α := (List.range k).map f
theorem upTo_succ {α : Type} (f : Nat → α) (k : Nat) : upTo f (k + 1) = upTo f k ++ [f k] := by simp [upTo, List.range_succ]
theorem upTo_len {α : Type} (f : Nat → α) (k : Nat) : (upTo f k).length = k := by simp [upTo]
/-- The pairs of neighbours, one after another; a walk may end before. -/
theorem nbs_stops {α : Type} (f : Nat → α) (encs : α → Array Value) (F : Fence) (n : Nat) (hf : F.fn 74) (hs : F.fn 75) (hro : F.round = none) (hn : 3 ≤ n) (Bs n₀ b off cap : Nat) (ps : Pl) (h0 : 0 < ps.length) (hlen : ps.length ≤ 70000) (hb : b < n₀) (w : World) (hBs' : Bs < w.heap.size) (hn₀ : n₀ ≤ w.heap.size)
    (hBs : w.cell? ⟨Bs, 0, none⟩ = some (.slice (some ⟨b, off, none⟩) ps.length cap)) (hc : ∀ k (h : k < ps.length), w.cell? ⟨b, off + k * 2, none⟩ = some (.int .i64 ps[k].1) ∧ w.cell? ⟨b, off + k * 2 + 1, none⟩ = some (.int .i64 ps[k].2))
    (he : ∀ k, k < sidesN ps → encs (f k) = #[pt (Gx.g ps k).1 (Gx.g ps k).2, pt (Gx.gc ps (k + 1)).1 (Gx.gc ps (k + 1)).2]) :
    SeqStopsK F n Try.prog 74 #[.pointer (some ⟨Bs, 0, none⟩)] encs (KpN n₀ Bs) (fun ys => ys = upTo f (sidesN ps)) (fun pre => ∃ k, k ≤ sidesN ps ∧ pre = upTo f k) (sidesN ps) w := fun l J Jx W hW hJ _ hY hJ0 =>
  (n_iter F n hf hs hro hn l Bs n₀ b off cap ps h0 hlen hb (fun k => J (upTo f k)) (fun k => Jx (upTo f k)) W (fun k => hJ (upTo f k))
    (fun k W1 hk hl => by have := hY (upTo f k) (f k) W1 hk (by rw [upTo_len]; exact hl); rw [he k hl, ← upTo_succ] at this; exact this)
    ((hW.cell (p := ⟨Bs, 0, none⟩) hBs').trans hBs)
    (fun k h => ⟨(hW.cell (p := ⟨b, off + k * 2, none⟩) (Nat.lt_of_lt_of_le hb hn₀)).trans (hc k h).1, (hW.cell (p := ⟨b, off + k * 2 + 1, none⟩) (Nat.lt_of_lt_of_le hb hn₀)).trans (hc k h).2⟩) hJ0).mono fun _ _ ⟨h1, h2⟩ =>
    ⟨h1, h2.imp (fun h => ⟨_, rfl, h⟩) (fun ⟨k, hk, h⟩ => ⟨_, ⟨k, hk, rfl⟩, h⟩)⟩
theorem kpN_b {n₀ Bs : Nat} {w : World} (hn : n₀ ≤ w.heap.size) (hB : Bs < w.heap.size) (W : World) (l : Nat) (o o' : Obj) (hl : w.heap.size ≤ l) (h : W.heap[l]? = some o) (hc : o.isCells = false) (hw : o.isWalk = false) : KpN n₀ Bs W (W.putObj l o') :=
  ⟨belowK_b hn W l o o' hl h hc hw, fun _ hv => ((belowK_b (n₀ := Bs + 1) hB W l o o' hl h hc hw).cell (p := ⟨Bs, 0, none⟩) (Nat.lt_succ_self _)).trans hv⟩
/-- The box is one. -/
theorem box_ex {ps : Pl} (h0 : 0 < ps.length) : ∀ k, k < ps.length → ∃ l1 l2 h1 h2, IsBox ps (k + 1) l1 l2 h1 h2
  | 0, _ => by
    have m := Gx.g_mem h0
    refine ⟨(Gx.g ps 0).1, (Gx.g ps 0).2, (Gx.g ps 0).1, (Gx.g ps 0).2, ⟨_, m, rfl⟩, ⟨_, m, rfl⟩, ⟨_, m, rfl⟩, ⟨_, m, rfl⟩, ?_, ?_, ?_, ?_⟩ <;> (intro i hi; obtain rfl : i = 0 := by omega) <;> exact Int.le_refl _
  | k + 1, hk => by
    obtain ⟨l1, l2, h1, h2, hB⟩ := box_ex h0 k (by omega)
    exact ⟨_, _, _, _, box_step hB hk rfl⟩
theorem box_one {ps : Pl} {l1 l2 h1 h2 l1' l2' h1' h2' : Int} (a : IsBox ps ps.length l1 l2 h1 h2) (b : IsBox ps ps.length l1' l2' h1' h2') : l1 = l1' ∧ l2 = l2' ∧ h1 = h1' ∧ h2 = h2' := by
  have lo : ∀ {f : Int × Int → Int} {x y : Int}, (∃ r ∈ ps, f r = x) → (∀ i, i < ps.length → y ≤ f (Gx.g ps i)) → y ≤ x := fun {f x y} ⟨r, hr, e⟩ h => by
    obtain ⟨i, hi, rfl⟩ := Gx.mem_g hr
    rw [← e]; exact h i hi
  have hi : ∀ {f : Int × Int → Int} {x y : Int}, (∃ r ∈ ps, f r = x) → (∀ i, i < ps.length → f (Gx.g ps i) ≤ y) → x ≤ y := fun {f x y} ⟨r, hr, e⟩ h => by
    obtain ⟨i, hi, rfl⟩ := Gx.mem_g hr
    rw [← e]; exact h i hi
  exact ⟨Int.le_antisymm (lo (f := Prod.fst) b.l1a a.l1b) (lo (f := Prod.fst) a.l1a b.l1b), Int.le_antisymm (lo (f := Prod.snd) b.l2a a.l2b) (lo (f := Prod.snd) a.l2a b.l2b), Int.le_antisymm (hi (f := Prod.fst) a.h1a b.h1b) (hi (f := Prod.fst) b.h1a a.h1b), Int.le_antisymm (hi (f := Prod.snd) a.h2a b.h2b) (hi (f := Prod.snd) b.h2a a.h2b)⟩
theorem box_in {ps : Pl} {l1 l2 h1 h2 : Int} (a : IsBox ps ps.length l1 l2 h1 h2) (q : Int × Int) : Gx.Box ps q ↔ l1 ≤ q.1 ∧ q.1 ≤ h1 ∧ l2 ≤ q.2 ∧ q.2 ≤ h2 := by
  have get : ∀ {r}, r ∈ ps → l1 ≤ r.1 ∧ l2 ≤ r.2 ∧ r.1 ≤ h1 ∧ r.2 ≤ h2 := fun hr => by
    obtain ⟨i, hi, rfl⟩ := Gx.mem_g hr
    exact ⟨a.l1b i hi, a.l2b i hi, a.h1b i hi, a.h2b i hi⟩
  constructor
  · rintro ⟨⟨r, hr, e⟩, ⟨s, hs, f⟩, ⟨t, ht, g⟩, ⟨u, hu, k⟩⟩
    have := get hr; have := get hs; have := get ht; have := get hu
    omega
  · rintro ⟨e, f, g, k⟩
    obtain ⟨r, hr, r1⟩ := a.l1a; obtain ⟨s, hs, s1⟩ := a.h1a; obtain ⟨t, ht, t1⟩ := a.l2a; obtain ⟨u, hu, u1⟩ := a.h2a
    exact ⟨⟨r, hr, by omega⟩, ⟨s, hs, by omega⟩, ⟨t, ht, by omega⟩, ⟨u, hu, by omega⟩⟩
theorem cmp_lt (d : Int) : decide (cmpV d 0 < 0) = decide (d < 0) := by
  unfold cmpV
  rw [Bool.eq_iff_iff]
  simp only [decide_eq_true_eq]
  split
  · omega
  · split <;> omega
theorem up_keepsFrom {B : Nat} {W W' : World} (h : Up W W') : KeepsFrom B W W' := ⟨h.size, fun _ _ _ hk _ => (h.block _ (Array.getElem?_eq_some_iff.1 hk).1).trans hk⟩
/-- A pair of points near enough. -/
abbrev Qp := { x : (Int × Int) × (Int × Int) // (Bd x.1.1 ∧ Bd x.1.2) ∧ (Bd x.2.1 ∧ Bd x.2.2) }
theorem bdL_any {ps : Pl} (h : BdL ps) (k : Nat) : Bd (Gx.g ps k).1 ∧ Bd (Gx.g ps k).2 := by
  by_cases c : k < ps.length
  · exact bdL_get h c
  · have : Gx.g ps k = (0, 0) := by unfold Gx.g; rw [List.getD_eq_getElem?_getD, List.getElem?_eq_none (by omega)]; rfl
    rw [this]; unfold Bd; simp
def qp (ps : Pl) (h : BdL ps) (k : Nat) : Qp := ⟨(Gx.g ps k, Gx.gc ps (k + 1)), bdL_any h _, bdL_any h _⟩
/-- Contained: in the box, and on the left of all sides. -/
theorem cont_upTo {ps : Pl} (hb : BdL ps) {q : Int × Int} : Gx.Cont ps q ↔ Gx.Box ps q ∧ ∀ x ∈ upTo (qp ps hb) (sidesN ps), 0 ≤ Gx.dt x.1.1 x.1.2 q := by
  by_cases h : ps.length = 1
  · have e : upTo (qp ps hb) (sidesN ps) = [] := by unfold sidesN; rw [if_pos h]; rfl
    rw [e]
    exact ⟨fun c => ⟨c.box, fun x hx => by cases hx⟩, fun c => ⟨c.1, fun k => absurd h k⟩⟩
  · have e : Gx.Left ps q ↔ ∀ x ∈ upTo (qp ps hb) (sidesN ps), 0 ≤ Gx.dt x.1.1 x.1.2 q := by
      unfold sidesN upTo Gx.Left
      rw [if_neg h]
      simp only [List.mem_map, List.mem_range, forall_exists_index, and_imp]
      exact ⟨fun H x i hi e => e ▸ H i hi, fun H i hi => H _ i hi rfl⟩
    rw [← e]
    exact ⟨fun c => ⟨c.box, c.left h⟩, fun c => ⟨c.1, fun _ => c.2⟩⟩
/-- There is a side that has the point on its right. -/
theorem cont_no {ps : Pl} (hb : BdL ps) {q : Int × Int} {k : Nat} (hk : k ≤ sidesN ps) {x : Qp} (hx : x ∈ upTo (qp ps hb) k) (h : Gx.dt x.1.1 x.1.2 q < 0) : ¬ Gx.Cont ps q := fun c => by
  obtain ⟨i, hi, rfl⟩ := List.mem_map.1 hx
  have := ((cont_upTo hb).1 c).2 (qp ps hb i) (List.mem_map.2 ⟨i, List.mem_range.2 (by have := List.mem_range.1 hi; omega), rfl⟩)
  omega
end Go.Proofs.Ytihckoenfklhpaa
namespace Go.Proofs.Ytihckoenfklhpaa
open Go.RowKit Go.Proofs.Gn Go.Shelf
attribute [local go_sem] Oper.semAt_some
set_option maxRecDepth 100000 in
set_option maxHeartbeats 400000 in
theorem p_contains (b off : Nat) (ps : Pl) (cap : Nat) (px py : Int) (w : World) (hc : ∀ k (h : k < ps.length), w.cell? ⟨b, off + k * 2, none⟩ = some (.int .i64 ps[k].1) ∧ w.cell? ⟨b, off + k * 2 + 1, none⟩ = some (.int .i64 ps[k].2)) (h0 : 0 < ps.length) (hlen : ps.length ≤ 70000) (hb : BdL ps) (bx : Bd px) (b_y : Bd py) :
    Calls Try.prog 39 #[.slice (some ⟨b, off, none⟩) ps.length cap, pt px py] w fun e w' => (∃ v : Bool, e = .returned (.bool v) ∧ (v = true ↔ Gx.Cont ps (px, py))) ∧ Up w w' := by
  refine (callsIn_wide (n := 9)).1 ?_
  obtain ⟨l1, l2, m1, m2, hB⟩ := box_ex h0 (ps.length - 1) (by omega)
  rw [show ps.length - 1 + 1 = ps.length by omega] at hB
  have PB : ∀ W, Up w W → Calls Try.prog 72 #[.slice (some ⟨b, off, none⟩) ps.length cap] W fun e w' => e = .returned (.tuple #[pt l1 l2, pt m1 m2]) ∧ Up W w' := fun W hu =>
    (p_box b off ps cap W (fun k h => ⟨up_cell hu (hc k h).1, up_cell hu (hc k h).2⟩) h0 hlen).mono fun e w' ⟨⟨a1, a2, b1, b2, he, hb'⟩, hu'⟩ => by
      obtain ⟨rfl, rfl, rfl, rfl⟩ := box_one hb' hB
      exact ⟨he, hu'⟩
  have hbox := box_in hB (px, py)
  have hcont := cont_upTo hb (q := (px, py))
  rw [hbox] at hcont
  simp only at hcont
  have HPB := hide PB
  have HC := hide hc
  have HCO := hide hcont
  have HBD := hide hb
  have h1 : 1 ≤ 9 := by omega
  have fN : Fence.wide.fn 43 := trivial
  have rO : Fence.wide.round = none := rfl
  have hmx : Try.prog.follows .mixedOrders = true := by kernel_rfl
  clear PB hcont hbox hB
  by_cases c1 : l1 ≤ px ∧ px ≤ m1 ∧ l2 ≤ py ∧ py ≤ m2
  · obtain ⟨c1, c2, c3, c4⟩ := c1
    have g1 : decide (px < l1) = false := by simp; omega
    have g2 : decide (m1 < px) = false := by simp; omega
    have g3 : decide (py < l2) = false := by simp; omega
    have g4 : decide (m2 < py) = false := by simp; omega
    refine callsIn_of_wp_marks Try.func39 rfl trivial ?_ rfl
    simp only [Try.ntmps39, List.size_toArray, List.length_cons, List.length_nil, Nat.reduceAdd, Nat.reduceSub, Array.replicate_succ, Array.replicate_zero, List.push_toArray, List.append_toArray, List.nil_append, List.cons_append]
    gi_wp2_with (first | (refine ⟨trivial, ?_⟩; gi_at_call 72; (with_reducible refine CallsIn.mono (callsIn_wide.2 (unhide HPB _ (by repeat' (first | (with_reducible exact up_refl _) | (with_reducible assumption) | (with_reducible refine up_alloc ?_ _) | (with_reducible refine up_drewN ?_ _) | (with_reducible refine up_drew ?_) | (with_reducible refine up_set ?_ (by first | (simp; done) | (simp; omega) | omega) _) | (refine up_trans ?_ (by with_reducible assumption)))))) ?_); rintro e w1 ⟨rfl, hb1⟩; have p0 : w1.cell? ⟨w.heap.size, 0, none⟩ = some (.int .i64 px) := up_cell hb1 (by go_cell); have p1 : w1.cell? ⟨w.heap.size, 1, none⟩ = some (.int .i64 py) := up_cell hb1 (by go_cell); have p2 : w1.cell? ⟨w.heap.size + 1, 0, none⟩ = some (.bool false) := up_cell hb1 (by go_cell); have p3 : w1.frozen? ⟨w.heap.size + 1, 0, none⟩ = false := up_frozen hb1 (v := .bool false) (by go_cell) (by go_cell); have a0 := fun o o' => alloc_cell o' (alloc_cell o p0); have a1 := fun o o' => alloc_cell o' (alloc_cell o p1)) | (gi_at_call 43; (with_reducible refine CallsIn.mono (n_make Fence.wide _ fN rO _ _ _ _) ?_); rintro e w2 ⟨rfl, rfl⟩))
    have hsz : w.heap.size + 2 ≤ w1.heap.size := by have := up_size hb1; simp at this; omega
    have hU : Up w w1 := up_trans (up_alloc (up_alloc (up_refl w) _) _) hb1
    have q0 := alloc_cell (.cells #[.slice (some ⟨b, off, none⟩) ps.length cap] 22) (a0 (.cells #[.int .i64 l1, .int .i64 l2] 24) (.cells #[.int .i64 m1, .int .i64 m2] 24))
    have q1 := alloc_cell (.cells #[.slice (some ⟨b, off, none⟩) ps.length cap] 22) (a1 (.cells #[.int .i64 l1, .int .i64 l2] 24) (.cells #[.int .i64 m1, .int .i64 m2] 24))
    have q2 := alloc_cell (.cells #[.slice (some ⟨b, off, none⟩) ps.length cap] 22) (alloc_cell (.cells #[.int .i64 m1, .int .i64 m2] 24) (alloc_cell (.cells #[.int .i64 l1, .int .i64 l2] 24) p2))
    have q3 := alloc_frozen (.cells #[.slice (some ⟨b, off, none⟩) ps.length cap] 22) (alloc_cell (.cells #[.int .i64 m1, .int .i64 m2] 24) (alloc_cell (.cells #[.int .i64 l1, .int .i64 l2] 24) p2)) (alloc_frozen (.cells #[.int .i64 m1, .int .i64 m2] 24) (alloc_cell (.cells #[.int .i64 l1, .int .i64 l2] 24) p2) (alloc_frozen (.cells #[.int .i64 l1, .int .i64 l2] 24) p2 p3))
    have q4 := (bx_new ((w1.alloc (.cells #[.int .i64 l1, .int .i64 l2] 24)).alloc (.cells #[.int .i64 m1, .int .i64 m2] 24)) [.slice (some ⟨b, off, none⟩) ps.length cap] 22 0 _ rfl).1
    have q5 : Up w (((w1.alloc (.cells #[.int .i64 l1, .int .i64 l2] 24)).alloc (.cells #[.int .i64 m1, .int .i64 m2] 24)).alloc (.cells #[.slice (some ⟨b, off, none⟩) ps.length cap] 22)) := up_alloc (up_alloc (up_alloc hU _) _) _
    have q6 : (((w1.alloc (.cells #[.int .i64 l1, .int .i64 l2] 24)).alloc (.cells #[.int .i64 m1, .int .i64 m2] 24)).alloc (.cells #[.slice (some ⟨b, off, none⟩) ps.length cap] 22)).heap.size = w1.heap.size + 3 := by simp
    simp only [World.size_alloc] at q4
    obtain ⟨W0, hW0⟩ : ∃ W0, ((w1.alloc (.cells #[.int .i64 l1, .int .i64 l2] 24)).alloc (.cells #[.int .i64 m1, .int .i64 m2] 24)).alloc (.cells #[.slice (some ⟨b, off, none⟩) ps.length cap] 22) = W0 := ⟨_, rfl⟩
    rw [hW0] at q0 q1 q2 q3 q4 q5 q6 ⊢
    have hbw : b < w.heap.size := World.block_lt_of_cell? _ _ (hc 0 h0).1
    clear hW0 a0 a1 p0 p1 p2 p3 hU hb1
    refine wpIn_rangeFunc_ownH rO h1 (gf := 74) (lb := #[.pointer (some ⟨w1.heap.size + 1 + 1, 0, none⟩)]) rfl trivial (enters_of Try.func74 (by kernel_rfl) rfl)
      (nbs_stops (qp ps hb) (fun x : Qp => #[pt x.1.1.1 x.1.1.2, pt x.1.2.1 x.1.2.2]) Fence.wide 8 trivial trivial rO (by omega) (w1.heap.size + 1 + 1) w.heap.size b off cap ps h0 hlen hbw W0 (by omega) (by omega) q4 (fun k h => ⟨up_cell q5 (hc k h).1, up_cell q5 (hc k h).2⟩) (fun k hk => rfl))
      kpN_trans (kpN_b (by omega) (by omega)) (Below.refl _ _) (fun _ => rfl)
      (fun pre W => ((∀ x ∈ pre, 0 ≤ Gx.dt x.1.1 x.1.2 (px, py)) ∧ W.cell? ⟨w.heap.size, 0, none⟩ = some (.int .i64 px) ∧ W.cell? ⟨w.heap.size, 1, none⟩ = some (.int .i64 py) ∧ W.cell? ⟨w.heap.size + 1, 0, none⟩ = some (.bool false) ∧ W.frozen? ⟨w.heap.size + 1, 0, none⟩ = false) ∧ Below w.heap.size w W)
      (fun c pre W => (c = .ret ∧ (∃ x ∈ pre, Gx.dt x.1.1 x.1.2 (px, py) < 0) ∧ W.cell? ⟨w.heap.size + 1, 0, none⟩ = some (.bool false)) ∧ Below w.heap.size w W)
      (OwnFrom.and (Own.from (fun s A B row hs hg hr => ⟨hs.1, cell_kept hs.2.1 hg hr, cell_kept hs.2.2.1 hg hr, cell_kept hs.2.2.2.1 hg hr, (frozen_kept hs.2.2.2.1 hg hr).trans hs.2.2.2.2⟩) _) (ownFrom_below (Nat.le_refl _) (by omega)))
      (fun c => OwnFrom.and (Own.from (fun s A B row hs hg hr => ⟨hs.1, hs.2.1, cell_kept hs.2.2 hg hr⟩) _) (ownFrom_below (Nat.le_refl _) (by omega)))
      ⟨⟨by simp, q0, q1, q2, q3⟩, q5⟩
      (fun x a' W => ∃ B1 B2, (W.cell? ⟨B1, 0, none⟩ = some (.int .i64 x.1.1.1) ∧ W.cell? ⟨B1, 1, none⟩ = some (.int .i64 x.1.1.2) ∧ W.cell? ⟨B2, 0, none⟩ = some (.int .i64 x.1.2.1) ∧ W.cell? ⟨B2, 1, none⟩ = some (.int .i64 x.1.2.2)) ∧ a' = { tmps := #[.slice (some ⟨b, off, none⟩) ps.length cap, pt px py, undef, .pointer (some ⟨w.heap.size, 0, none⟩), .pointer (some ⟨w.heap.size + 1, 0, none⟩), .pointer (some ⟨w1.heap.size, 0, none⟩), .pointer (some ⟨w1.heap.size + 1, 0, none⟩), .pointer (some ⟨B1, 0, none⟩), .pointer (some ⟨B2, 0, none⟩), .tuple #[pt l1 l2, pt m1 m2], .slice (some ⟨b, off, none⟩) ps.length cap, .tuple #[pt l1 l2, pt m1 m2], pt l1 l2, pt m1 m2, .pointer (some ⟨w.heap.size, 0, none⟩), .int .i64 px, .pointer (some ⟨w1.heap.size, 0, none⟩), .int .i64 l1, .bool false, .bool false, .pointer (some ⟨w.heap.size, 0, none⟩), .int .i64 px, .pointer (some ⟨w1.heap.size + 1, 0, none⟩), .int .i64 m1, .bool false, .bool false, .bool false, .pointer (some ⟨w.heap.size, 1, none⟩), .int .i64 py, .pointer (some ⟨w1.heap.size, 1, none⟩), .int .i64 l2, .bool false, .bool false, .bool false, .pointer (some ⟨w.heap.size, 1, none⟩), .int .i64 py, .pointer (some ⟨w1.heap.size + 1, 1, none⟩), .int .i64 m2, .bool false, .bool false, .slice (some ⟨b, off, none⟩) ps.length cap, .func (.func 74) #[] #[.pointer (some ⟨w1.heap.size + 1 + 1, 0, none⟩)], pt x.1.1.1 x.1.1.2, pt x.1.2.1 x.1.2.2, undef, undef, undef, undef, undef], defers := [] })
      (fun x a' _ X Y row hs hg hr => by obtain ⟨B1, B2, ⟨e1, e2, e3, e4⟩, e5⟩ := hs; exact ⟨B1, B2, ⟨cell_kept e1 hg (fun r e => (hr r e).2), cell_kept e2 hg (fun r e => (hr r e).2), cell_kept e3 hg (fun r e => (hr r e).2), cell_kept e4 hg (fun r e => (hr r e).2)⟩, e5⟩)
      ?assign ?body ?done ?stop
    case assign =>
      rintro l pre x W K ⟨⟨hp, i0, i1, i2, i3⟩, hB⟩ hK
      gi_wp2
      exact hK _ _ (((KeepsOthers.alloc _ _).from _).trans ((KeepsOthers.alloc _ _).from _)) (kpN_up (up_alloc (up_alloc (up_refl W) _) _) hB.size)
        ⟨⟨hp, alloc_cell _ (alloc_cell _ i0), alloc_cell _ (alloc_cell _ i1), alloc_cell _ (alloc_cell _ i2), alloc_frozen _ (alloc_cell _ i2) (alloc_frozen _ i2 i3)⟩, up_alloc (up_alloc hB _) _⟩
        ⟨W.heap.size, W.heap.size + 1, ⟨by go_cell, by go_cell, by go_cell, by go_cell⟩, rfl⟩
    case body =>
      rintro l pre x a' W hl ⟨r, hr⟩ ⟨⟨hp, i0, i1, i2, i3⟩, hB⟩ ⟨B1, B2, ⟨e1, e2, e3, e4⟩, rfl⟩ hlt
      obtain ⟨⟨⟨u1, u2⟩, ⟨v1, v2⟩⟩, ⟨b1, b2⟩, b3, b4⟩ := x
      dsimp only at e1 e2 e3 e4 b1 b2 b3 b4 ⊢
      have PT : ∀ W : World, Calls Try.prog 73 #[pt u1 u2, pt v1 v2, pt px py] W fun e w' => e = .returned (.int .i64 (cmpV (det u1 u2 v1 v2 px py) 0)) ∧ Up W w' := fun W => p_turn u1 u2 v1 v2 px py W b1 b2 b3 b4 bx b_y
      have hd : decide (cmpV (det u1 u2 v1 v2 px py) 0 < 0) = decide (Gx.dt (u1, u2) (v1, v2) (px, py) < 0) := cmp_lt _
      obtain ⟨T, hT⟩ : ∃ T, cmpV (det u1 u2 v1 v2 px py) 0 = T := ⟨_, rfl⟩
      rw [hT] at hd PT
      have HPT := hide PT
      have h1' : 1 ≤ 9 - 1 - 1 := by omega
      have fT : (Fence.wide.inRound l).fn 73 := trivial
      clear PT hT
      by_cases hneg : Gx.dt (u1, u2) (v1, v2) (px, py) < 0
      · rw [decide_eq_true hneg] at hd
        gi_wp2_with ((try refine ⟨trivial, ?_⟩); gi_at_call 73; (with_reducible refine CallsIn.mono (CallsIn.inRound l (callsIn_wide.2 (unhide HPT _))) ?_); rintro e w3 ⟨rfl, hb3⟩; have d2 := up_cell hb3 i2; have d3 := up_frozen hb3 i2 i3)
        exact ⟨(up_keepsFrom hb3).trans ((KeepsOthers.setCell _ _ _).from _), ⟨rfl, ⟨_, List.mem_append.2 (.inr (List.mem_singleton.2 rfl)), hneg⟩, World.cell?_setCell_same' _ _ _ (by rw [d2]; rfl)⟩, up_set (up_trans hB hb3) (by simp) _⟩
      · rw [decide_eq_false hneg] at hd
        gi_wp2_with ((try refine ⟨trivial, ?_⟩); gi_at_call 73; (with_reducible refine CallsIn.mono (CallsIn.inRound l (callsIn_wide.2 (unhide HPT _))) ?_); rintro e w3 ⟨rfl, hb3⟩)
        exact ⟨up_keepsFrom hb3, kpN_up hb3 hB.size, ⟨fun y hy => (List.mem_append.1 hy).elim (hp y) (fun hz => by obtain rfl := List.mem_singleton.1 hz; first | exact hneg | exact Int.not_lt.1 hneg), up_cell hb3 i0, up_cell hb3 i1, up_cell hb3 i2, up_frozen hb3 i2 i3⟩, up_trans hB hb3⟩
    case done =>
      rintro D ys W hD rfl ⟨⟨hp, i0, i1, i2, i3⟩, hB⟩ hK
      gi_wp2
      have hK' := (KeepsOthers.setCell W ⟨w.heap.size + 1, 0, none⟩ (.bool true)).same D _ hK rfl
      refine ⟨by simp, .inl ⟨_, _, rfl, run_takeDeferred hK', ?_⟩⟩
      have hc5 := cell_kept (World.cell?_setCell_same' W ⟨w.heap.size + 1, 0, none⟩ (.bool true) (by rw [i2]; rfl)) (grownBy_putObj' _ D (.deferred none)) (fun r e => by cases e; exact ⟨_, hK', rfl⟩)
      refine ⟨.bool true, ?_, ⟨true, rfl, fun _ => (unhide HCO).2 ⟨⟨c1, c2, c3, c4⟩, hp⟩, fun _ => rfl⟩, (hB.setCell (p := ⟨w.heap.size + 1, 0, none⟩) (by simp) _).trans (belowK_b (w := w) (Nat.le_refl _) _ D _ _ (by omega) hK' rfl rfl)⟩
      simp [results, Try.f39, go_sem, hc5]
    case stop =>
      rintro D c pre W hD ⟨k, hk, rfl⟩ ⟨⟨rfl, ⟨x, hx, hneg⟩, i2⟩, hB⟩ hK
      gi_wp2
      refine ⟨by simp, .inl ⟨_, _, rfl, run_takeDeferred hK, ?_⟩⟩
      have hc5 := cell_kept i2 (grownBy_putObj' _ D (.deferred none)) (fun r e => by cases e; exact ⟨_, hK, rfl⟩)
      refine ⟨.bool false, ?_, ⟨false, rfl, (fun e => by cases e), fun e => absurd e (cont_no hb hk hx hneg)⟩, hB.trans (belowK_b (w := w) (Nat.le_refl _) W D _ _ (by omega) hK rfl rfl)⟩
      simp [results, Try.f39, go_sem, hc5]
  · have hN : ¬ Gx.Cont ps (px, py) := fun h => c1 ((unhide HCO).1 h).1
    have hcs : decide (px < l1) = true ∨ (decide (px < l1) = false ∧ decide (m1 < px) = true) ∨ (decide (px < l1) = false ∧ decide (m1 < px) = false ∧ decide (py < l2) = true) ∨ (decide (px < l1) = false ∧ decide (m1 < px) = false ∧ decide (py < l2) = false ∧ decide (m2 < py) = true) := by
      simp only [decide_eq_true_eq, decide_eq_false_iff_not]; omega
    have HN := hide hN
    clear c1 HCO hN
    rcases hcs with g1 | ⟨g1, g2⟩ | ⟨g1, g2, g3⟩ | ⟨g1, g2, g3, g4⟩
    all_goals
      refine callsIn_of_wp_marks Try.func39 rfl trivial ?_ rfl
      simp only [Try.ntmps39, List.size_toArray, List.length_cons, List.length_nil, Nat.reduceAdd, Nat.reduceSub, Array.replicate_succ, Array.replicate_zero, List.push_toArray, List.append_toArray, List.nil_append, List.cons_append]
      gi_wp2_with (refine ⟨trivial, ?_⟩; gi_at_call 72; (with_reducible refine CallsIn.mono (callsIn_wide.2 (unhide HPB _ (by repeat' (first | (with_reducible exact up_refl _) | (with_reducible assumption) | (with_reducible refine up_alloc ?_ _) | (with_reducible refine up_drewN ?_ _) | (with_reducible refine up_drew ?_) | (with_reducible refine up_set ?_ (by first | (simp; done) | (simp; omega) | omega) _) | (refine up_trans ?_ (by with_reducible assumption)))))) ?_); rintro e w1 ⟨rfl, hb1⟩; have p0 : w1.cell? ⟨w.heap.size, 0, none⟩ = some (.int .i64 px) := up_cell hb1 (by go_cell); have p1 : w1.cell? ⟨w.heap.size, 1, none⟩ = some (.int .i64 py) := up_cell hb1 (by go_cell); have p2 : w1.cell? ⟨w.heap.size + 1, 0, none⟩ = some (.bool false) := up_cell hb1 (by go_cell); have p3 : w1.frozen? ⟨w.heap.size + 1, 0, none⟩ = false := up_frozen hb1 (v := .bool false) (by go_cell) (by go_cell); have s2 := fun o o' => alloc_cell o' (alloc_cell o p2); have s3 := fun o o' => alloc_frozen o' (alloc_cell o p2) (alloc_frozen o p2 p3); have a0 := fun o o' => alloc_cell o' (alloc_cell o p0); have a1 := fun o o' => alloc_cell o' (alloc_cell o p1))
      have hc5 := World.cell?_setCell_same' ((w1.alloc (.cells #[.int .i64 l1, .int .i64 l2] 24)).alloc (.cells #[.int .i64 m1, .int .i64 m2] 24)) ⟨w.heap.size + 1, 0, none⟩ (.bool false) (by rw [s2]; rfl)
      refine ⟨.bool false, ?_, ⟨false, rfl, (fun e => by cases e), fun e => absurd e (unhide HN)⟩, (by repeat' (first | (with_reducible exact up_refl _) | (with_reducible assumption) | (with_reducible refine up_alloc ?_ _) | (with_reducible refine up_drewN ?_ _) | (with_reducible refine up_drew ?_) | (with_reducible refine up_set ?_ (by first | (simp; done) | (simp; omega) | omega) _) | (refine up_trans ?_ (by with_reducible assumption))))⟩
      simp [results, Try.f39, go_sem, hc5]
end Go.Proofs.Ytihckoenfklhpaa
