/- Whether a hull contains a point. -/
import Derived.RangeFuncNested
import Derived.RangeFuncLeaves
import Derived.Test.YtihckoenfklhpaaNeigh
import Derived.Test.YtihckoenfklhpaaBoxP
import Derived.Test.YtihckoenfklhpaaHullQ
namespace Go.Proofs.Ytihckoenfklhpaa
open Go.RowKit Go.Proofs.Gn Go.Shelf
attribute [local go_sem] Oper.semAt_some
/-- What has come when k rounds are over. -/
def upTo {α : Type} (f : Nat → α) (k : Nat) : List α := (List.range k).map f
theorem upTo_succ {α : Type} (f : Nat → α) (k : Nat) : upTo f (k + 1) = upTo f k ++ [f k] := by simp [upTo, List.range_succ]
theorem upTo_len {α : Type} (f : Nat → α) (k : Nat) : (upTo f k).length = k := by simp [upTo]
/-- The pairs of neighbours, one after another; a walk may end before. -/
theorem nbs_stops {α : Type} (f : Nat → α) (encs : α → Array Value) (F : Fence) (n : Nat) (hf : F.fn 74) (hs : F.fn 75) (hro : F.round = none) (hn : 3 ≤ n) (Bs n₀ b off cap : Nat) (ps : Pl) (h0 : 0 < ps.length) (hlen : ps.length ≤ 70000) (hb : b < n₀) (w : World) (hBs' : Bs < w.heap.size) (hn₀ : n₀ ≤ w.heap.size)
    (hBs : w.cell? ⟨Bs, 0, none⟩ = some (.slice (some ⟨b, off, none⟩) ps.length cap)) (hc : ∀ k (h : k < ps.length), w.cell? ⟨b, off + k * 2, none⟩ = some (.int .i64 ps[k].1) ∧ w.cell? ⟨b, off + k * 2 + 1, none⟩ = some (.int .i64 ps[k].2))
    (he : ∀ k, k < ps.length → encs (f k) = #[pt (Gx.g ps k).1 (Gx.g ps k).2, pt (Gx.gc ps (k + 1)).1 (Gx.gc ps (k + 1)).2]) :
    SeqStopsK F n Try.prog 74 #[.pointer (some ⟨Bs, 0, none⟩)] encs (KpN n₀ Bs) (fun ys => ys = upTo f (sidesN ps)) (fun pre => ∃ k, k ≤ sidesN ps ∧ pre = upTo f k) ps.length w := fun l J Jx W hW hJ _ hY hJ0 =>
  (n_iter F n hf hs hro hn l Bs n₀ b off cap ps h0 hlen hb (fun k => J (upTo f k)) (fun k => Jx (upTo f k)) W (fun k => hJ (upTo f k))
    (fun k W1 hk hl => by have := hY (upTo f k) (f k) W1 hk (by rw [upTo_len]; exact hl); rw [he k hl, ← upTo_succ] at this; exact this)
    ((hW.cell (p := ⟨Bs, 0, none⟩) hBs').trans hBs)
    (fun k h => ⟨(hW.cell (p := ⟨b, off + k * 2, none⟩) (Nat.lt_of_lt_of_le hb hn₀)).trans (hc k h).1, (hW.cell (p := ⟨b, off + k * 2 + 1, none⟩) (Nat.lt_of_lt_of_le hb hn₀)).trans (hc k h).2⟩) hJ0).mono fun _ _ ⟨h1, h2⟩ =>
    ⟨h1, h2.imp (fun h => ⟨_, rfl, h⟩) (fun ⟨k, hk, h⟩ => ⟨_, ⟨k, hk, rfl⟩, h⟩)⟩
theorem kpN_b {n₀ Bs : Nat} {w : World} (hn : n₀ ≤ w.heap.size) (hB : Bs < w.heap.size) (W : World) (l : Nat) (o o' : Obj) (hl : w.heap.size ≤ l) (h : W.heap[l]? = some o) (hc : o.isCells = false) (hw : o.isWalk = false) : KpN n₀ Bs W (W.putObj l o') :=
  ⟨belowK_b hn W l o o' hl h hc hw, fun _ hv => ((belowK_b (n₀ := Bs + 1) hB W l o o' hl h hc hw).cell (p := ⟨Bs, 0, none⟩) (Nat.lt_succ_self _)).trans hv⟩
/-- The box is one. -/
theorem box_ex {ps : Pl} (h0 : 0 < ps.length) : ∀ k, k < ps.length → ∃ l1 l2 h1 h2, IsBox ps (k + 1) l1 l2 h1 h2
  | 0, _ => by
    have m := Gx.g_mem h0
    refine ⟨(Gx.g ps 0).1, (Gx.g ps 0).2, (Gx.g ps 0).1, (Gx.g ps 0).2, ⟨_, m, rfl⟩, ⟨_, m, rfl⟩, ⟨_, m, rfl⟩, ⟨_, m, rfl⟩, ?_, ?_, ?_, ?_⟩ <;> (intro i hi; obtain rfl : i = 0 := by omega) <;> exact Int.le_refl _
  | k + 1, hk => by
    obtain ⟨l1, l2, h1, h2, hB⟩ := box_ex h0 k (by omega)
    exact ⟨_, _, _, _, box_step hB hk rfl⟩
theorem box_one {ps : Pl} {l1 l2 h1 h2 l1' l2' h1' h2' : Int} (a : IsBox ps ps.length l1 l2 h1 h2) (b : IsBox ps ps.length l1' l2' h1' h2') : l1 = l1' ∧ l2 = l2' ∧ h1 = h1' ∧ h2 = h2' := by
  have lo : ∀ {f : Int × Int → Int} {x y : Int}, (∃ r ∈ ps, f r = x) → (∀ i, i < ps.length → y ≤ f (Gx.g ps i)) → y ≤ x := fun {f x y} ⟨r, hr, e⟩ h => by
    obtain ⟨i, hi, rfl⟩ := Gx.mem_g hr
    rw [← e]; exact h i hi
  have hi : ∀ {f : Int × Int → Int} {x y : Int}, (∃ r ∈ ps, f r = x) → (∀ i, i < ps.length → f (Gx.g ps i) ≤ y) → x ≤ y := fun {f x y} ⟨r, hr, e⟩ h => by
    obtain ⟨i, hi, rfl⟩ := Gx.mem_g hr
    rw [← e]; exact h i hi
  exact ⟨Int.le_antisymm (lo (f := Prod.fst) b.l1a a.l1b) (lo (f := Prod.fst) a.l1a b.l1b), Int.le_antisymm (lo (f := Prod.snd) b.l2a a.l2b) (lo (f := Prod.snd) a.l2a b.l2b), Int.le_antisymm (hi (f := Prod.fst) a.h1a b.h1b) (hi (f := Prod.fst) b.h1a a.h1b), Int.le_antisymm (hi (f := Prod.snd) a.h2a b.h2b) (hi (f := Prod.snd) b.h2a a.h2b)⟩
theorem box_in {ps : Pl} {l1 l2 h1 h2 : Int} (a : IsBox ps ps.length l1 l2 h1 h2) (q : Int × Int) : Gx.Box ps q ↔ l1 ≤ q.1 ∧ q.1 ≤ h1 ∧ l2 ≤ q.2 ∧ q.2 ≤ h2 := by
  have get : ∀ {r}, r ∈ ps → l1 ≤ r.1 ∧ l2 ≤ r.2 ∧ r.1 ≤ h1 ∧ r.2 ≤ h2 := fun hr => by
    obtain ⟨i, hi, rfl⟩ := Gx.mem_g hr
    exact ⟨a.l1b i hi, a.l2b i hi, a.h1b i hi, a.h2b i hi⟩
  constructor
  · rintro ⟨⟨r, hr, e⟩, ⟨s, hs, f⟩, ⟨t, ht, g⟩, ⟨u, hu, k⟩⟩
    have := get hr; have := get hs; have := get ht; have := get hu
    omega
  · rintro ⟨e, f, g, k⟩
    obtain ⟨r, hr, r1⟩ := a.l1a; obtain ⟨s, hs, s1⟩ := a.h1a; obtain ⟨t, ht, t1⟩ := a.l2a; obtain ⟨u, hu, u1⟩ := a.h2a
    exact ⟨⟨r, hr, by omega⟩, ⟨s, hs, by omega⟩, ⟨t, ht, by omega⟩, ⟨u, hu, by omega⟩⟩
theorem cmp_lt (d : Int) : decide (cmpV d 0 < 0) = decide (d < 0) := by
  unfold cmpV
  rw [Bool.eq_iff_iff]
  simp only [decide_eq_true_eq]
  split
  · omega
  · split <;> omega
theorem up_keepsFrom {B : Nat} {W W' : World} (h : Up W W') : KeepsFrom B W W' := ⟨h.size, fun _ _ _ hk _ => (h.block _ (Array.getElem?_eq_some_iff.1 hk).1).trans hk⟩
/-- A pair of points near enough. -/
abbrev Qp := { x : (Int × Int) × (Int × Int) // (Bd x.1.1 ∧ Bd x.1.2) ∧ (Bd x.2.1 ∧ Bd x.2.2) }
theorem bdL_any {ps : Pl} (h : BdL ps) (k : Nat) : Bd (Gx.g ps k).1 ∧ Bd (Gx.g ps k).2 := by
  by_cases c : k < ps.length
  · exact bdL_get h c
  · have : Gx.g ps k = (0, 0) := by unfold Gx.g; rw [List.getD_eq_getElem?_getD, List.getElem?_eq_none (by omega)]; rfl
    rw [this]; unfold Bd; simp
def qp (ps : Pl) (h : BdL ps) (k : Nat) : Qp := ⟨(Gx.g ps k, Gx.gc ps (k + 1)), bdL_any h _, bdL_any h _⟩
/-- Contained: in the box, and on the left of all sides. -/
theorem cont_upTo {ps : Pl} (hb : BdL ps) {q : Int × Int} : Gx.Cont ps q ↔ Gx.Box ps q ∧ ∀ x ∈ upTo (qp ps hb) (sidesN ps), 0 ≤ Gx.dt x.1.1 x.1.2 q := by
  by_cases h : ps.length = 1
  · have e : upTo (qp ps hb) (sidesN ps) = [] := by unfold sidesN; rw [if_pos h]; rfl
    rw [e]
    exact ⟨fun c => ⟨c.box, fun x hx => by cases hx⟩, fun c => ⟨c.1, fun k => absurd h k⟩⟩
  · have e : Gx.Left ps q ↔ ∀ x ∈ upTo (qp ps hb) (sidesN ps), 0 ≤ Gx.dt x.1.1 x.1.2 q := by
      unfold sidesN upTo Gx.Left
      rw [if_neg h]
      simp only [List.mem_map, List.mem_range, forall_exists_index, and_imp]
      exact ⟨fun H x i hi e => e ▸ H i hi, fun H i hi => H _ i hi rfl⟩
    rw [← e]
    exact ⟨fun c => ⟨c.box, c.left h⟩, fun c => ⟨c.1, fun _ => c.2⟩⟩
/-- There is a side that has the point on its right. -/
theorem cont_no {ps : Pl} (hb : BdL ps) {q : Int × Int} {k : Nat} (hk : k ≤ sidesN ps) {x : Qp} (hx : x ∈ upTo (qp ps hb) k) (h : Gx.dt x.1.1 x.1.2 q < 0) : ¬ Gx.Cont ps q := fun c => by
  obtain ⟨i, hi, rfl⟩ := List.mem_map.1 hx
  have := ((cont_upTo hb).1 c).2 (qp ps hb i) (List.mem_map.2 ⟨i, List.mem_range.2 (by have := List.mem_range.1 hi; omega), rfl⟩)
  omega
end Go.Proofs.Ytihckoenfklhpaa
