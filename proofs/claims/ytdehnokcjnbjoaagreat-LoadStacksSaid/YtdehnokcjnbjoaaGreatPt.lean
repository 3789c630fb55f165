/- What the functions on points return, of the program and of the document's own answers. -/
import Derived.Test.YtdehnokcjnbjoaaGreatNum
import Derived.Below
import Derived.Deep.RegionHeld3
import Derived.Deep.QuietTactic
import Derived.BigQuiet
namespace Go.Proofs.YtdehnokcjnbjoaaGreat
open Go.RowKit Go.Proofs.Gn
/-- Only new memory has been written. -/
def Up (w w' : World) : Prop := Below w.heap.size w w'
theorem up_refl (w : World) : Up w w := Below.refl _ _
theorem up_trans {a b c : World} (h : Up a b) (k : Up b c) : Up a c := Below.trans h (Below.mono k (Below.size h))
theorem up_alloc {a b : World} (h : Up a b) (o : Obj) : Up a (b.alloc o) := Below.alloc h (Below.size h) o
theorem up_drew {a b : World} (h : Up a b) : Up a b.drew := Below.drew h
theorem up_drewN {a b : World} (h : Up a b) (n : Nat) : Up a (b.drewN n) := ⟨h.os, h.tape, h.output, h.size, h.block⟩
theorem up_set {a b : World} (h : Up a b) {p : Addr} (hp : a.heap.size ≤ p.block) (v : Value) : Up a (b.setCell p v) := Below.setCell h hp v
theorem up_size {a b : World} (h : Up a b) : a.heap.size ≤ b.heap.size := Below.size h
theorem up_cell {a b : World} (h : Up a b) {p : Addr} {v : Value} (hc : a.cell? p = some v) : b.cell? p = some v := (Below.cell h (World.block_lt_of_cell? _ _ hc)).trans hc
theorem up_frozen {a b : World} (h : Up a b) {p : Addr} {v : Value} (hc : a.cell? p = some v) (hf : a.frozen? p = false) : b.frozen? p = false := (Below.frozen h (World.block_lt_of_cell? _ _ hc)).trans hf
theorem alloc_cell {W : World} {p : Addr} {v : Value} (o : Obj) (hc : W.cell? p = some v) : (W.alloc o).cell? p = some v := up_cell (up_alloc (up_refl W) o) hc
theorem alloc_frozen {W : World} {p : Addr} {v : Value} (o : Obj) (hc : W.cell? p = some v) (hf : W.frozen? p = false) : (W.alloc o).frozen? p = false := up_frozen (up_alloc (up_refl W) o) hc hf
/-- What was there reads as before. -/
theorem bcell {W w1 : World} (hb : Up W w1) : (∀ b o, b < W.heap.size → w1.cell? ⟨b, o, none⟩ = W.cell? ⟨b, o, none⟩) ∧ (∀ b o, b < W.heap.size → w1.frozen? ⟨b, o, none⟩ = W.frozen? ⟨b, o, none⟩) :=
  ⟨fun b o h => Below.cell hb (p := ⟨b, o, none⟩) h, fun b o h => Below.frozen hb (p := ⟨b, o, none⟩) h⟩
/-- What stays when only new memory is written. -/
def Stays (S : World → Prop) : Prop := ∀ W w1, Up W w1 → S W → S w1
theorem st_and {A B : World → Prop} (a : Stays A) (b : Stays B) : Stays fun w => A w ∧ B w := fun W w1 hb h => ⟨a W w1 hb h.1, b W w1 hb h.2⟩
theorem st_cell (p : Addr) (v : Value) : Stays fun w => w.cell? p = some v := fun _ _ hb h => up_cell hb h
theorem st_up (w0 : World) : Stays fun w => Up w0 w := fun _ _ hb h => up_trans h hb
/-- A point as a value. -/
abbrev pt (x y : Int) : Value := .agg #[.int .i64 x, .int .i64 y]
/-- Far from the limits of the numbers: sums and products of differences fit. -/
def Bd (x : Int) : Prop := -134217728 ≤ x ∧ x ≤ 134217728
theorem mul_bd {u v : Int} (h1 : -268435456 ≤ u) (h2 : u ≤ 268435456) (h3 : -268435456 ≤ v) (h4 : v ≤ 268435456) : -72057594037927936 ≤ u * v ∧ u * v ≤ 72057594037927936 := by
  have a : (u + 268435456) * (v + 268435456) ≥ 0 := Int.mul_nonneg (by omega) (by omega)
  have b : (268435456 - u) * (268435456 - v) ≥ 0 := Int.mul_nonneg (by omega) (by omega)
  have c : (u + 268435456) * (268435456 - v) ≥ 0 := Int.mul_nonneg (by omega) (by omega)
  have d : (268435456 - u) * (v + 268435456) ≥ 0 := Int.mul_nonneg (by omega) (by omega)
  simp only [Int.add_mul, Int.mul_add, Int.sub_mul, Int.mul_sub] at a b c d
  omega

theorem p_minus (a b c d : Int) (w : World) (h1 : -4611686018427387904 ≤ a - c) (h2 : a - c ≤ 4611686018427387904) (h3 : -4611686018427387904 ≤ b - d) (h4 : b - d ≤ 4611686018427387904) :
    Calls Tryz.prog 197 #[pt a b, pt c d] w fun e w' => e = .returned (pt (a - c) (b - d)) ∧ Up w w' := by
  go_enter Tryz.func197, Tryz.ntmps197
  go_wp2
  go_returns
  exact ⟨rfl, (by repeat' (first | (with_reducible exact up_refl _) | (with_reducible assumption) | (with_reducible refine up_alloc ?_ _) | (with_reducible refine up_drew ?_) | (refine up_trans ?_ (by with_reducible assumption))))⟩
theorem p_cross (a b c d : Int) (w : World) (h0 : -2305843009213693952 ≤ a * d) (h1 : a * d ≤ 2305843009213693952) (h2 : -2305843009213693952 ≤ b * c) (h3 : b * c ≤ 2305843009213693952) :
    Calls Tryz.prog 196 #[pt a b, pt c d] w fun e w' => e = .returned (.int .i64 (a * d - b * c)) ∧ Up w w' := by
  go_enter Tryz.func196, Tryz.ntmps196
  go_wp2
  go_ret
  exact ⟨rfl, (by repeat' (first | (with_reducible exact up_refl _) | (with_reducible assumption) | (with_reducible refine up_alloc ?_ _) | (with_reducible refine up_drew ?_) | (refine up_trans ?_ (by with_reducible assumption))))⟩
/-- What cmp.Compare returns. -/
def cmpV (a b : Int) : Int := if a < b then -1 else if b < a then 1 else 0
theorem c_Compare (a b : Int) (w : World) :
    Calls Tryz.prog 150 #[.int .i64 a, .int .i64 b] w fun e w' => e = .returned (.int .i64 (cmpV a b)) ∧ w = w' := by
  unfold cmpV
  by_cases c1 : a < b
  · go_enter Tryz.func150, Tryz.ntmps150
    go_wp2
    go_ret
    exact ⟨rfl, rfl⟩
  by_cases c2 : b < a
  · go_enter Tryz.func150, Tryz.ntmps150
    go_wp2
    go_ret
    exact ⟨rfl, rfl⟩
  · go_enter Tryz.func150, Tryz.ntmps150
    go_wp2
    go_ret
    exact ⟨rfl, rfl⟩
/-- The turn of three points, before its sign is taken. -/
def det (ax ay bx b_y cx cy : Int) : Int := (bx - ax) * (cy - ay) - (b_y - ay) * (cx - ax)
theorem p_turn (ax ay bx b_y cx cy : Int) (w : World) (h1 : Bd ax) (h2 : Bd ay) (h3 : Bd bx) (h4 : Bd b_y) (h5 : Bd cx) (h6 : Bd cy) :
    Calls Tryz.prog 181 #[pt ax ay, pt bx b_y, pt cx cy] w fun e w' => e = .returned (.int .i64 (cmpV (det ax ay bx b_y cx cy) 0)) ∧ Up w w' := by
  unfold Bd at *
  unfold det
  have m1 := mul_bd (u := bx - ax) (v := cy - ay) (by omega) (by omega) (by omega) (by omega)
  have m2 := mul_bd (u := b_y - ay) (v := cx - ax) (by omega) (by omega) (by omega) (by omega)
  go_enter Tryz.func181, Tryz.ntmps181
  go_wp2
  obtain ⟨W, hW⟩ : ∃ W : World, W = (((w.alloc (Obj.cells #[Value.int IntKind.i64 ax, Value.int IntKind.i64 ay] 55)).alloc (Obj.cells #[Value.int IntKind.i64 bx, Value.int IntKind.i64 b_y] 55)).alloc (Obj.cells #[Value.int IntKind.i64 cx, Value.int IntKind.i64 cy] 55)) := ⟨_, rfl⟩
  rw [← hW]
  have c1 : W.cell? ⟨w.heap.size, 0, none⟩ = some (.int .i64 ax) := by rw [hW]; go_cell
  have c2 : W.cell? ⟨w.heap.size, 1, none⟩ = some (.int .i64 ay) := by rw [hW]; go_cell
  have c3 : W.cell? ⟨w.heap.size + 1, 0, none⟩ = some (.int .i64 bx) := by rw [hW]; go_cell
  have c4 : W.cell? ⟨w.heap.size + 1, 1, none⟩ = some (.int .i64 b_y) := by rw [hW]; go_cell
  have c5 : W.cell? ⟨w.heap.size + 1 + 1, 0, none⟩ = some (.int .i64 cx) := by rw [hW]; go_cell
  have c6 : W.cell? ⟨w.heap.size + 1 + 1, 1, none⟩ = some (.int .i64 cy) := by rw [hW]; go_cell
  have c7 : Up w W := by rw [hW]; exact (by repeat' (first | (with_reducible exact up_refl _) | (with_reducible assumption) | (with_reducible refine up_alloc ?_ _) | (with_reducible refine up_drew ?_) | (refine up_trans ?_ (by with_reducible assumption))))
  clear hW
  have keep := st_and (st_cell ⟨w.heap.size, 0, none⟩ (.int .i64 ax)) (st_and (st_cell ⟨w.heap.size, 1, none⟩ (.int .i64 ay)) (st_and (st_cell ⟨w.heap.size + 1, 0, none⟩ (.int .i64 bx)) (st_and (st_cell ⟨w.heap.size + 1, 1, none⟩ (.int .i64 b_y)) (st_and (st_cell ⟨w.heap.size + 1 + 1, 0, none⟩ (.int .i64 cx)) (st_and (st_cell ⟨w.heap.size + 1 + 1, 1, none⟩ (.int .i64 cy)) (st_up w))))))
  have hkeep := hide keep
  clear keep
  go_region_held3 (fun w' => w'.cell? ⟨w.heap.size, 0, none⟩ = some (.int .i64 ax) ∧ w'.cell? ⟨w.heap.size, 1, none⟩ = some (.int .i64 ay) ∧ w'.cell? ⟨w.heap.size + 1, 0, none⟩ = some (.int .i64 bx) ∧ w'.cell? ⟨w.heap.size + 1, 1, none⟩ = some (.int .i64 b_y) ∧ w'.cell? ⟨w.heap.size + 1 + 1, 0, none⟩ = some (.int .i64 cx) ∧ w'.cell? ⟨w.heap.size + 1 + 1, 1, none⟩ = some (.int .i64 cy) ∧ Up w w')
    ((first | exact ⟨c1, c2, c3, c4, c5, c6, up_drew c7⟩ | (with_reducible assumption) | exact unhide hkeep _ _ hb (by assumption)))
    (first | (go_at_call 197; refine (p_minus _ _ _ _ _ (by omega) (by omega) (by omega) (by omega)).mono ?_; rintro e w1 ⟨rfl, hb⟩) | (go_at_call 196; refine (p_cross _ _ _ _ _ (by omega) (by omega) (by omega) (by omega)).mono ?_; rintro e w1 ⟨rfl, hb⟩) | (go_at_call 150; refine (c_Compare _ _ _).mono ?_; rintro e w1 ⟨rfl, rfl⟩))
  have hB : w1.cell? ⟨w.heap.size, 0, none⟩ = some (.int .i64 ax) ∧ w1.cell? ⟨w.heap.size, 1, none⟩ = some (.int .i64 ay) ∧ w1.cell? ⟨w.heap.size + 1, 0, none⟩ = some (.int .i64 bx) ∧ w1.cell? ⟨w.heap.size + 1, 1, none⟩ = some (.int .i64 b_y) ∧ w1.cell? ⟨w.heap.size + 1 + 1, 0, none⟩ = some (.int .i64 cx) ∧ w1.cell? ⟨w.heap.size + 1 + 1, 1, none⟩ = some (.int .i64 cy) ∧ Up w w1 := by assumption
  have hB1 := hB.2.2.2.2.2.2
  clear hB
  go_wp2
  go_ret
  exact ⟨rfl, hB1⟩

/-! ### Which points are valid -/
def okc (x : Int) : Bool := decide (-16777216 ≤ x ∧ x ≤ 16777216)
theorem okc_yes {x : Int} (h : okc x = true) : -16777216 ≤ x ∧ x ≤ 16777216 := of_decide_eq_true h
theorem okc_no {x : Int} (h : okc x = false) : ¬ (-16777216 ≤ x ∧ x ≤ 16777216) := of_decide_eq_false h
def okp (x y : Int) : Bool := okc x && okc y
theorem okp_yes {x y : Int} (h : okp x y = true) : okc x = true ∧ okc y = true := by simpa [okp] using h
theorem okp_bd {x y : Int} (h : okp x y = true) : Bd x ∧ Bd y := by
  have a := okc_yes (okp_yes h).1
  have b := okc_yes (okp_yes h).2
  unfold Bd; omega
def chk (x y : Int) : Int := if okp x y then 0 else 2
theorem p_beyondM (n : Int) (w : World) : Calls Tryz.prog 136 #[.int .i64 n, .int .i64 16777216] w fun e w' => e = .returned (.bool (!okc n)) ∧ w = w' :=
  (p_beyond n 16777216 w (by omega) (by omega)).mono fun e w' ⟨he, hw⟩ => ⟨by rw [he]; exact ret_bool (by unfold okc; rw [Bool.eq_iff_iff]; simp; try omega), hw⟩
theorem p_Check (x y : Int) (w : World) : Calls Tryz.prog 178 #[pt x y] w fun e w' => e = .returned (.int .i64 (chk x y)) ∧ Up w w' := by
  unfold chk okp
  cases hx : okc x
  · go_enter Tryz.func178, Tryz.ntmps178
    go_wp2_with (go_at_call 136; refine (p_beyondM _ _).mono ?_; rintro e w' ⟨rfl, rfl⟩)
    go_ret
    exact ⟨rfl, (by repeat' (first | (with_reducible exact up_refl _) | (with_reducible assumption) | (with_reducible refine up_alloc ?_ _) | (with_reducible refine up_drew ?_) | (refine up_trans ?_ (by with_reducible assumption))))⟩
  cases hy : okc y
  · go_enter Tryz.func178, Tryz.ntmps178
    go_wp2_with (go_at_call 136; refine (p_beyondM _ _).mono ?_; rintro e w' ⟨rfl, rfl⟩)
    go_ret
    exact ⟨rfl, (by repeat' (first | (with_reducible exact up_refl _) | (with_reducible assumption) | (with_reducible refine up_alloc ?_ _) | (with_reducible refine up_drew ?_) | (refine up_trans ?_ (by with_reducible assumption))))⟩
  · go_enter Tryz.func178, Tryz.ntmps178
    go_wp2_with (go_at_call 136; refine (p_beyondM _ _).mono ?_; rintro e w' ⟨rfl, rfl⟩)
    go_ret
    exact ⟨rfl, (by repeat' (first | (with_reducible exact up_refl _) | (with_reducible assumption) | (with_reducible refine up_alloc ?_ _) | (with_reducible refine up_drew ?_) | (refine up_trans ?_ (by with_reducible assumption))))⟩
end Go.Proofs.YtdehnokcjnbjoaaGreat
