/- What the functions on points return, of the program and of the document's own answers. -/
import Derived.Test.YtdehnokcjnbjoaaNum
import Derived.Below
import Derived.Deep.RegionHeld3
import Derived.Deep.QuietTactic
import Derived.BigQuiet
namespace Go.Proofs.Ytdehnokcjnbjoaa
open Go.RowKit Go.Proofs.Gn
/-- Only new memory has been written. -/
def Up (w w' : World) : Prop := Below w.heap.size w w'
theorem up_refl (w : World) : Up w w := Below.refl _ _
theorem up_trans {a b c : World} (h : Up a b) (k : Up b c) : Up a c := Below.trans h (Below.mono k (Below.size h))
theorem up_alloc {a b : World} (h : Up a b) (o : Obj) : Up a (b.alloc o) := Below.alloc h (Below.size h) o
theorem up_drew {a b : World} (h : Up a b) : Up a b.drew := Below.drew h
theorem up_drewN {a b : World} (h : Up a b) (n : Nat) : Up a (b.drewN n) := ⟨h.os, h.tape, h.output, h.size, h.block⟩
theorem up_set {a b : World} (h : Up a b) {p : Addr} (hp : a.heap.size ≤ p.block) (v : Value) : Up a (b.setCell p v) := Below.setCell h hp v
theorem up_size {a b : World} (h : Up a b) : a.heap.size ≤ b.heap.size := Below.size h
theorem up_cell {a b : World} (h : Up a b) {p : Addr} {v : Value} (hc : a.cell? p = some v) : b.cell? p = some v := (Below.cell h (World.block_lt_of_cell? _ _ hc)).trans hc
theorem up_frozen {a b : World} (h : Up a b) {p : Addr} {v : Value} (hc : a.cell? p = some v) (hf : a.frozen? p = false) : b.frozen? p = false := (Below.frozen h (World.block_lt_of_cell? _ _ hc)).trans hf
theorem alloc_cell {W : World} {p : Addr} {v : Value} (o : Obj) (hc : W.cell? p = some v) : (W.alloc o).cell? p = some v := up_cell (up_alloc (up_refl W) o) hc
theorem alloc_frozen {W : World} {p : Addr} {v : Value} (o : Obj) (hc : W.cell? p = some v) (hf : W.frozen? p = false) : (W.alloc o).frozen? p = false := up_frozen (up_alloc (up_refl W) o) hc hf
/-- What was there reads as before. -/
theorem bcell {W w1 : World} (hb : Up W w1) : (∀ b o, b < W.heap.size → w1.cell? ⟨b, o, none⟩ = W.cell? ⟨b, o, none⟩) ∧ (∀ b o, b < W.heap.size → w1.frozen? ⟨b, o, none⟩ = W.frozen? ⟨b, o, none⟩) :=
  ⟨fun b o h => Below.cell hb (p := ⟨b, o, none⟩) h, fun b o h => Below.frozen hb (p := ⟨b, o, none⟩) h⟩
/-- What stays when only new memory is written. -/
def Stays (S : World → Prop) : Prop := ∀ W w1, Up W w1 → S W → S w1
theorem st_and {A B : World → Prop} (a : Stays A) (b : Stays B) : Stays fun w => A w ∧ B w := fun W w1 hb h => ⟨a W w1 hb h.1, b W w1 hb h.2⟩
theorem st_cell (p : Addr) (v : Value) : Stays fun w => w.cell? p = some v := fun _ _ hb h => up_cell hb h
theorem st_up (w0 : World) : Stays fun w => Up w0 w := fun _ _ hb h => up_trans h hb
/-- A point as a value. -/
abbrev pt (x y : Int) : Value := .agg #[.int .i64 x, .int .i64 y]
/-- Far from the limits of the numbers: sums and products of differences fit. -/
def Bd (x : Int) : Prop := -134217728 ≤ x ∧ x ≤ 134217728
theorem mul_bd {u v : Int} (h1 : -268435456 ≤ u) (h2 : u ≤ 268435456) (h3 : -268435456 ≤ v) (h4 : v ≤ 268435456) : -72057594037927936 ≤ u * v ∧ u * v ≤ 72057594037927936 := by
  have a : (u + 268435456) * (v + 268435456) ≥ 0 := Int.mul_nonneg (by omega) (by omega)
  have b : (268435456 - u) * (268435456 - v) ≥ 0 := Int.mul_nonneg (by omega) (by omega)
  have c : (u + 268435456) * (268435456 - v) ≥ 0 := Int.mul_nonneg (by omega) (by omega)
  have d : (268435456 - u) * (v + 268435456) ≥ 0 := Int.mul_nonneg (by omega) (by omega)
  simp only [Int.add_mul, Int.mul_add, Int.sub_mul, Int.mul_sub] at a b c d
  omega

/-- What cmp.Compare returns. -/
def cmpV (a b : Int) : Int := if a < b then -1 else if b < a then 1 else 0
theorem c_Compare (a b : Int) (w : World) :
    Calls Try.prog 88 #[.int .i64 a, .int .i64 b] w fun e w' => e = .returned (.int .i64 (cmpV a b)) ∧ w = w' := by
  unfold cmpV
  by_cases c1 : a < b
  · go_enter Try.func88, Try.ntmps88
    go_wp2
    go_ret
    exact ⟨rfl, rfl⟩
  by_cases c2 : b < a
  · go_enter Try.func88, Try.ntmps88
    go_wp2
    go_ret
    exact ⟨rfl, rfl⟩
  · go_enter Try.func88, Try.ntmps88
    go_wp2
    go_ret
    exact ⟨rfl, rfl⟩
/-- The turn of three points, before its sign is taken. -/
def det (ax ay bx b_y cx cy : Int) : Int := (bx - ax) * (cy - ay) - (b_y - ay) * (cx - ax)
/-! ### Which points are valid -/
def okc (x : Int) : Bool := decide (-16777216 ≤ x ∧ x ≤ 16777216)
theorem okc_yes {x : Int} (h : okc x = true) : -16777216 ≤ x ∧ x ≤ 16777216 := of_decide_eq_true h
theorem okc_no {x : Int} (h : okc x = false) : ¬ (-16777216 ≤ x ∧ x ≤ 16777216) := of_decide_eq_false h
def okp (x y : Int) : Bool := okc x && okc y
theorem okp_yes {x y : Int} (h : okp x y = true) : okc x = true ∧ okc y = true := by simpa [okp] using h
theorem okp_bd {x y : Int} (h : okp x y = true) : Bd x ∧ Bd y := by
  have a := okc_yes (okp_yes h).1
  have b := okc_yes (okp_yes h).2
  unfold Bd; omega
def chk (x y : Int) : Int := if okp x y then 0 else 2
theorem p_beyondM (n : Int) (w : World) : Calls Try.prog 94 #[.int .i64 n, .int .i64 16777216] w fun e w' => e = .returned (.bool (!okc n)) ∧ w = w' :=
  (p_beyond n 16777216 w (by omega) (by omega)).mono fun e w' ⟨he, hw⟩ => ⟨by rw [he]; exact ret_bool (by unfold okc; rw [Bool.eq_iff_iff]; simp; try omega), hw⟩
end Go.Proofs.Ytdehnokcjnbjoaa
