/- Units where they are: pulled lengths, and places of links. -/
import Derived.Test.YtdehnokcjnbjoaaGreatPkVehC
import Derived.Test.YtdehnokcjnbjoaaGreatPiece
namespace Go.Proofs.YtdehnokcjnbjoaaGreat
open Go.RowKit Go.Proofs.Gn
set_option linter.unusedVariables false
/-- The pulled length of a unit. -/
def puL (le st : Int) : Int := le * (1000 - st) / 1000
def rxL (le st be : Int) : Int := puL le st - le - be
theorem puL_bd {le st : Int} (hl : 100 ≤ le ∧ le ≤ 131072) (hs : 0 ≤ st ∧ st ≤ 900) : (0 ≤ le * (1000 - st) ∧ le * (1000 - st) ≤ 131072000) ∧ 10 ≤ puL le st ∧ puL le st ≤ le := by
  have a : 0 ≤ le * (1000 - st) := Int.mul_nonneg (by omega) (by omega)
  have b : le * (1000 - st) ≤ le * 1000 := Int.mul_le_mul_of_nonneg_left (by omega) (by omega)
  have c : le * 100 ≤ le * (1000 - st) := Int.mul_le_mul_of_nonneg_left (by omega) (by omega)
  unfold puL
  refine ⟨by omega, ?_, ?_⟩
  · exact (Int.le_ediv_iff_mul_le (by omega)).2 (by omega)
  · have : le * (1000 - st) / 1000 < le + 1 := Int.ediv_lt_of_lt_mul (by omega) (by omega)
    omega
theorem szU_ok {kd le be fr re wi he ma st mo : Int} (h : szU kd le be fr re wi he ma st mo = true) : (100 ≤ le ∧ le ≤ 131072) ∧ (-le ≤ be ∧ be ≤ 131072) ∧ (0 ≤ st ∧ st ≤ 900) ∧ (0 ≤ fr ∧ fr ≤ 131072) ∧ (0 ≤ re ∧ re ≤ 131072) ∧ (1 ≤ ma ∧ ma ≤ 1048576) := by
  unfold szU at h
  simp only [Bool.and_eq_true] at h
  obtain ⟨_, h1, h2, h3, h4, _, _, h7, h8, _⟩ := h
  exact ⟨win_t h1, win_t h2, win_t h8, win_t h3, win_t h4, win_t h7⟩
theorem at_wpC {c : Code} {Q : Exit → Act → World → Prop} {a : Act} {w : World} (h : ∀ W, W = w → Code.wp Tryz.prog c Q a W) : Code.wp Tryz.prog c Q a w := h w rfl
theorem bx11 {W : World} {b : Nat} {v0 v1 v2 v3 v4 v5 v6 v7 v8 v9 v10 : Value} (h : Bx W b [v0, v1, v2, v3, v4, v5, v6, v7, v8, v9, v10]) : W.cell? ⟨b, 0, none⟩ = some v0 ∧ W.cell? ⟨b, 1, none⟩ = some v1 ∧ W.cell? ⟨b, 2, none⟩ = some v2 ∧ W.cell? ⟨b, 3, none⟩ = some v3 ∧ W.cell? ⟨b, 4, none⟩ = some v4 ∧ W.cell? ⟨b, 5, none⟩ = some v5 ∧ W.cell? ⟨b, 6, none⟩ = some v6 ∧ W.cell? ⟨b, 7, none⟩ = some v7 ∧ W.cell? ⟨b, 8, none⟩ = some v8 ∧ W.cell? ⟨b, 9, none⟩ = some v9 ∧ W.cell? ⟨b, 10, none⟩ = some v10 :=
  ⟨(h 0 _ rfl).1, (h 1 _ rfl).1, (h 2 _ rfl).1, (h 3 _ rfl).1, (h 4 _ rfl).1, (h 5 _ rfl).1, (h 6 _ rfl).1, (h 7 _ rfl).1, (h 8 _ rfl).1, (h 9 _ rfl).1, (h 10 _ rfl).1⟩
theorem bx11q {W : World} {b : Nat} {v0 v1 v2 v3 v4 v5 v6 v7 v8 v9 v10 : Value} {l : List Value} (h : Bx W b (v0 :: v1 :: v2 :: v3 :: v4 :: v5 :: v6 :: v7 :: v8 :: v9 :: v10 :: l)) : (∀ q : UpW W, q.v.cell? ⟨b, 0, none⟩ = some v0) ∧ (∀ q : UpW W, q.v.cell? ⟨b, 1, none⟩ = some v1) ∧ (∀ q : UpW W, q.v.cell? ⟨b, 2, none⟩ = some v2) ∧ (∀ q : UpW W, q.v.cell? ⟨b, 3, none⟩ = some v3) ∧ (∀ q : UpW W, q.v.cell? ⟨b, 4, none⟩ = some v4) ∧ (∀ q : UpW W, q.v.cell? ⟨b, 5, none⟩ = some v5) ∧ (∀ q : UpW W, q.v.cell? ⟨b, 6, none⟩ = some v6) ∧ (∀ q : UpW W, q.v.cell? ⟨b, 7, none⟩ = some v7) ∧ (∀ q : UpW W, q.v.cell? ⟨b, 8, none⟩ = some v8) ∧ (∀ q : UpW W, q.v.cell? ⟨b, 9, none⟩ = some v9) ∧ (∀ q : UpW W, q.v.cell? ⟨b, 10, none⟩ = some v10) :=
  ⟨fun q => (bx_up h q.up 0 _ rfl).1, fun q => (bx_up h q.up 1 _ rfl).1, fun q => (bx_up h q.up 2 _ rfl).1, fun q => (bx_up h q.up 3 _ rfl).1, fun q => (bx_up h q.up 4 _ rfl).1, fun q => (bx_up h q.up 5 _ rfl).1, fun q => (bx_up h q.up 6 _ rfl).1, fun q => (bx_up h q.up 7 _ rfl).1, fun q => (bx_up h q.up 8 _ rfl).1, fun q => (bx_up h q.up 9 _ rfl).1, fun q => (bx_up h q.up 10 _ rfl).1⟩
/-- What a place of a link is: its point, and the error. -/
def plR (jx jy ax ay x y : Int) : (Int × Int) × Int := ((lkV (okp ax ay && okp jx jy) (okc x && okc y) (cV ax ay jx jy x y (plX ax ay jx jy x y)), lkV (okp ax ay && okp jx jy) (okc x && okc y) (cV ax ay jx jy x y (plY ax ay jx jy x y))), lkE (okp ax ay && okp jx jy) (okc x && okc y) (cE ax ay jx jy x y))
abbrev lkA (kd le be fr re wi he ma st mo : Int) (A : Option Addr) (n cap : Nat) (jx jy ax ay : Int) : Value := .agg #[.int .i64 kd, .int .i64 le, .int .i64 be, .int .i64 fr, .int .i64 re, .int .i64 wi, .int .i64 he, .int .i64 ma, .int .i64 st, .int .i64 mo, .slice A n cap, .int .i64 jx, .int .i64 jy, .int .i64 ax, .int .i64 ay]
end Go.Proofs.YtdehnokcjnbjoaaGreat
