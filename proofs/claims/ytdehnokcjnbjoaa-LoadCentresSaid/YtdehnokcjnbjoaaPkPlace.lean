/- What Place and Pull return, of the program and of the document's own answers: their errors, and the place. What Place and Pull return, of the program and of the document's own answers. What the functions on turns and bodies return, of the program and of the document's own answers. -/
import Derived.Test.YtdehnokcjnbjoaaSl
import Derived.Test.YtdehnokcjnbjoaaMath
import Derived.Deep.DeepCutAuto
namespace Go.Proofs.Ytdehnokcjnbjoaa
open Go.RowKit Go.Proofs.Gn
abbrev rt (c s n : Int) : Value := .agg #[.int .i64 c, .int .i64 s, .int .i64 n]
/-- Is the turn valid? -/
def rotB (c s n : Int) : Bool := decide (1 ≤ n ∧ n ≤ 16777216 ∧ -n ≤ c ∧ c ≤ n ∧ -n ≤ s ∧ s ≤ n ∧ c * c + s * s = n * n)
theorem rotB_yes {c s n : Int} (h : rotB c s n = true) : 1 ≤ n ∧ n ≤ 16777216 ∧ -n ≤ c ∧ c ≤ n ∧ -n ≤ s ∧ s ≤ n ∧ c * c + s * s = n * n := of_decide_eq_true h
def rotE (c s n : Int) : Int := if rotB c s n then 0 else 2
theorem rotB_of {c s n : Int} (h : 1 ≤ n ∧ n ≤ 16777216 ∧ -n ≤ c ∧ c ≤ n ∧ -n ≤ s ∧ s ≤ n ∧ c * c + s * s = n * n) : rotE c s n = 0 := by unfold rotE rotB; rw [if_pos (decide_eq_true h)]
theorem rotB_not {c s n : Int} (h : ¬ (1 ≤ n ∧ n ≤ 16777216 ∧ -n ≤ c ∧ c ≤ n ∧ -n ≤ s ∧ s ≤ n ∧ c * c + s * s = n * n)) : rotE c s n = 2 := by
  unfold rotE rotB; rw [if_neg]; simpa using h
/-! ### Halves -/
def halB (n d : Int) : Bool := decide (1 ≤ d ∧ d ≤ 2048 ∧ -2048 ≤ n ∧ n ≤ 2048)
def halC (n d : Int) : Int := if halB n d then d * d - n * n else 0
def halS (n d : Int) : Int := if halB n d then 2 * n * d else 0
def halN (n d : Int) : Int := if halB n d then d * d + n * n else 0
def halE (n d : Int) : Int := if halB n d then 0 else 2
theorem halB_yes {n d : Int} (h : halB n d = true) : 1 ≤ d ∧ d ≤ 2048 ∧ -2048 ≤ n ∧ n ≤ 2048 := of_decide_eq_true h
theorem halB_no {n d : Int} (h : halB n d = false) : ¬ (1 ≤ d ∧ d ≤ 2048 ∧ -2048 ≤ n ∧ n ≤ 2048) := of_decide_eq_false h
end Go.Proofs.Ytdehnokcjnbjoaa
namespace Go.Proofs.Ytdehnokcjnbjoaa
open Go.RowKit Go.Proofs.Gn
def resX (x y v : Int) : Int := if okp x y then v else 0
def resE (x y : Int) : Int := if okp x y then 0 else 4
/-- Where a place of a body comes to. -/
def plX (ax ay hx hy x y : Int) : Int := ax + putX (hx - ax) (hy - ay) x y
def plY (ax ay hx hy x y : Int) : Int := ay + putY (hx - ax) (hy - ay) x y
theorem put_bd {u v x y : Int} (hu : -33554432 ≤ u ∧ u ≤ 33554432) (hv : -33554432 ≤ v ∧ v ≤ 33554432) (hx : -16777216 ≤ x ∧ x ≤ 16777216) (hy : -16777216 ≤ y ∧ y ≤ 16777216) (h0 : ¬ (u = 0 ∧ v = 0)) :
    (-1125899906842624 ≤ u * x ∧ u * x ≤ 1125899906842624) ∧ (-1125899906842624 ≤ v * y ∧ v * y ≤ 1125899906842624) ∧ (-1125899906842624 ≤ v * x ∧ v * x ≤ 1125899906842624) ∧ (-1125899906842624 ≤ u * y ∧ u * y ≤ 1125899906842624) ∧
    (0 ≤ u * u ∧ u * u ≤ 1125899906842624) ∧ (0 ≤ v * v ∧ v * v ≤ 1125899906842624) ∧ (1 ≤ len32 u v ∧ len32 u v ≤ 2147483648) ∧
    (-144115188075855872 ≤ putX u v x y ∧ putX u v x y ≤ 144115188075855872) ∧ (-144115188075855872 ≤ putY u v x y ∧ putY u v x y ≤ 144115188075855872) := by
  have a := mul_bd2 (u := u) (v := x) (by omega) (by omega) (by omega) (by omega)
  have b := mul_bd2 (u := v) (v := y) (by omega) (by omega) (by omega) (by omega)
  have c := mul_bd2 (u := v) (v := x) (by omega) (by omega) (by omega) (by omega)
  have d := mul_bd2 (u := u) (v := y) (by omega) (by omega) (by omega) (by omega)
  have e := mul_bd2 (u := u) (v := u) (by omega) (by omega) (by omega) (by omega)
  have f := mul_bd2 (u := v) (v := v) (by omega) (by omega) (by omega) (by omega)
  have e0 := sq_nonneg u
  have f0 := sq_nonneg v
  have l := len32_pos h0
  have l2 : len32 u v ≤ 2147483648 := root_le (by omega) (by omega) (by omega)
  have n1 := near_bd (n := 32 * (u * x - v * y)) (d := len32 u v) (by omega)
  have n2 := near_bd (n := 32 * (v * x + u * y)) (d := len32 u v) (by omega)
  unfold putX putY
  exact ⟨a, b, c, d, ⟨e0, e.2⟩, ⟨f0, f.2⟩, ⟨l, l2⟩, by omega, by omega⟩
theorem p_rootG (n r : Int) (w : World) (hr : Hid (root n = r)) (h : 0 ≤ n) (h2 : n ≤ 9223372036854775807) :
    Calls Try.prog 103 #[.int .i64 n] w fun e w' => e = .returned (.int .i64 r) ∧ w = w' := by
  have := p_root n w h h2
  rw [unhide hr] at this
  exact this
theorem p_nearestG (n d q : Int) (w : World) (hq : Hid (near n d = q)) (hd : 0 < d) (hd2 : d ≤ 2305843009213693952) (h1 : -2305843009213693952 ≤ n) (h2 : n ≤ 2305843009213693952) :
    Calls Try.prog 81 #[.int .i64 n, .int .i64 d] w fun e w' => e = .returned (.int .i64 q) ∧ w = w' := by
  have := p_nearest n d w hd hd2 h1 h2
  rw [unhide hq] at this
  exact this
/-- What the walks of a place need: names and bounds. -/
theorem put_facts {ax ay hx hy x y : Int} (o1 : okp ax ay = true) (o2 : okp hx hy = true) (hx1 : -16777216 ≤ x) (hx2 : x ≤ 16777216) (hy1 : -16777216 ≤ y) (hy2 : y ≤ 16777216) (h0 : ¬ (hx = ax ∧ hy = ay)) :
    ∃ u v r X Y : Int, Hid (hx - ax = u) ∧ Hid (hy - ay = v) ∧ Hid (root (1024 * (u * u + v * v)) = r) ∧ Hid (near (32 * (u * x - v * y)) r = X) ∧ Hid (near (32 * (v * x + u * y)) r = Y) ∧
      Hid (plX ax ay hx hy x y = ax + X) ∧ Hid (plY ax ay hx hy x y = ay + Y) ∧
      (-33554432 ≤ u ∧ u ≤ 33554432) ∧ (-33554432 ≤ v ∧ v ≤ 33554432) ∧ (-16777216 ≤ ax ∧ ax ≤ 16777216) ∧ (-16777216 ≤ ay ∧ ay ≤ 16777216) ∧
      (-1125899906842624 ≤ u * x ∧ u * x ≤ 1125899906842624) ∧ (-1125899906842624 ≤ v * y ∧ v * y ≤ 1125899906842624) ∧ (-1125899906842624 ≤ v * x ∧ v * x ≤ 1125899906842624) ∧ (-1125899906842624 ≤ u * y ∧ u * y ≤ 1125899906842624) ∧
      (0 ≤ u * u ∧ u * u ≤ 1125899906842624) ∧ (0 ≤ v * v ∧ v * v ≤ 1125899906842624) ∧ (1 ≤ r ∧ r ≤ 2147483648) ∧
      (-144115188075855872 ≤ X ∧ X ≤ 144115188075855872) ∧ (-144115188075855872 ≤ Y ∧ Y ≤ 144115188075855872) := by
  have c1 := okc_yes (okp_yes o1).1
  have c2 := okc_yes (okp_yes o1).2
  have c3 := okc_yes (okp_yes o2).1
  have c4 := okc_yes (okp_yes o2).2
  have b := put_bd (u := hx - ax) (v := hy - ay) (x := x) (y := y) (by omega) (by omega) (by omega) (by omega) (by omega)
  unfold plX plY putX putY len32 at *
  exact ⟨hx - ax, hy - ay, _, _, _, hide rfl, hide rfl, hide rfl, hide rfl, hide rfl, hide rfl, hide rfl, by omega, by omega, c1, c2, b⟩
end Go.Proofs.Ytdehnokcjnbjoaa
namespace Go.Proofs.Ytdehnokcjnbjoaa
open Go.RowKit Go.Proofs.Gn
def cV (ax ay hx hy x y v : Int) : Int := if hx = ax ∧ hy = ay then 0 else resX (plX ax ay hx hy x y) (plY ax ay hx hy x y) v
def cE (ax ay hx hy x y : Int) : Int := if hx = ax ∧ hy = ay then 9 else resE (plX ax ay hx hy x y) (plY ax ay hx hy x y)
abbrev cR (ax ay hx hy x y : Int) : Value := .tuple #[pt (cV ax ay hx hy x y (plX ax ay hx hy x y)) (cV ax ay hx hy x y (plY ax ay hx hy x y)), .int .i64 (cE ax ay hx hy x y)]
/-- The result of a place behind its looks: E, the error; V, a coordinate. -/
def lkE (o r : Bool) (e : Int) : Int := if o then if r then e else 3 else 2
def lkV (o r : Bool) (v : Int) : Int := if o && r then v else 0
end Go.Proofs.Ytdehnokcjnbjoaa
