/- What Place and Pull return, of the program and of the document's own answers. -/
import Derived.Test.YthifcalemhpmoaaGreatRot
import Derived.Test.YthifcalemhpmoaaGreatMath
import Derived.Deep.DeepCutAuto
namespace Go.Proofs.YthifcalemhpmoaaGreat
open Go.RowKit Go.Proofs.Gn
def resX (x y v : Int) : Int := if okp x y then v else 0
def resE (x y : Int) : Int := if okp x y then 0 else 4
theorem p_result (x y : Int) (w : World) : Calls Tryz.prog 115 #[pt x y] w fun e w' => e = .returned (.tuple #[pt (resX x y x) (resX x y y), .int .i64 (resE x y)]) ∧ Up w w' := by
  unfold resX resE
  cases hp : okp x y
  · have hc : chk x y = 2 := by unfold chk; rw [hp]; rfl
    clear hp
    go_enter Tryz.func115, Tryz.ntmps115
    go_wp2_with (go_at_call 111; refine (p_Check _ _ _).mono ?_; rintro e w' ⟨rfl, hb⟩; have k0_0 : w'.cell? ⟨w.heap.size, 0, none⟩ = some (.int .i64 x) := up_cell hb (by first | (with_reducible assumption) | (refine alloc_cell _ ?_; with_reducible assumption) | go_cell); have k0_1 : w'.cell? ⟨w.heap.size, 1, none⟩ = some (.int .i64 y) := up_cell hb (by first | (with_reducible assumption) | (refine alloc_cell _ ?_; with_reducible assumption) | go_cell); have k1_0 : w'.cell? ⟨w.heap.size + 1, 0, none⟩ = some (.int .i64 0) := up_cell hb (by first | (with_reducible assumption) | (refine alloc_cell _ ?_; with_reducible assumption) | go_cell); have f1_0 : w'.frozen? ⟨w.heap.size + 1, 0, none⟩ = false := up_frozen hb (v := .int .i64 0) (by first | (with_reducible assumption) | (refine alloc_cell _ ?_; with_reducible assumption) | go_cell) (by first | (with_reducible assumption) | (refine alloc_frozen (v := .int .i64 0) _ ?_ ?_ <;> with_reducible assumption) | (simp; done) | (go_simp; done)); have k1_1 : w'.cell? ⟨w.heap.size + 1, 1, none⟩ = some (.int .i64 0) := up_cell hb (by first | (with_reducible assumption) | (refine alloc_cell _ ?_; with_reducible assumption) | go_cell); have f1_1 : w'.frozen? ⟨w.heap.size + 1, 1, none⟩ = false := up_frozen hb (v := .int .i64 0) (by first | (with_reducible assumption) | (refine alloc_cell _ ?_; with_reducible assumption) | go_cell) (by first | (with_reducible assumption) | (refine alloc_frozen (v := .int .i64 0) _ ?_ ?_ <;> with_reducible assumption) | (simp; done) | (go_simp; done)))
    refine bodyPost_ret (v := .tuple #[pt 0 0, .int .i64 4]) (by simp [results, Tryz.results115, go_sem, *]) rfl ⟨rfl, (by repeat' (first | (with_reducible exact up_refl _) | (with_reducible assumption) | (with_reducible refine up_alloc ?_ _) | (with_reducible refine up_drewN ?_ _) | (with_reducible refine up_drew ?_) | (with_reducible refine up_set ?_ (by first | (simp; done) | (simp; omega) | omega) _) | (refine up_trans ?_ (by with_reducible assumption))))⟩
  · have hc : chk x y = 0 := by unfold chk; rw [hp]; rfl
    clear hp
    go_enter Tryz.func115, Tryz.ntmps115
    go_wp2_with (go_at_call 111; refine (p_Check _ _ _).mono ?_; rintro e w' ⟨rfl, hb⟩; have k0_0 : w'.cell? ⟨w.heap.size, 0, none⟩ = some (.int .i64 x) := up_cell hb (by first | (with_reducible assumption) | (refine alloc_cell _ ?_; with_reducible assumption) | go_cell); have k0_1 : w'.cell? ⟨w.heap.size, 1, none⟩ = some (.int .i64 y) := up_cell hb (by first | (with_reducible assumption) | (refine alloc_cell _ ?_; with_reducible assumption) | go_cell); have k1_0 : w'.cell? ⟨w.heap.size + 1, 0, none⟩ = some (.int .i64 0) := up_cell hb (by first | (with_reducible assumption) | (refine alloc_cell _ ?_; with_reducible assumption) | go_cell); have f1_0 : w'.frozen? ⟨w.heap.size + 1, 0, none⟩ = false := up_frozen hb (v := .int .i64 0) (by first | (with_reducible assumption) | (refine alloc_cell _ ?_; with_reducible assumption) | go_cell) (by first | (with_reducible assumption) | (refine alloc_frozen (v := .int .i64 0) _ ?_ ?_ <;> with_reducible assumption) | (simp; done) | (go_simp; done)); have k1_1 : w'.cell? ⟨w.heap.size + 1, 1, none⟩ = some (.int .i64 0) := up_cell hb (by first | (with_reducible assumption) | (refine alloc_cell _ ?_; with_reducible assumption) | go_cell); have f1_1 : w'.frozen? ⟨w.heap.size + 1, 1, none⟩ = false := up_frozen hb (v := .int .i64 0) (by first | (with_reducible assumption) | (refine alloc_cell _ ?_; with_reducible assumption) | go_cell) (by first | (with_reducible assumption) | (refine alloc_frozen (v := .int .i64 0) _ ?_ ?_ <;> with_reducible assumption) | (simp; done) | (go_simp; done)))
    refine bodyPost_ret (v := .tuple #[pt x y, .int .i64 0]) (by simp [results, Tryz.results115, go_sem, *]) rfl ⟨rfl, (by repeat' (first | (with_reducible exact up_refl _) | (with_reducible assumption) | (with_reducible refine up_alloc ?_ _) | (with_reducible refine up_drewN ?_ _) | (with_reducible refine up_drew ?_) | (with_reducible refine up_set ?_ (by first | (simp; done) | (simp; omega) | omega) _) | (refine up_trans ?_ (by with_reducible assumption))))⟩
/-- Where a place of a body comes to. -/
def plX (ax ay hx hy x y : Int) : Int := ax + putX (hx - ax) (hy - ay) x y
def plY (ax ay hx hy x y : Int) : Int := ay + putY (hx - ax) (hy - ay) x y
theorem put_bd {u v x y : Int} (hu : -33554432 ≤ u ∧ u ≤ 33554432) (hv : -33554432 ≤ v ∧ v ≤ 33554432) (hx : -16777216 ≤ x ∧ x ≤ 16777216) (hy : -16777216 ≤ y ∧ y ≤ 16777216) (h0 : ¬ (u = 0 ∧ v = 0)) :
    (-1125899906842624 ≤ u * x ∧ u * x ≤ 1125899906842624) ∧ (-1125899906842624 ≤ v * y ∧ v * y ≤ 1125899906842624) ∧ (-1125899906842624 ≤ v * x ∧ v * x ≤ 1125899906842624) ∧ (-1125899906842624 ≤ u * y ∧ u * y ≤ 1125899906842624) ∧
    (0 ≤ u * u ∧ u * u ≤ 1125899906842624) ∧ (0 ≤ v * v ∧ v * v ≤ 1125899906842624) ∧ (1 ≤ len32 u v ∧ len32 u v ≤ 2147483648) ∧
    (-144115188075855872 ≤ putX u v x y ∧ putX u v x y ≤ 144115188075855872) ∧ (-144115188075855872 ≤ putY u v x y ∧ putY u v x y ≤ 144115188075855872) := by
  have a := mul_bd2 (u := u) (v := x) (by omega) (by omega) (by omega) (by omega)
  have b := mul_bd2 (u := v) (v := y) (by omega) (by omega) (by omega) (by omega)
  have c := mul_bd2 (u := v) (v := x) (by omega) (by omega) (by omega) (by omega)
  have d := mul_bd2 (u := u) (v := y) (by omega) (by omega) (by omega) (by omega)
  have e := mul_bd2 (u := u) (v := u) (by omega) (by omega) (by omega) (by omega)
  have f := mul_bd2 (u := v) (v := v) (by omega) (by omega) (by omega) (by omega)
  have e0 := sq_nonneg u
  have f0 := sq_nonneg v
  have l := len32_pos h0
  have l2 : len32 u v ≤ 2147483648 := root_le (by omega) (by omega) (by omega)
  have n1 := near_bd (n := 32 * (u * x - v * y)) (d := len32 u v) (by omega)
  have n2 := near_bd (n := 32 * (v * x + u * y)) (d := len32 u v) (by omega)
  unfold putX putY
  exact ⟨a, b, c, d, ⟨e0, e.2⟩, ⟨f0, f.2⟩, ⟨l, l2⟩, by omega, by omega⟩
theorem p_place_zero (ax ay x y : Int) (w : World) (h1 : okp ax ay = true) :
    Calls Tryz.prog 81 #[pt ax ay, pt ax ay, .int .i64 x, .int .i64 y] w fun e w' => e = .returned (.tuple #[pt 0 0, .int .i64 9]) ∧ Up w w' := by
  have o1 := okc_yes (okp_yes h1).1
  have o2 := okc_yes (okp_yes h1).2
  have e1 : ax - ax = 0 := by omega
  have e2 : ay - ay = 0 := by omega
  have e3 := root_zero
  clear h1
  go_enter Tryz.func81, Tryz.ntmps81
  go_wp2_with (first | (go_at_call 112; refine (p_minus _ _ _ _ _ (by omega) (by omega) (by omega) (by omega)).mono ?_; rintro e w' ⟨rfl, hb⟩; have k0_0 : w'.cell? ⟨w.heap.size, 0, none⟩ = some (.int .i64 ax) := up_cell hb (by first | (with_reducible assumption) | (refine alloc_cell _ ?_; with_reducible assumption) | go_cell); have k0_1 : w'.cell? ⟨w.heap.size, 1, none⟩ = some (.int .i64 ay) := up_cell hb (by first | (with_reducible assumption) | (refine alloc_cell _ ?_; with_reducible assumption) | go_cell); have k2_0 : w'.cell? ⟨w.heap.size + 1 + 1, 0, none⟩ = some (.int .i64 0) := up_cell hb (by first | (with_reducible assumption) | (refine alloc_cell _ ?_; with_reducible assumption) | go_cell); have f2_0 : w'.frozen? ⟨w.heap.size + 1 + 1, 0, none⟩ = false := up_frozen hb (v := .int .i64 0) (by first | (with_reducible assumption) | (refine alloc_cell _ ?_; with_reducible assumption) | go_cell) (by first | (with_reducible assumption) | (refine alloc_frozen (v := .int .i64 0) _ ?_ ?_ <;> with_reducible assumption) | (simp; done) | (go_simp; done)); have k2_1 : w'.cell? ⟨w.heap.size + 1 + 1, 1, none⟩ = some (.int .i64 0) := up_cell hb (by first | (with_reducible assumption) | (refine alloc_cell _ ?_; with_reducible assumption) | go_cell); have f2_1 : w'.frozen? ⟨w.heap.size + 1 + 1, 1, none⟩ = false := up_frozen hb (v := .int .i64 0) (by first | (with_reducible assumption) | (refine alloc_cell _ ?_; with_reducible assumption) | go_cell) (by first | (with_reducible assumption) | (refine alloc_frozen (v := .int .i64 0) _ ?_ ?_ <;> with_reducible assumption) | (simp; done) | (go_simp; done))) | (go_at_call 114; (refine (p_dot _ _ _ _ _ (by omega) (by omega) (by omega) (by omega)).mono ?_; rintro e w2 ⟨rfl, hb2⟩; have k0_0 : w2.cell? ⟨w.heap.size, 0, none⟩ = some (.int .i64 ax) := up_cell hb2 (by first | (with_reducible assumption) | (refine alloc_cell _ ?_; with_reducible assumption) | go_cell); have k0_1 : w2.cell? ⟨w.heap.size, 1, none⟩ = some (.int .i64 ay) := up_cell hb2 (by first | (with_reducible assumption) | (refine alloc_cell _ ?_; with_reducible assumption) | go_cell); have k2_0 : w2.cell? ⟨w.heap.size + 1 + 1, 0, none⟩ = some (.int .i64 0) := up_cell hb2 (by first | (with_reducible assumption) | (refine alloc_cell _ ?_; with_reducible assumption) | go_cell); have f2_0 : w2.frozen? ⟨w.heap.size + 1 + 1, 0, none⟩ = false := up_frozen hb2 (v := .int .i64 0) (by first | (with_reducible assumption) | (refine alloc_cell _ ?_; with_reducible assumption) | go_cell) (by first | (with_reducible assumption) | (refine alloc_frozen (v := .int .i64 0) _ ?_ ?_ <;> with_reducible assumption) | (simp; done) | (go_simp; done)); have k2_1 : w2.cell? ⟨w.heap.size + 1 + 1, 1, none⟩ = some (.int .i64 0) := up_cell hb2 (by first | (with_reducible assumption) | (refine alloc_cell _ ?_; with_reducible assumption) | go_cell); have f2_1 : w2.frozen? ⟨w.heap.size + 1 + 1, 1, none⟩ = false := up_frozen hb2 (v := .int .i64 0) (by first | (with_reducible assumption) | (refine alloc_cell _ ?_; with_reducible assumption) | go_cell) (by first | (with_reducible assumption) | (refine alloc_frozen (v := .int .i64 0) _ ?_ ?_ <;> with_reducible assumption) | (simp; done) | (go_simp; done)))) | (go_at_call 113; refine (p_root _ _ (by omega) (by omega)).mono ?_; rintro e w3 ⟨rfl, rfl⟩))
  refine bodyPost_ret (v := .tuple #[pt 0 0, .int .i64 9]) (by simp [results, Tryz.results81, go_sem, *]) rfl ⟨rfl, (by repeat' (first | (with_reducible exact up_refl _) | (with_reducible assumption) | (with_reducible refine up_alloc ?_ _) | (with_reducible refine up_drewN ?_ _) | (with_reducible refine up_drew ?_) | (with_reducible refine up_set ?_ (by first | (simp; done) | (simp; omega) | omega) _) | (refine up_trans ?_ (by with_reducible assumption))))⟩

theorem p_minusG (a b c d u v : Int) (w : World) (hu : Hid (a - c = u)) (hv : Hid (b - d = v)) (h1 : -1073741824 ≤ u) (h2 : u ≤ 1073741824) (h3 : -1073741824 ≤ v) (h4 : v ≤ 1073741824) :
    Calls Tryz.prog 112 #[pt a b, pt c d] w fun e w' => e = .returned (pt u v) ∧ Up w w' := by
  have h := unhide hu
  have k := unhide hv
  have := p_minus a b c d w (by omega) (by omega) (by omega) (by omega)
  rw [h, k] at this
  exact this
theorem p_rootG (n r : Int) (w : World) (hr : Hid (root n = r)) (h : 0 ≤ n) (h2 : n ≤ 9223372036854775807) :
    Calls Tryz.prog 113 #[.int .i64 n] w fun e w' => e = .returned (.int .i64 r) ∧ w = w' := by
  have := p_root n w h h2
  rw [unhide hr] at this
  exact this
theorem p_nearestG (n d q : Int) (w : World) (hq : Hid (near n d = q)) (hd : 0 < d) (hd2 : d ≤ 2305843009213693952) (h1 : -2305843009213693952 ≤ n) (h2 : n ≤ 2305843009213693952) :
    Calls Tryz.prog 42 #[.int .i64 n, .int .i64 d] w fun e w' => e = .returned (.int .i64 q) ∧ w = w' := by
  have := p_nearest n d w hd hd2 h1 h2
  rw [unhide hq] at this
  exact this
/-- What the walks of a place need: names and bounds. -/
theorem put_facts {ax ay hx hy x y : Int} (o1 : okp ax ay = true) (o2 : okp hx hy = true) (hx1 : -16777216 ≤ x) (hx2 : x ≤ 16777216) (hy1 : -16777216 ≤ y) (hy2 : y ≤ 16777216) (h0 : ¬ (hx = ax ∧ hy = ay)) :
    ∃ u v r X Y : Int, Hid (hx - ax = u) ∧ Hid (hy - ay = v) ∧ Hid (root (1024 * (u * u + v * v)) = r) ∧ Hid (near (32 * (u * x - v * y)) r = X) ∧ Hid (near (32 * (v * x + u * y)) r = Y) ∧
      Hid (plX ax ay hx hy x y = ax + X) ∧ Hid (plY ax ay hx hy x y = ay + Y) ∧
      (-33554432 ≤ u ∧ u ≤ 33554432) ∧ (-33554432 ≤ v ∧ v ≤ 33554432) ∧ (-16777216 ≤ ax ∧ ax ≤ 16777216) ∧ (-16777216 ≤ ay ∧ ay ≤ 16777216) ∧
      (-1125899906842624 ≤ u * x ∧ u * x ≤ 1125899906842624) ∧ (-1125899906842624 ≤ v * y ∧ v * y ≤ 1125899906842624) ∧ (-1125899906842624 ≤ v * x ∧ v * x ≤ 1125899906842624) ∧ (-1125899906842624 ≤ u * y ∧ u * y ≤ 1125899906842624) ∧
      (0 ≤ u * u ∧ u * u ≤ 1125899906842624) ∧ (0 ≤ v * v ∧ v * v ≤ 1125899906842624) ∧ (1 ≤ r ∧ r ≤ 2147483648) ∧
      (-144115188075855872 ≤ X ∧ X ≤ 144115188075855872) ∧ (-144115188075855872 ≤ Y ∧ Y ≤ 144115188075855872) := by
  have c1 := okc_yes (okp_yes o1).1
  have c2 := okc_yes (okp_yes o1).2
  have c3 := okc_yes (okp_yes o2).1
  have c4 := okc_yes (okp_yes o2).2
  have b := put_bd (u := hx - ax) (v := hy - ay) (x := x) (y := y) (by omega) (by omega) (by omega) (by omega) (by omega)
  unfold plX plY putX putY len32 at *
  exact ⟨hx - ax, hy - ay, _, _, _, hide rfl, hide rfl, hide rfl, hide rfl, hide rfl, hide rfl, hide rfl, by omega, by omega, c1, c2, b⟩
set_option maxHeartbeats 1000000 in
theorem p_place_pos (ax ay hx hy x y : Int) (w : World) (o1 : okp ax ay = true) (o2 : okp hx hy = true) (hx1 : -16777216 ≤ x) (hx2 : x ≤ 16777216) (hy1 : -16777216 ≤ y) (hy2 : y ≤ 16777216) (h0 : ¬ (hx = ax ∧ hy = ay)) :
    Calls Tryz.prog 81 #[pt ax ay, pt hx hy, .int .i64 x, .int .i64 y] w fun e w' => e = .returned (.tuple #[pt (resX (plX ax ay hx hy x y) (plY ax ay hx hy x y) (plX ax ay hx hy x y)) (resX (plX ax ay hx hy x y) (plY ax ay hx hy x y) (plY ax ay hx hy x y)), .int .i64 (resE (plX ax ay hx hy x y) (plY ax ay hx hy x y))]) ∧ Up w w' := by
  obtain ⟨u, v, r, X, Y, hu, hv, hr, hX, hY, hp, hq, b1, b2, b3, b4, b5, b6, b7, b8, b9, b10, b11, b12, b13⟩ := put_facts o1 o2 hx1 hx2 hy1 hy2 h0
  rw [unhide hp, unhide hq]
  clear o1 o2 h0 hp hq
  go_enter Tryz.func81, Tryz.ntmps81
  go_wp2_with (first | (go_at_call 112; refine (p_minusG _ _ _ _ _ _ _ hu hv (by omega) (by omega) (by omega) (by omega)).mono ?_; rintro e w' ⟨rfl, hb⟩; have k0_0 : w'.cell? ⟨w.heap.size, 0, none⟩ = some (.int .i64 ax) := up_cell hb (by first | (with_reducible assumption) | (refine alloc_cell _ ?_; with_reducible assumption) | go_cell); have k0_1 : w'.cell? ⟨w.heap.size, 1, none⟩ = some (.int .i64 ay) := up_cell hb (by first | (with_reducible assumption) | (refine alloc_cell _ ?_; with_reducible assumption) | go_cell); have k2_0 : w'.cell? ⟨w.heap.size + 1 + 1, 0, none⟩ = some (.int .i64 0) := up_cell hb (by first | (with_reducible assumption) | (refine alloc_cell _ ?_; with_reducible assumption) | go_cell); have f2_0 : w'.frozen? ⟨w.heap.size + 1 + 1, 0, none⟩ = false := up_frozen hb (v := .int .i64 0) (by first | (with_reducible assumption) | (refine alloc_cell _ ?_; with_reducible assumption) | go_cell) (by first | (with_reducible assumption) | (refine alloc_frozen (v := .int .i64 0) _ ?_ ?_ <;> with_reducible assumption) | (simp; done) | (go_simp; done)); have k2_1 : w'.cell? ⟨w.heap.size + 1 + 1, 1, none⟩ = some (.int .i64 0) := up_cell hb (by first | (with_reducible assumption) | (refine alloc_cell _ ?_; with_reducible assumption) | go_cell); have f2_1 : w'.frozen? ⟨w.heap.size + 1 + 1, 1, none⟩ = false := up_frozen hb (v := .int .i64 0) (by first | (with_reducible assumption) | (refine alloc_cell _ ?_; with_reducible assumption) | go_cell) (by first | (with_reducible assumption) | (refine alloc_frozen (v := .int .i64 0) _ ?_ ?_ <;> with_reducible assumption) | (simp; done) | (go_simp; done))) | (go_at_call 114; refine (p_dot _ _ _ _ _ (by omega) (by omega) (by omega) (by omega)).mono ?_; rintro e w2 ⟨rfl, hb2⟩; have q0 : w2.cell? ⟨w'.heap.size, 0, none⟩ = some (.int .i64 u) := up_cell hb2 (by go_cell); have q1 : w2.cell? ⟨w'.heap.size, 1, none⟩ = some (.int .i64 v) := up_cell hb2 (by go_cell); have k0_0 : w2.cell? ⟨w.heap.size, 0, none⟩ = some (.int .i64 ax) := up_cell hb2 (by first | (with_reducible assumption) | (refine alloc_cell _ ?_; with_reducible assumption) | go_cell); have k0_1 : w2.cell? ⟨w.heap.size, 1, none⟩ = some (.int .i64 ay) := up_cell hb2 (by first | (with_reducible assumption) | (refine alloc_cell _ ?_; with_reducible assumption) | go_cell); have k2_0 : w2.cell? ⟨w.heap.size + 1 + 1, 0, none⟩ = some (.int .i64 0) := up_cell hb2 (by first | (with_reducible assumption) | (refine alloc_cell _ ?_; with_reducible assumption) | go_cell); have f2_0 : w2.frozen? ⟨w.heap.size + 1 + 1, 0, none⟩ = false := up_frozen hb2 (v := .int .i64 0) (by first | (with_reducible assumption) | (refine alloc_cell _ ?_; with_reducible assumption) | go_cell) (by first | (with_reducible assumption) | (refine alloc_frozen (v := .int .i64 0) _ ?_ ?_ <;> with_reducible assumption) | (simp; done) | (go_simp; done)); have k2_1 : w2.cell? ⟨w.heap.size + 1 + 1, 1, none⟩ = some (.int .i64 0) := up_cell hb2 (by first | (with_reducible assumption) | (refine alloc_cell _ ?_; with_reducible assumption) | go_cell); have f2_1 : w2.frozen? ⟨w.heap.size + 1 + 1, 1, none⟩ = false := up_frozen hb2 (v := .int .i64 0) (by first | (with_reducible assumption) | (refine alloc_cell _ ?_; with_reducible assumption) | go_cell) (by first | (with_reducible assumption) | (refine alloc_frozen (v := .int .i64 0) _ ?_ ?_ <;> with_reducible assumption) | (simp; done) | (go_simp; done))) | (go_at_call 113; refine (p_rootG _ _ _ hr (by omega) (by omega)).mono ?_; rintro e w3 ⟨rfl, rfl⟩))
  go_cut [12] (fun s12 wx => ∃ g : Nat, s12 = .pointer (some ⟨g, 0, none⟩) ∧ wx.cell? ⟨g, 0, none⟩ = some (.int .i64 X) ∧ wx.cell? ⟨g, 1, none⟩ = some (.int .i64 Y) ∧ Up w2 wx)
  case first =>
    have W1 : IntKind.i64.wrap (u * x) = u * x := IntWalk.i64_in _ ⟨by omega, by omega⟩
    have W2 : IntKind.i64.wrap (v * y) = v * y := IntWalk.i64_in _ ⟨by omega, by omega⟩
    have W3 : IntKind.i64.wrap (u * x - v * y) = u * x - v * y := IntWalk.i64_in _ ⟨by omega, by omega⟩
    have W4 : IntKind.i64.wrap (32 * (u * x - v * y)) = 32 * (u * x - v * y) := IntWalk.i64_in _ ⟨by omega, by omega⟩
    have W5 : IntKind.i64.wrap (v * x) = v * x := IntWalk.i64_in _ ⟨by omega, by omega⟩
    have W6 : IntKind.i64.wrap (u * y) = u * y := IntWalk.i64_in _ ⟨by omega, by omega⟩
    have W7 : IntKind.i64.wrap (v * x + u * y) = v * x + u * y := IntWalk.i64_in _ ⟨by omega, by omega⟩
    have W8 : IntKind.i64.wrap (32 * (v * x + u * y)) = 32 * (v * x + u * y) := IntWalk.i64_in _ ⟨by omega, by omega⟩
    have P1 : ∀ W : World, Calls Tryz.prog 42 #[.int .i64 (32 * (u * x - v * y)), .int .i64 r] W fun e w' => e = .returned (.int .i64 X) ∧ W = w' := fun W => p_nearestG _ _ _ W hX (by omega) (by omega) (by omega) (by omega)
    have P2 : ∀ W : World, Calls Tryz.prog 42 #[.int .i64 (32 * (v * x + u * y)), .int .i64 r] W fun e w' => e = .returned (.int .i64 Y) ∧ W = w' := fun W => p_nearestG _ _ _ W hY (by omega) (by omega) (by omega) (by omega)
    have H1 := hide P1
    have H2 := hide P2
    clear P1 P2
    go_region_held3 (fun w4 => w4.cell? ⟨w'.heap.size, 0, none⟩ = some (.int .i64 u) ∧ w4.cell? ⟨w'.heap.size, 1, none⟩ = some (.int .i64 v) ∧ Up w2 w4) ((first | (exact ⟨q0, q1, (by repeat' (first | (with_reducible exact up_refl _) | (with_reducible assumption) | (with_reducible refine up_alloc ?_ _) | (with_reducible refine up_drewN ?_ _) | (with_reducible refine up_drew ?_) | (with_reducible refine up_set ?_ (by first | (simp; done) | (simp; omega) | omega) _) | (refine up_trans ?_ (by with_reducible assumption))))⟩) | (with_reducible assumption) | (refine ⟨?_, ?_, (by repeat' (first | (with_reducible exact up_refl _) | (with_reducible assumption) | (with_reducible refine up_alloc ?_ _) | (with_reducible refine up_drewN ?_ _) | (with_reducible refine up_drew ?_) | (with_reducible refine up_set ?_ (by first | (simp; done) | (simp; omega) | omega) _) | (refine up_trans ?_ (by with_reducible assumption))))⟩ <;> first | go_cell | go_keep)))
      (first | (go_at_call 42; (with_reducible refine (unhide H1 _).mono ?_); rintro e w4 ⟨rfl, rfl⟩) | (go_at_call 42; (with_reducible refine (unhide H2 _).mono ?_); rintro e w4 ⟨rfl, rfl⟩))
    all_goals
      go_wp2_with fail
      go_meet
      exact ⟨w2.heap.size, rfl, by go_cell, by go_cell, (by repeat' (first | (with_reducible exact up_refl _) | (with_reducible assumption) | (with_reducible refine up_alloc ?_ _) | (with_reducible refine up_drewN ?_ _) | (with_reducible refine up_drew ?_) | (with_reducible refine up_set ?_ (by first | (simp; done) | (simp; omega) | omega) _) | (refine up_trans ?_ (by with_reducible assumption))))⟩
  case rest =>
    obtain ⟨g, rfl, d0, d1, hu2⟩ := hcut
    have e0 := up_cell hu2 k0_0
    have e1 := up_cell hu2 k0_1
    have e2 := up_cell hu2 k2_0
    have e3 := up_cell hu2 k2_1
    have e4 := up_frozen hu2 k2_0 f2_0
    have e5 := up_frozen hu2 k2_1 f2_1
    have hU : Up w wc := up_trans (up_trans (b := w2) (by repeat' (first | (with_reducible exact up_refl _) | (with_reducible assumption) | (with_reducible refine up_alloc ?_ _) | (with_reducible refine up_drewN ?_ _) | (with_reducible refine up_drew ?_) | (with_reducible refine up_set ?_ (by first | (simp; done) | (simp; omega) | omega) _) | (refine up_trans ?_ (by with_reducible assumption)))) hu2) (up_refl _)
    clear k0_0 k0_1 k2_0 k2_1 f2_0 f2_1 q0 q1 hb hb2 hu2
    go_wp2_with (first | (go_at_call 116; refine (p_plus _ _ _ _ _ (by omega) (by omega) (by omega) (by omega)).mono ?_; rintro e w5 ⟨rfl, hb5⟩; have j2 := up_cell hb5 e2; have j3 := up_cell hb5 e3; have j4 := up_frozen hb5 e2 e4; have j5 := up_frozen hb5 e3 e5) | (go_at_call 115; refine (p_result _ _ _).mono ?_; rintro e w6 ⟨rfl, hb6⟩; have i2 := up_cell hb6 j2; have i3 := up_cell hb6 j3; have i4 := up_frozen hb6 j2 j4; have i5 := up_frozen hb6 j3 j5))
    refine bodyPost_ret (v := .tuple #[pt (resX (ax + X) (ay + Y) (ax + X)) (resX (ax + X) (ay + Y) (ay + Y)), .int .i64 (resE (ax + X) (ay + Y))]) (by simp [results, Tryz.results81, go_sem, *]) rfl ⟨rfl, (by repeat' (first | (with_reducible exact up_refl _) | (with_reducible assumption) | (with_reducible refine up_alloc ?_ _) | (with_reducible refine up_drewN ?_ _) | (with_reducible refine up_drew ?_) | (with_reducible refine up_set ?_ (by first | (simp; done) | (simp; omega) | omega) _) | (refine up_trans ?_ (by with_reducible assumption))))⟩
end Go.Proofs.YthifcalemhpmoaaGreat
