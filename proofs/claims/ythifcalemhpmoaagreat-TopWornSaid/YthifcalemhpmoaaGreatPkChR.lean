/- The rear joint of a link. Units where they are: pulled lengths, and places of links. -/
import Derived.Test.YthifcalemhpmoaaGreatPkVehC
import Derived.Test.YthifcalemhpmoaaGreatPiece
import Derived.Test.YthifcalemhpmoaaGreatPkPlace
import Derived.Test.YthifcalemhpmoaaGreatPkLateU
import Derived.Deep.RegionHeld3
namespace Go.Proofs.YthifcalemhpmoaaGreat
open Go.RowKit Go.Proofs.Gn
set_option linter.unusedVariables false
/-- The pulled length of a unit. -/
def puL (le st : Int) : Int := le * (1000 - st) / 1000
def rxL (le st be : Int) : Int := puL le st - le - be
theorem puL_bd {le st : Int} (hl : 100 ≤ le ∧ le ≤ 131072) (hs : 0 ≤ st ∧ st ≤ 900) : (0 ≤ le * (1000 - st) ∧ le * (1000 - st) ≤ 131072000) ∧ 10 ≤ puL le st ∧ puL le st ≤ le := by
  have a : 0 ≤ le * (1000 - st) := Int.mul_nonneg (by omega) (by omega)
  have b : le * (1000 - st) ≤ le * 1000 := Int.mul_le_mul_of_nonneg_left (by omega) (by omega)
  have c : le * 100 ≤ le * (1000 - st) := Int.mul_le_mul_of_nonneg_left (by omega) (by omega)
  unfold puL
  refine ⟨by omega, ?_, ?_⟩
  · exact (Int.le_ediv_iff_mul_le (by omega)).2 (by omega)
  · have : le * (1000 - st) / 1000 < le + 1 := Int.ediv_lt_of_lt_mul (by omega) (by omega)
    omega
theorem szU_ok {kd le be fr re wi he ma st mo : Int} (h : szU kd le be fr re wi he ma st mo = true) : (100 ≤ le ∧ le ≤ 131072) ∧ (-le ≤ be ∧ be ≤ 131072) ∧ (0 ≤ st ∧ st ≤ 900) ∧ (0 ≤ fr ∧ fr ≤ 131072) ∧ (0 ≤ re ∧ re ≤ 131072) ∧ (1 ≤ ma ∧ ma ≤ 1048576) := by
  unfold szU at h
  simp only [Bool.and_eq_true] at h
  obtain ⟨_, h1, h2, h3, h4, _, _, h7, h8, _⟩ := h
  exact ⟨win_t h1, win_t h2, win_t h8, win_t h3, win_t h4, win_t h7⟩
set_option maxRecDepth 100000 in
theorem p_pulled (kd le be fr re wi he ma st mo : Int) (A : Option Addr) (n cap : Nat) (w : World) (hl : 100 ≤ le ∧ le ≤ 131072) (hs : 0 ≤ st ∧ st ≤ 900) :
    Calls Tryz.prog 45 #[uV kd le be fr re wi he ma st mo A n cap] w fun e w' => e = .returned (.int .i64 (puL le st)) ∧ Up w w' := by
  obtain ⟨b1, b2, b3⟩ := puL_bd hl hs
  have w1 : IntKind.i64.wrap (1000 - st) = 1000 - st := IntWalk.i64_in _ ⟨by omega, by omega⟩
  have w2 : IntKind.i64.wrap (le * (1000 - st)) = le * (1000 - st) := IntWalk.i64_in _ ⟨by omega, by omega⟩
  have e1 : (le * (1000 - st)).tdiv 1000 = puL le st := by unfold puL; exact Int.tdiv_eq_ediv_of_nonneg (by omega)
  have w3 : IntKind.i64.wrap ((le * (1000 - st)).tdiv 1000) = puL le st := by rw [e1]; exact IntWalk.i64_in _ ⟨by omega, by omega⟩
  have e2 : le * (1000 - st) / 1000 = puL le st := rfl
  have w4 : IntKind.i64.wrap (le * (1000 - st) / 1000) = puL le st := by rw [e2]; exact IntWalk.i64_in _ ⟨by omega, by omega⟩
  have w5 : wrap64 (puL le st) = puL le st := IntWalk.wrap64_in _ ⟨by omega, by omega⟩
  clear e2
  generalize puL le st = P at *
  clear b1 b2 b3 hl hs
  go_enter Tryz.func45, Tryz.ntmps45
  go_wp2
  go_ret
  exact ⟨by first | rfl | (rw [w5]; rfl) | (rw [w3]; rfl) | (rw [e1]; rfl) | (rw [w4]; rfl), (by repeat' (first | (with_reducible exact up_refl _) | (with_reducible assumption) | (with_reducible refine up_alloc ?_ _) | (with_reducible refine up_drewN ?_ _) | (with_reducible refine up_drew ?_) | (with_reducible refine up_set ?_ (by first | (simp; done) | (simp; omega) | omega) _) | (refine up_trans ?_ (by with_reducible assumption))))⟩
theorem at_wpC {c : Code} {Q : Exit → Act → World → Prop} {a : Act} {w : World} (h : ∀ W, W = w → Code.wp Tryz.prog c Q a W) : Code.wp Tryz.prog c Q a w := h w rfl
theorem bx11 {W : World} {b : Nat} {v0 v1 v2 v3 v4 v5 v6 v7 v8 v9 v10 : Value} (h : Bx W b [v0, v1, v2, v3, v4, v5, v6, v7, v8, v9, v10]) : W.cell? ⟨b, 0, none⟩ = some v0 ∧ W.cell? ⟨b, 1, none⟩ = some v1 ∧ W.cell? ⟨b, 2, none⟩ = some v2 ∧ W.cell? ⟨b, 3, none⟩ = some v3 ∧ W.cell? ⟨b, 4, none⟩ = some v4 ∧ W.cell? ⟨b, 5, none⟩ = some v5 ∧ W.cell? ⟨b, 6, none⟩ = some v6 ∧ W.cell? ⟨b, 7, none⟩ = some v7 ∧ W.cell? ⟨b, 8, none⟩ = some v8 ∧ W.cell? ⟨b, 9, none⟩ = some v9 ∧ W.cell? ⟨b, 10, none⟩ = some v10 :=
  ⟨(h 0 _ rfl).1, (h 1 _ rfl).1, (h 2 _ rfl).1, (h 3 _ rfl).1, (h 4 _ rfl).1, (h 5 _ rfl).1, (h 6 _ rfl).1, (h 7 _ rfl).1, (h 8 _ rfl).1, (h 9 _ rfl).1, (h 10 _ rfl).1⟩
theorem bx11q {W : World} {b : Nat} {v0 v1 v2 v3 v4 v5 v6 v7 v8 v9 v10 : Value} {l : List Value} (h : Bx W b (v0 :: v1 :: v2 :: v3 :: v4 :: v5 :: v6 :: v7 :: v8 :: v9 :: v10 :: l)) : (∀ q : UpW W, q.v.cell? ⟨b, 0, none⟩ = some v0) ∧ (∀ q : UpW W, q.v.cell? ⟨b, 1, none⟩ = some v1) ∧ (∀ q : UpW W, q.v.cell? ⟨b, 2, none⟩ = some v2) ∧ (∀ q : UpW W, q.v.cell? ⟨b, 3, none⟩ = some v3) ∧ (∀ q : UpW W, q.v.cell? ⟨b, 4, none⟩ = some v4) ∧ (∀ q : UpW W, q.v.cell? ⟨b, 5, none⟩ = some v5) ∧ (∀ q : UpW W, q.v.cell? ⟨b, 6, none⟩ = some v6) ∧ (∀ q : UpW W, q.v.cell? ⟨b, 7, none⟩ = some v7) ∧ (∀ q : UpW W, q.v.cell? ⟨b, 8, none⟩ = some v8) ∧ (∀ q : UpW W, q.v.cell? ⟨b, 9, none⟩ = some v9) ∧ (∀ q : UpW W, q.v.cell? ⟨b, 10, none⟩ = some v10) :=
  ⟨fun q => (bx_up h q.up 0 _ rfl).1, fun q => (bx_up h q.up 1 _ rfl).1, fun q => (bx_up h q.up 2 _ rfl).1, fun q => (bx_up h q.up 3 _ rfl).1, fun q => (bx_up h q.up 4 _ rfl).1, fun q => (bx_up h q.up 5 _ rfl).1, fun q => (bx_up h q.up 6 _ rfl).1, fun q => (bx_up h q.up 7 _ rfl).1, fun q => (bx_up h q.up 8 _ rfl).1, fun q => (bx_up h q.up 9 _ rfl).1, fun q => (bx_up h q.up 10 _ rfl).1⟩
set_option maxRecDepth 100000 in
theorem p_rearX (kd le be fr re wi he ma st mo : Int) (A : Option Addr) (n cap : Nat) (w : World) (hl : 100 ≤ le ∧ le ≤ 131072) (hs : 0 ≤ st ∧ st ≤ 900) (hb : -le ≤ be ∧ be ≤ 131072) :
    Calls Tryz.prog 84 #[uV kd le be fr re wi he ma st mo A n cap] w fun e w' => e = .returned (.int .i64 (rxL le st be)) ∧ Up w w' := by
  obtain ⟨b1, b2, b3⟩ := puL_bd hl hs
  have H := hide (fun W => p_pulled kd le be fr re wi he ma st mo A n cap W hl hs)
  unfold rxL
  have w1 : IntKind.i64.wrap (puL le st - le) = puL le st - le := IntWalk.i64_in _ ⟨by omega, by omega⟩
  have w2 : IntKind.i64.wrap (puL le st - le - be) = puL le st - le - be := IntWalk.i64_in _ ⟨by omega, by omega⟩
  generalize puL le st = P at *
  clear b1 b2 b3 hl hs hb
  go_enter Tryz.func84, Tryz.ntmps84
  go_upto_region 1 with fail
  refine at_wpC (fun W hW => ?_)
  have hB : Bx W w.heap.size [.int .i64 kd, .int .i64 le, .int .i64 be, .int .i64 fr, .int .i64 re, .int .i64 wi, .int .i64 he, .int .i64 ma, .int .i64 st, .int .i64 mo, .slice A n cap] := by rw [hW]; exact bx_new w _ _
  have U : Up w W := by rw [hW]; exact (by repeat' (first | (with_reducible exact up_refl _) | (with_reducible assumption) | (with_reducible refine up_alloc ?_ _) | (with_reducible refine up_drewN ?_ _) | (with_reducible refine up_drew ?_) | (with_reducible refine up_set ?_ (by first | (simp; done) | (simp; omega) | omega) _) | (refine up_trans ?_ (by with_reducible assumption))))
  clear hW
  obtain ⟨n0, n1, n2, n3, n4, n5, n6, n7, n8, n9, n10⟩ := bx11q hB
  clear hB
  refine wp_upq (by kernel_rfl) (by kernel_rfl) ?_; (repeat (go_big_quiet_step (exact upq (unhide H _)))); refine wpQuiet_nil ?_; intro _ hw'; obtain ⟨pq, hw''⟩ := hw'; subst hw''; have hpq := pq.up
  go_wp2_with fail
  go_ret
  exact ⟨rfl, up_trans U hpq⟩
/-- What a place of a link is: its point, and the error. -/
def plR (jx jy ax ay x y : Int) : (Int × Int) × Int := ((lkV (okp ax ay && okp jx jy) (okc x && okc y) (cV ax ay jx jy x y (plX ax ay jx jy x y)), lkV (okp ax ay && okp jx jy) (okc x && okc y) (cV ax ay jx jy x y (plY ax ay jx jy x y))), lkE (okp ax ay && okp jx jy) (okc x && okc y) (cE ax ay jx jy x y))
abbrev lkA (kd le be fr re wi he ma st mo : Int) (A : Option Addr) (n cap : Nat) (jx jy ax ay : Int) : Value := .agg #[.int .i64 kd, .int .i64 le, .int .i64 be, .int .i64 fr, .int .i64 re, .int .i64 wi, .int .i64 he, .int .i64 ma, .int .i64 st, .int .i64 mo, .slice A n cap, .int .i64 jx, .int .i64 jy, .int .i64 ax, .int .i64 ay]
set_option maxRecDepth 100000 in
set_option maxHeartbeats 2000000 in
theorem p_lplace (kd le be fr re wi he ma st mo : Int) (A : Option Addr) (n cap : Nat) (jx jy ax ay x y : Int) (w : World) :
    Calls Tryz.prog 83 #[lkA kd le be fr re wi he ma st mo A n cap jx jy ax ay, .int .i64 x, .int .i64 y] w fun e w' => e = .returned (.tuple #[pt (plR jx jy ax ay x y).1.1 (plR jx jy ax ay x y).1.2, .int .i64 (plR jx jy ax ay x y).2]) ∧ Up w w' := by
  have H := hide (fun W => (show Calls Tryz.prog 117 #[pt ax ay, pt jx jy, .int .i64 x, .int .i64 y] W fun e w' => e = .returned (.tuple #[pt (plR jx jy ax ay x y).1.1 (plR jx jy ax ay x y).1.2, .int .i64 (plR jx jy ax ay x y).2]) ∧ Up W w' from p_Place ax ay jx jy x y W))
  obtain ⟨X, hX⟩ : ∃ X, (plR jx jy ax ay x y).1.1 = X := ⟨_, rfl⟩
  obtain ⟨Y, hY⟩ : ∃ X, (plR jx jy ax ay x y).1.2 = X := ⟨_, rfl⟩
  obtain ⟨E, hE⟩ : ∃ X, (plR jx jy ax ay x y).2 = X := ⟨_, rfl⟩
  rw [hX, hY, hE] at H
  rw [hX, hY, hE]
  clear hX hY hE
  go_enter Tryz.func83, Tryz.ntmps83
  go_upto_region 1 with fail
  refine at_wpC (fun W hW => ?_)
  have U : Up w W := by rw [hW]; exact (by repeat' (first | (with_reducible exact up_refl _) | (with_reducible assumption) | (with_reducible refine up_alloc ?_ _) | (with_reducible refine up_drewN ?_ _) | (with_reducible refine up_drew ?_) | (with_reducible refine up_set ?_ (by first | (simp; done) | (simp; omega) | omega) _) | (refine up_trans ?_ (by with_reducible assumption))))
  have m6 : Bx W (w.heap.size + 1) [.int .i64 0, .int .i64 0] := by
    rw [hW]
    have t := bx_new (w.alloc (.cells #[.int .i64 kd, .int .i64 le, .int .i64 be, .int .i64 fr, .int .i64 re, .int .i64 wi, .int .i64 he, .int .i64 ma, .int .i64 st, .int .i64 mo, .slice A n cap, .int .i64 jx, .int .i64 jy, .int .i64 ax, .int .i64 ay] 153)) [.int .i64 0, .int .i64 0] 62
    rw [World.size_alloc] at t
    exact t
  have m3 : Bx W w.heap.size [.int .i64 kd, .int .i64 le, .int .i64 be, .int .i64 fr, .int .i64 re, .int .i64 wi, .int .i64 he, .int .i64 ma, .int .i64 st, .int .i64 mo, .slice A n cap, .int .i64 jx, .int .i64 jy, .int .i64 ax, .int .i64 ay] := by rw [hW]; exact bx_alloc (bx_new w _ _) _
  have j0 := (m3 11 _ rfl).1
  have j1 := (m3 12 _ rfl).1
  have j2 := (m3 13 _ rfl).1
  have j3 := (m3 14 _ rfl).1
  clear hW m3
  go_wp2_with (go_at_call 117; (with_reducible refine (unhide H _).mono ?_); rintro e w1 ⟨rfl, hu1⟩; have q6 := bx_up m6 hu1; have a0 := (q6 0 _ rfl).1; have f0 := (q6 0 _ rfl).2; have a1 := (q6 1 _ rfl).1; have f1 := (q6 1 _ rfl).2; have U1 := up_trans U hu1)
  have B9 := bx_set (bx_set q6 0 (.int .i64 X)) 1 (.int .i64 Y)
  have U9 : Up w ((w1.setCell ⟨w.heap.size + 1, 0, none⟩ (.int .i64 X)).setCell ⟨w.heap.size + 1, 1, none⟩ (.int .i64 Y)) := up_set (up_set U1 (by simp only; omega) _) (by simp only; omega) _
  generalize (w1.setCell ⟨w.heap.size + 1, 0, none⟩ (.int .i64 X)).setCell ⟨w.heap.size + 1, 1, none⟩ (.int .i64 Y) = W9 at *
  have z0 := (B9 0 _ rfl).1
  have z1 := (B9 1 _ rfl).1
  (try simp only [Exit.inBlock, Exit.then])
  refine bodyPost_ret (v := .tuple #[pt X Y, .int .i64 E]) (by simp [results, Tryz.results83, go_sem, z0, z1]) rfl ?_
  exact ⟨rfl, U9⟩
end Go.Proofs.YthifcalemhpmoaaGreat
namespace Go.Proofs.YthifcalemhpmoaaGreat
open Go.RowKit Go.Proofs.Gn
attribute [local go_sem] Oper.semAt_some
set_option linter.unusedVariables false
/-- The rear joint: its point, and the error. -/
def BxE (W : World) (b : Nat) : Prop := ∃ p q, Bx W b [p, q]
theorem BxE.up {W V : World} {b : Nat} (h : BxE W b) (u : Up W V) : BxE V b := by obtain ⟨p, q, h⟩ := h; exact ⟨p, q, bx_up h u⟩
/-- What a link's box and its result's box hold while its rear joint is told. -/
def RB (kd le be fr re wi he ma st mo : Int) (A : Option Addr) (n cap : Nat) (jx jy ax ay : Int) (w wx : World) : Prop := Bx wx w.heap.size [.int .i64 kd, .int .i64 le, .int .i64 be, .int .i64 fr, .int .i64 re, .int .i64 wi, .int .i64 he, .int .i64 ma, .int .i64 st, .int .i64 mo, .slice A n cap, .int .i64 jx, .int .i64 jy, .int .i64 ax, .int .i64 ay] ∧ BxE wx (w.heap.size + 1) ∧ Up w wx
theorem RB.up {kd le be fr re wi he ma st mo : Int} {A : Option Addr} {n cap : Nat} {jx jy ax ay : Int} {w wx wy : World} (h : RB kd le be fr re wi he ma st mo A n cap jx jy ax ay w wx) (u : Up wx wy) : RB kd le be fr re wi he ma st mo A n cap jx jy ax ay w wy := ⟨bx_up h.1 u, h.2.1.up u, up_trans h.2.2 u⟩
theorem BxE.set {W : World} {b : Nat} (h : BxE W b) (i : Nat) (v : Value) : BxE (W.setCell ⟨b, i, none⟩ v) b := by
  obtain ⟨p, q, h⟩ := h
  have t := bx_set h i v
  match i with
  | 0 => exact ⟨_, _, t⟩
  | 1 => exact ⟨_, _, t⟩
  | i + 2 => exact ⟨_, _, t⟩
theorem RB.set {kd le be fr re wi he ma st mo : Int} {A : Option Addr} {n cap : Nat} {jx jy ax ay : Int} {w wx : World} (h : RB kd le be fr re wi he ma st mo A n cap jx jy ax ay w wx) (i : Nat) (v : Value) : RB kd le be fr re wi he ma st mo A n cap jx jy ax ay w (wx.setCell ⟨w.heap.size + 1, i, none⟩ v) := ⟨bx_far h.1 (by simp) v, h.2.1.set i v, up_set h.2.2 (by simp) v⟩
theorem RB.cells {kd le be fr re wi he ma st mo : Int} {A : Option Addr} {n cap : Nat} {jx jy ax ay : Int} {w wx : World} (h : RB kd le be fr re wi he ma st mo A n cap jx jy ax ay w wx) : wx.cell? ⟨w.heap.size, 0, none⟩ = some (.int .i64 kd) ∧ wx.cell? ⟨w.heap.size, 1, none⟩ = some (.int .i64 le) ∧ wx.cell? ⟨w.heap.size, 2, none⟩ = some (.int .i64 be) ∧ wx.cell? ⟨w.heap.size, 3, none⟩ = some (.int .i64 fr) ∧ wx.cell? ⟨w.heap.size, 4, none⟩ = some (.int .i64 re) ∧ wx.cell? ⟨w.heap.size, 5, none⟩ = some (.int .i64 wi) ∧ wx.cell? ⟨w.heap.size, 6, none⟩ = some (.int .i64 he) ∧ wx.cell? ⟨w.heap.size, 7, none⟩ = some (.int .i64 ma) ∧ wx.cell? ⟨w.heap.size, 8, none⟩ = some (.int .i64 st) ∧ wx.cell? ⟨w.heap.size, 9, none⟩ = some (.int .i64 mo) ∧ wx.cell? ⟨w.heap.size, 10, none⟩ = some (.slice A n cap) ∧ wx.cell? ⟨w.heap.size, 11, none⟩ = some (.int .i64 jx) ∧ wx.cell? ⟨w.heap.size, 12, none⟩ = some (.int .i64 jy) ∧ wx.cell? ⟨w.heap.size, 13, none⟩ = some (.int .i64 ax) ∧ wx.cell? ⟨w.heap.size, 14, none⟩ = some (.int .i64 ay) ∧ RB kd le be fr re wi he ma st mo A n cap jx jy ax ay w wx := ⟨(h.1 0 _ rfl).1, (h.1 1 _ rfl).1, (h.1 2 _ rfl).1, (h.1 3 _ rfl).1, (h.1 4 _ rfl).1, (h.1 5 _ rfl).1, (h.1 6 _ rfl).1, (h.1 7 _ rfl).1, (h.1 8 _ rfl).1, (h.1 9 _ rfl).1, (h.1 10 _ rfl).1, (h.1 11 _ rfl).1, (h.1 12 _ rfl).1, (h.1 13 _ rfl).1, (h.1 14 _ rfl).1, h⟩
/-- The rear joint. -/
def rrR (le st be jx jy ax ay : Int) : (Int × Int) × Int := plR jx jy ax ay (rxL le st be) 0
set_option maxRecDepth 100000 in
set_option maxHeartbeats 4000000 in
theorem p_lrear (kd le be fr re wi he ma st mo : Int) (A : Option Addr) (n cap : Nat) (jx jy ax ay : Int) (w : World) (hl : 100 ≤ le ∧ le ≤ 131072) (hs : 0 ≤ st ∧ st ≤ 900) (hb : -le ≤ be ∧ be ≤ 131072) :
    Calls Tryz.prog 82 #[lkA kd le be fr re wi he ma st mo A n cap jx jy ax ay] w fun e w' => e = .returned (.tuple #[pt (rrR le st be jx jy ax ay).1.1 (rrR le st be jx jy ax ay).1.2, .int .i64 (rrR le st be jx jy ax ay).2]) ∧ Up w w' := by
  have H1 := fun W => p_rearX kd le be fr re wi he ma st mo A n cap W hl hs hb
  have H2 := fun W => p_lplace kd le be fr re wi he ma st mo A n cap jx jy ax ay (rxL le st be) 0 W
  unfold rrR
  obtain ⟨X, hX⟩ : ∃ X, (plR jx jy ax ay (rxL le st be) 0).1.1 = X := ⟨_, rfl⟩
  obtain ⟨Y, hY⟩ : ∃ X, (plR jx jy ax ay (rxL le st be) 0).1.2 = X := ⟨_, rfl⟩
  obtain ⟨E, hE⟩ : ∃ X, (plR jx jy ax ay (rxL le st be) 0).2 = X := ⟨_, rfl⟩
  obtain ⟨R, hR⟩ : ∃ X, rxL le st be = X := ⟨_, rfl⟩
  rw [hX, hY, hE] at H2
  rw [hX, hY, hE]
  rw [hR] at H1 H2
  clear hX hY hE hR hl hs hb
  go_enter Tryz.func82, Tryz.ntmps82
  go_upto_region 1 with fail
  refine at_wpC (fun W hW => ?_)
  have U : Up w W := by rw [hW]; exact (by repeat' (first | (with_reducible exact up_refl _) | (with_reducible assumption) | (with_reducible refine up_alloc ?_ _) | (with_reducible refine up_drewN ?_ _) | (with_reducible refine up_drew ?_) | (with_reducible refine up_set ?_ (by first | (simp; done) | (simp; omega) | omega) _) | (refine up_trans ?_ (by with_reducible assumption))))
  have m6 : Bx W (w.heap.size + 1) [.int .i64 0, .int .i64 0] := by
    rw [hW]
    have t := bx_new (w.alloc (.cells #[.int .i64 kd, .int .i64 le, .int .i64 be, .int .i64 fr, .int .i64 re, .int .i64 wi, .int .i64 he, .int .i64 ma, .int .i64 st, .int .i64 mo, .slice A n cap, .int .i64 jx, .int .i64 jy, .int .i64 ax, .int .i64 ay] 153)) [.int .i64 0, .int .i64 0] 62
    rw [World.size_alloc] at t
    exact t
  have m3 : Bx W w.heap.size [.int .i64 kd, .int .i64 le, .int .i64 be, .int .i64 fr, .int .i64 re, .int .i64 wi, .int .i64 he, .int .i64 ma, .int .i64 st, .int .i64 mo, .slice A n cap, .int .i64 jx, .int .i64 jy, .int .i64 ax, .int .i64 ay] := by rw [hW]; exact bx_alloc (bx_new w _ _) _
  clear hW
  have H0 : RB kd le be fr re wi he ma st mo A n cap jx jy ax ay w W := ⟨m3, ⟨_, _, m6⟩, U⟩
  have HX := hide H1
  have HY := hide H2
  clear H1 H2 m3 m6 U
  go_region_held3 (fun wx => wx.cell? ⟨w.heap.size, 0, none⟩ = some (.int .i64 kd) ∧ wx.cell? ⟨w.heap.size, 1, none⟩ = some (.int .i64 le) ∧ wx.cell? ⟨w.heap.size, 2, none⟩ = some (.int .i64 be) ∧ wx.cell? ⟨w.heap.size, 3, none⟩ = some (.int .i64 fr) ∧ wx.cell? ⟨w.heap.size, 4, none⟩ = some (.int .i64 re) ∧ wx.cell? ⟨w.heap.size, 5, none⟩ = some (.int .i64 wi) ∧ wx.cell? ⟨w.heap.size, 6, none⟩ = some (.int .i64 he) ∧ wx.cell? ⟨w.heap.size, 7, none⟩ = some (.int .i64 ma) ∧ wx.cell? ⟨w.heap.size, 8, none⟩ = some (.int .i64 st) ∧ wx.cell? ⟨w.heap.size, 9, none⟩ = some (.int .i64 mo) ∧ wx.cell? ⟨w.heap.size, 10, none⟩ = some (.slice A n cap) ∧ wx.cell? ⟨w.heap.size, 11, none⟩ = some (.int .i64 jx) ∧ wx.cell? ⟨w.heap.size, 12, none⟩ = some (.int .i64 jy) ∧ wx.cell? ⟨w.heap.size, 13, none⟩ = some (.int .i64 ax) ∧ wx.cell? ⟨w.heap.size, 14, none⟩ = some (.int .i64 ay) ∧ RB kd le be fr re wi he ma st mo A n cap jx jy ax ay w wx) ((go_split_ands; first | exact RB.cells (by with_reducible assumption) | exact RB.cells (RB.set (RB.set (by with_reducible assumption) _ _) _ _) | exact RB.cells (RB.up H0 (by repeat' (first | (with_reducible exact up_refl _) | (with_reducible assumption) | (with_reducible refine up_alloc ?_ _) | (with_reducible refine up_drewN ?_ _) | (with_reducible refine up_drew ?_) | (with_reducible refine up_set ?_ (by first | (simp; done) | (simp; omega) | omega) _) | (refine up_trans ?_ (by with_reducible assumption)))))))
    (first
      | (go_at_call 84; (with_reducible refine (unhide HX _).mono ?_); rintro e w2 ⟨rfl, hb2⟩)
      | (go_at_call 83; (with_reducible refine (unhide HY _).mono ?_); rintro e w3 ⟨rfl, hb3⟩; go_split_ands; have hR3 : RB kd le be fr re wi he ma st mo A n cap jx jy ax ay w w3 := RB.up (by assumption) hb3; obtain ⟨pp, qq, hE⟩ := hR3.2.1; have a0 := (hE 0 _ rfl).1; have f0 := (hE 0 _ rfl).2; have a1 := (hE 1 _ rfl).1; have f1 := (hE 1 _ rfl).2; clear hE))
  have hR9 := RB.set (RB.set hR3 0 (.int .i64 X)) 1 (.int .i64 Y)
  have B9 := bx_set (bx_set (mk_bx2 a0 a1 f0 f1) 0 (.int .i64 X)) 1 (.int .i64 Y)
  generalize (w3.setCell ⟨w.heap.size + 1, 0, none⟩ (.int .i64 X)).setCell ⟨w.heap.size + 1, 1, none⟩ (.int .i64 Y) = W9 at *
  have z0 := (B9 0 _ rfl).1
  have z1 := (B9 1 _ rfl).1
  simp only [Exit.then]
  apply ‹∀ (a : Act) (w : World), _ → _›
  apply wp_ret
  show bodyPost Tryz.prog Tryz.f82 (fun e w' => e = .returned (.tuple #[pt X Y, .int .i64 E]) ∧ Up w w') .ret _ _
  exact bodyPost_ret (v := .tuple #[pt X Y, .int .i64 E]) (by simp [results, Tryz.f82, go_sem, z0, z1]) rfl ⟨rfl, hR9.2.2⟩
end Go.Proofs.YthifcalemhpmoaaGreat
