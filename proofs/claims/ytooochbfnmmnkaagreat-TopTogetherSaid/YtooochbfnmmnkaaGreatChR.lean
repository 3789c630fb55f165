/- The rear joint of a link. -/
import Derived.Test.YtooochbfnmmnkaaGreatChU
import Derived.Deep.RegionHeld3
namespace Go.Proofs.YtooochbfnmmnkaaGreat
open Go.RowKit Go.Proofs.Gn
attribute [local go_sem] Oper.semAt_some
set_option linter.unusedVariables false
/-- The rear joint: its point, and the error. -/
def BxE (W : World) (b : Nat) : Prop := ∃ p q, Bx W b [p, q]
theorem BxE.up {W V : World} {b : Nat} (h : BxE W b) (u : Up W V) : BxE V b := by obtain ⟨p, q, h⟩ := h; exact ⟨p, q, bx_up h u⟩
/-- What a link's box and its result's box hold while its rear joint is told. -/
def RB (kd le be fr re wi he ma st mo : Int) (A : Option Addr) (n cap : Nat) (jx jy ax ay : Int) (w wx : World) : Prop := Bx wx w.heap.size [.int .i64 kd, .int .i64 le, .int .i64 be, .int .i64 fr, .int .i64 re, .int .i64 wi, .int .i64 he, .int .i64 ma, .int .i64 st, .int .i64 mo, .slice A n cap, .int .i64 jx, .int .i64 jy, .int .i64 ax, .int .i64 ay] ∧ BxE wx (w.heap.size + 1) ∧ Up w wx
theorem RB.up {kd le be fr re wi he ma st mo : Int} {A : Option Addr} {n cap : Nat} {jx jy ax ay : Int} {w wx wy : World} (h : RB kd le be fr re wi he ma st mo A n cap jx jy ax ay w wx) (u : Up wx wy) : RB kd le be fr re wi he ma st mo A n cap jx jy ax ay w wy := ⟨bx_up h.1 u, h.2.1.up u, up_trans h.2.2 u⟩
theorem BxE.set {W : World} {b : Nat} (h : BxE W b) (i : Nat) (v : Value) : BxE (W.setCell ⟨b, i, none⟩ v) b := by
  obtain ⟨p, q, h⟩ := h
  have t := bx_set h i v
  match i with
  | 0 => exact ⟨_, _, t⟩
  | 1 => exact ⟨_, _, t⟩
  | i + 2 => exact ⟨_, _, t⟩
theorem RB.set {kd le be fr re wi he ma st mo : Int} {A : Option Addr} {n cap : Nat} {jx jy ax ay : Int} {w wx : World} (h : RB kd le be fr re wi he ma st mo A n cap jx jy ax ay w wx) (i : Nat) (v : Value) : RB kd le be fr re wi he ma st mo A n cap jx jy ax ay w (wx.setCell ⟨w.heap.size + 1, i, none⟩ v) := ⟨bx_far h.1 (by simp) v, h.2.1.set i v, up_set h.2.2 (by simp) v⟩
theorem RB.cells {kd le be fr re wi he ma st mo : Int} {A : Option Addr} {n cap : Nat} {jx jy ax ay : Int} {w wx : World} (h : RB kd le be fr re wi he ma st mo A n cap jx jy ax ay w wx) : wx.cell? ⟨w.heap.size, 0, none⟩ = some (.int .i64 kd) ∧ wx.cell? ⟨w.heap.size, 1, none⟩ = some (.int .i64 le) ∧ wx.cell? ⟨w.heap.size, 2, none⟩ = some (.int .i64 be) ∧ wx.cell? ⟨w.heap.size, 3, none⟩ = some (.int .i64 fr) ∧ wx.cell? ⟨w.heap.size, 4, none⟩ = some (.int .i64 re) ∧ wx.cell? ⟨w.heap.size, 5, none⟩ = some (.int .i64 wi) ∧ wx.cell? ⟨w.heap.size, 6, none⟩ = some (.int .i64 he) ∧ wx.cell? ⟨w.heap.size, 7, none⟩ = some (.int .i64 ma) ∧ wx.cell? ⟨w.heap.size, 8, none⟩ = some (.int .i64 st) ∧ wx.cell? ⟨w.heap.size, 9, none⟩ = some (.int .i64 mo) ∧ wx.cell? ⟨w.heap.size, 10, none⟩ = some (.slice A n cap) ∧ wx.cell? ⟨w.heap.size, 11, none⟩ = some (.int .i64 jx) ∧ wx.cell? ⟨w.heap.size, 12, none⟩ = some (.int .i64 jy) ∧ wx.cell? ⟨w.heap.size, 13, none⟩ = some (.int .i64 ax) ∧ wx.cell? ⟨w.heap.size, 14, none⟩ = some (.int .i64 ay) ∧ RB kd le be fr re wi he ma st mo A n cap jx jy ax ay w wx := ⟨(h.1 0 _ rfl).1, (h.1 1 _ rfl).1, (h.1 2 _ rfl).1, (h.1 3 _ rfl).1, (h.1 4 _ rfl).1, (h.1 5 _ rfl).1, (h.1 6 _ rfl).1, (h.1 7 _ rfl).1, (h.1 8 _ rfl).1, (h.1 9 _ rfl).1, (h.1 10 _ rfl).1, (h.1 11 _ rfl).1, (h.1 12 _ rfl).1, (h.1 13 _ rfl).1, (h.1 14 _ rfl).1, h⟩
/-- The rear joint. -/
def rrR (le st be jx jy ax ay : Int) : (Int × Int) × Int := plR jx jy ax ay (rxL le st be) 0
set_option maxRecDepth 100000 in
set_option maxHeartbeats 4000000 in
theorem p_lrear (kd le be fr re wi he ma st mo : Int) (A : Option Addr) (n cap : Nat) (jx jy ax ay : Int) (w : World) (hl : 100 ≤ le ∧ le ≤ 131072) (hs : 0 ≤ st ∧ st ≤ 900) (hb : -le ≤ be ∧ be ≤ 131072) :
    Calls Tryz.prog 69 #[lkA kd le be fr re wi he ma st mo A n cap jx jy ax ay] w fun e w' => e = .returned (.tuple #[pt (rrR le st be jx jy ax ay).1.1 (rrR le st be jx jy ax ay).1.2, .int .i64 (rrR le st be jx jy ax ay).2]) ∧ Up w w' := by
  have H1 := fun W => p_rearX kd le be fr re wi he ma st mo A n cap W hl hs hb
  have H2 := fun W => p_lplace kd le be fr re wi he ma st mo A n cap jx jy ax ay (rxL le st be) 0 W
  unfold rrR
  obtain ⟨X, hX⟩ : ∃ X, (plR jx jy ax ay (rxL le st be) 0).1.1 = X := ⟨_, rfl⟩
  obtain ⟨Y, hY⟩ : ∃ X, (plR jx jy ax ay (rxL le st be) 0).1.2 = X := ⟨_, rfl⟩
  obtain ⟨E, hE⟩ : ∃ X, (plR jx jy ax ay (rxL le st be) 0).2 = X := ⟨_, rfl⟩
  obtain ⟨R, hR⟩ : ∃ X, rxL le st be = X := ⟨_, rfl⟩
  rw [hX, hY, hE] at H2
  rw [hX, hY, hE]
  rw [hR] at H1 H2
  clear hX hY hE hR hl hs hb
  go_enter Tryz.func69, Tryz.ntmps69
  go_upto_region 1 with fail
  refine at_wpC (fun W hW => ?_)
  have U : Up w W := by rw [hW]; exact (by repeat' (first | (with_reducible exact up_refl _) | (with_reducible assumption) | (with_reducible refine up_alloc ?_ _) | (with_reducible refine up_drewN ?_ _) | (with_reducible refine up_drew ?_) | (with_reducible refine up_set ?_ (by first | (simp; done) | (simp; omega) | omega) _) | (refine up_trans ?_ (by with_reducible assumption))))
  have m6 : Bx W (w.heap.size + 1) [.int .i64 0, .int .i64 0] := by
    rw [hW]
    have t := bx_new (w.alloc (.cells #[.int .i64 kd, .int .i64 le, .int .i64 be, .int .i64 fr, .int .i64 re, .int .i64 wi, .int .i64 he, .int .i64 ma, .int .i64 st, .int .i64 mo, .slice A n cap, .int .i64 jx, .int .i64 jy, .int .i64 ax, .int .i64 ay] 139)) [.int .i64 0, .int .i64 0] 43
    rw [World.size_alloc] at t
    exact t
  have m3 : Bx W w.heap.size [.int .i64 kd, .int .i64 le, .int .i64 be, .int .i64 fr, .int .i64 re, .int .i64 wi, .int .i64 he, .int .i64 ma, .int .i64 st, .int .i64 mo, .slice A n cap, .int .i64 jx, .int .i64 jy, .int .i64 ax, .int .i64 ay] := by rw [hW]; exact bx_alloc (bx_new w _ _) _
  clear hW
  have H0 : RB kd le be fr re wi he ma st mo A n cap jx jy ax ay w W := ⟨m3, ⟨_, _, m6⟩, U⟩
  have HX := hide H1
  have HY := hide H2
  clear H1 H2 m3 m6 U
  go_region_held3 (fun wx => wx.cell? ⟨w.heap.size, 0, none⟩ = some (.int .i64 kd) ∧ wx.cell? ⟨w.heap.size, 1, none⟩ = some (.int .i64 le) ∧ wx.cell? ⟨w.heap.size, 2, none⟩ = some (.int .i64 be) ∧ wx.cell? ⟨w.heap.size, 3, none⟩ = some (.int .i64 fr) ∧ wx.cell? ⟨w.heap.size, 4, none⟩ = some (.int .i64 re) ∧ wx.cell? ⟨w.heap.size, 5, none⟩ = some (.int .i64 wi) ∧ wx.cell? ⟨w.heap.size, 6, none⟩ = some (.int .i64 he) ∧ wx.cell? ⟨w.heap.size, 7, none⟩ = some (.int .i64 ma) ∧ wx.cell? ⟨w.heap.size, 8, none⟩ = some (.int .i64 st) ∧ wx.cell? ⟨w.heap.size, 9, none⟩ = some (.int .i64 mo) ∧ wx.cell? ⟨w.heap.size, 10, none⟩ = some (.slice A n cap) ∧ wx.cell? ⟨w.heap.size, 11, none⟩ = some (.int .i64 jx) ∧ wx.cell? ⟨w.heap.size, 12, none⟩ = some (.int .i64 jy) ∧ wx.cell? ⟨w.heap.size, 13, none⟩ = some (.int .i64 ax) ∧ wx.cell? ⟨w.heap.size, 14, none⟩ = some (.int .i64 ay) ∧ RB kd le be fr re wi he ma st mo A n cap jx jy ax ay w wx) ((go_split_ands; first | exact RB.cells (by with_reducible assumption) | exact RB.cells (RB.set (RB.set (by with_reducible assumption) _ _) _ _) | exact RB.cells (RB.up H0 (by repeat' (first | (with_reducible exact up_refl _) | (with_reducible assumption) | (with_reducible refine up_alloc ?_ _) | (with_reducible refine up_drewN ?_ _) | (with_reducible refine up_drew ?_) | (with_reducible refine up_set ?_ (by first | (simp; done) | (simp; omega) | omega) _) | (refine up_trans ?_ (by with_reducible assumption)))))))
    (first
      | (go_at_call 71; (with_reducible refine (unhide HX _).mono ?_); rintro e w2 ⟨rfl, hb2⟩)
      | (go_at_call 70; (with_reducible refine (unhide HY _).mono ?_); rintro e w3 ⟨rfl, hb3⟩; go_split_ands; have hR3 : RB kd le be fr re wi he ma st mo A n cap jx jy ax ay w w3 := RB.up (by assumption) hb3; obtain ⟨pp, qq, hE⟩ := hR3.2.1; have a0 := (hE 0 _ rfl).1; have f0 := (hE 0 _ rfl).2; have a1 := (hE 1 _ rfl).1; have f1 := (hE 1 _ rfl).2; clear hE))
  have hR9 := RB.set (RB.set hR3 0 (.int .i64 X)) 1 (.int .i64 Y)
  have B9 := bx_set (bx_set (mk_bx2 a0 a1 f0 f1) 0 (.int .i64 X)) 1 (.int .i64 Y)
  generalize (w3.setCell ⟨w.heap.size + 1, 0, none⟩ (.int .i64 X)).setCell ⟨w.heap.size + 1, 1, none⟩ (.int .i64 Y) = W9 at *
  have z0 := (B9 0 _ rfl).1
  have z1 := (B9 1 _ rfl).1
  simp only [Exit.then]
  apply ‹∀ (a : Act) (w : World), _ → _›
  apply wp_ret
  show bodyPost Tryz.prog Tryz.f69 (fun e w' => e = .returned (.tuple #[pt X Y, .int .i64 E]) ∧ Up w w') .ret _ _
  exact bodyPost_ret (v := .tuple #[pt X Y, .int .i64 E]) (by simp [results, Tryz.f69, go_sem, z0, z1]) rfl ⟨rfl, hR9.2.2⟩
end Go.Proofs.YtooochbfnmmnkaaGreat
