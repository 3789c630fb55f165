/- The moments of pieces: the program's. Where a piece ends: the program's. -/
import Derived.Test.YtdehnokcjnbjoaaGreatPcs
import Derived.Test.YtdehnokcjnbjoaaGreatPlat
import Derived.StillTailTactics
namespace Go.Proofs.YtdehnokcjnbjoaaGreat
open Go.RowKit Go.Proofs.Gn
theorem bxm2 (W : World) (v1 v2 : List Value) (t1 t2 : TypeId) : Bx ((W.alloc (.cells v1.toArray t1)).alloc (.cells v2.toArray t2)) W.heap.size v1 ∧ Bx ((W.alloc (.cells v1.toArray t1)).alloc (.cells v2.toArray t2)) (W.heap.size + 1) v2 := by
  refine ⟨bx_alloc (bx_new W v1 t1) _, ?_⟩
  have := bx_new (W.alloc (.cells v1.toArray t1)) v2 t2
  rwa [sz1] at this
theorem bxm3 (W : World) (v1 v2 v3 : List Value) (t1 t2 t3 : TypeId) :
    Bx (((W.alloc (.cells v1.toArray t1)).alloc (.cells v2.toArray t2)).alloc (.cells v3.toArray t3)) W.heap.size v1 ∧ Bx (((W.alloc (.cells v1.toArray t1)).alloc (.cells v2.toArray t2)).alloc (.cells v3.toArray t3)) (W.heap.size + 1) v2 ∧ Bx (((W.alloc (.cells v1.toArray t1)).alloc (.cells v2.toArray t2)).alloc (.cells v3.toArray t3)) (W.heap.size + 1 + 1) v3 := by
  refine ⟨bx_alloc (bx_alloc (bx_new W v1 t1) _) _, ?_, ?_⟩
  · have := bx_new (W.alloc (.cells v1.toArray t1)) v2 t2
    rw [sz1] at this
    exact bx_alloc this _
  · have := bx_new ((W.alloc (.cells v1.toArray t1)).alloc (.cells v2.toArray t2)) v3 t3
    rw [sz1, sz1] at this
    exact this
set_option maxRecDepth 100000 in
set_option maxHeartbeats 4000000 in
theorem p_ends {x y z l wd h m : Int} (hp : okPp ⟨x, y, z, l, wd, h, m⟩) (w : World) :
    Calls Tryz.prog 64 #[.agg #[.int .i64 x, .int .i64 y, .int .i64 z, .int .i64 l, .int .i64 wd, .int .i64 h, .int .i64 m]] w fun e w' => e = .returned (.tuple #[.agg #[.int .i64 x, .int .i64 y, .int .i64 z], .agg #[.int .i64 (x + l), .int .i64 (y + wd), .int .i64 (z + h)]]) ∧ Up w w' := by
  unfold okPp at hp
  simp only at hp
  have hx : IntKind.i64.wrap (x + l) = x + l := IntWalk.i64_in _ ⟨by omega, by omega⟩
  have hy : IntKind.i64.wrap (y + wd) = y + wd := IntWalk.i64_in _ ⟨by omega, by omega⟩
  have hz : IntKind.i64.wrap (z + h) = z + h := IntWalk.i64_in _ ⟨by omega, by omega⟩
  clear hp
  go_enter Tryz.func64, Tryz.ntmps64
  go_upto_region 1 with fail
  refine at_wp (fun W0 hW0 => ?_)
  have t3 := bxm3 w [.int .i64 x, .int .i64 y, .int .i64 z, .int .i64 l, .int .i64 wd, .int .i64 h, .int .i64 m] [.int .i64 0, .int .i64 0, .int .i64 0] [.int .i64 0, .int .i64 0, .int .i64 0] 75 31 31
  have U0 : Up w W0 := by rw [hW0]; exact (by repeat' (first | (with_reducible exact up_refl _) | (with_reducible assumption) | (with_reducible refine up_alloc ?_ _) | (with_reducible refine up_drewN ?_ _) | (with_reducible refine up_drew ?_) | (with_reducible refine up_set ?_ (by first | (simp; done) | (simp; omega) | omega) _) | (refine up_trans ?_ (by with_reducible assumption))))
  have B0 : Bx W0 w.heap.size [.int .i64 x, .int .i64 y, .int .i64 z, .int .i64 l, .int .i64 wd, .int .i64 h, .int .i64 m] := by rw [hW0]; exact t3.1
  have R0 : Bx W0 (w.heap.size + 1) [.int .i64 0, .int .i64 0, .int .i64 0] := by rw [hW0]; exact t3.2.1
  have S0 : Bx W0 (w.heap.size + 1 + 1) [.int .i64 0, .int .i64 0, .int .i64 0] := by rw [hW0]; exact t3.2.2
  clear hW0 t3
  have c0 := (B0 0 _ rfl).1
  have c1 := (B0 1 _ rfl).1
  have c2 := (B0 2 _ rfl).1
  have c3 := (B0 3 _ rfl).1
  have c4 := (B0 4 _ rfl).1
  have c5 := (B0 5 _ rfl).1
  obtain ⟨p0, p1, p2⟩ := bx3 R0
  obtain ⟨f0, f1, f2⟩ := bxf3 R0
  obtain ⟨q0, q1, q2⟩ := bx3 S0
  obtain ⟨g0, g1, g2⟩ := bxf3 S0
  have HR := hide R0
  have HS := hide S0
  have HU := hide U0
  clear B0 R0 S0 U0
  go_wp2_with fail
  go_region_held3 (fun wx => wx.cell? ⟨w.heap.size, 0, none⟩ = some (.int .i64 x) ∧ wx.cell? ⟨w.heap.size, 1, none⟩ = some (.int .i64 y) ∧ wx.cell? ⟨w.heap.size, 2, none⟩ = some (.int .i64 z) ∧ wx.cell? ⟨w.heap.size, 3, none⟩ = some (.int .i64 l) ∧ wx.cell? ⟨w.heap.size, 4, none⟩ = some (.int .i64 wd) ∧ wx.cell? ⟨w.heap.size, 5, none⟩ = some (.int .i64 h)) ((go_split_ands; go_cell)) (fail)
  go_wp2_with fail
  rename_i hHeld
  clear hHeld
  obtain ⟨W9, hW9⟩ : ∃ W9 : World, W9 = ((((((W0.setCell ⟨w.heap.size + 1, 0, none⟩ (.int .i64 x)).setCell ⟨w.heap.size + 1, 1, none⟩ (.int .i64 y)).setCell ⟨w.heap.size + 1, 2, none⟩ (.int .i64 z)).setCell ⟨w.heap.size + 1 + 1, 0, none⟩ (.int .i64 (x + l))).setCell ⟨w.heap.size + 1 + 1, 1, none⟩ (.int .i64 (y + wd))).setCell ⟨w.heap.size + 1 + 1, 2, none⟩ (.int .i64 (z + h))).drew := ⟨_, rfl⟩
  rw [← hW9]
  have R9 : Bx W9 (w.heap.size + 1) [.int .i64 x, .int .i64 y, .int .i64 z] := by rw [hW9]; exact bx_drew (bx_far3 (bx_set3 (unhide HR)) (by omega))
  have S9 : Bx W9 (w.heap.size + 1 + 1) [.int .i64 (x + l), .int .i64 (y + wd), .int .i64 (z + h)] := by rw [hW9]; exact bx_drew (bx_set3 (bx_far3 (unhide HS) (by omega)))
  have U9 : Up w W9 := by rw [hW9]; have u := unhide HU; exact up_drew (up_set (up_set (up_set (up_set (up_set (up_set u (by simp) _) (by simp) _) (by simp) _) (by simp; omega) _) (by simp; omega) _) (by simp; omega) _)
  clear hW9 p0 p1 p2 q0 q1 q2 c0 c1 c2 c3 c4 c5 f0 f1 f2 g0 g1 g2
  obtain ⟨p0, p1, p2⟩ := bx3 R9
  obtain ⟨q0, q1, q2⟩ := bx3 S9
  refine bodyPost_ret (v := .tuple #[.agg #[.int .i64 x, .int .i64 y, .int .i64 z], .agg #[.int .i64 (x + l), .int .i64 (y + wd), .int .i64 (z + h)]]) (by simp [results, Tryz.results64, go_sem, p0, p1, p2, q0, q1, q2]) rfl ⟨rfl, U9⟩
end Go.Proofs.YtdehnokcjnbjoaaGreat
namespace Go.Proofs.YtdehnokcjnbjoaaGreat
open Go.RowKit Go.Proofs.Gn
/-! ### The moments -/
def mo (f : Pce → Int) : List Pce → Int
  | [] => 0
  | p :: ps => f p + mo f ps
def fX (p : Pce) : Int := p.m * (p.x + (p.x + p.l))
def fY (p : Pce) : Int := p.m * (p.y + (p.y + p.w))
def fZ (p : Pce) : Int := p.m * (p.z + (p.z + p.h))
theorem mo_append (f : Pce → Int) (a b : List Pce) : mo f (a ++ b) = mo f a + mo f b := by
  induction a with
  | nil => simp [mo]
  | cons p a ih => simp only [List.cons_append, mo, ih]; omega
theorem mo_take (f : Pce → Int) {ps : List Pce} {k : Nat} (h : k < ps.length) : mo f (ps.take (k + 1)) = mo f (ps.take k) + f ps[k] := by
  rw [List.take_succ_eq_append_getElem h, mo_append]
  simp [mo]
theorem mo_bd (f : Pce → Int) {ps : List Pce} (hf : ∀ p, okP p = true → -4398046511104 ≤ f p ∧ f p ≤ 4398046511104) (h : okPs ps = true) (k : Nat) (hk : k ≤ ps.length) : -(4398046511104 * k) ≤ mo f (ps.take k) ∧ mo f (ps.take k) ≤ 4398046511104 * k := by
  induction k with
  | zero => simp [mo]
  | succ k ih =>
    have i := ih (by omega)
    have t := hf _ (okPs_get h (k := k) (by omega))
    rw [mo_take f (by omega)]
    omega
theorem fm_bd {m s : Int} (hm : 0 ≤ m ∧ m ≤ 16777216) (hs : -262144 ≤ s ∧ s ≤ 262144) : -4398046511104 ≤ m * s ∧ m * s ≤ 4398046511104 := by
  have a : m * s ≤ 16777216 * 262144 := by
    have := Int.mul_le_mul_of_nonneg_left hs.2 hm.1
    have := Int.mul_le_mul_of_nonneg_right hm.2 (show (0 : Int) ≤ 262144 by omega)
    omega
  have b : -(16777216 * 262144) ≤ m * s := by
    have := Int.mul_le_mul_of_nonneg_left hs.1 hm.1
    have := Int.mul_le_mul_of_nonneg_right hm.2 (show (0 : Int) ≤ 262144 by omega)
    omega
  omega
theorem fX_bd (p : Pce) (h : okP p = true) : -4398046511104 ≤ fX p ∧ fX p ≤ 4398046511104 := by
  have t := (okP_iff p).1 h
  unfold okPp at t
  exact fm_bd (by omega) (by omega)
theorem fY_bd (p : Pce) (h : okP p = true) : -4398046511104 ≤ fY p ∧ fY p ≤ 4398046511104 := by
  have t := (okP_iff p).1 h
  unfold okPp at t
  exact fm_bd (by omega) (by omega)
theorem fZ_bd (p : Pce) (h : okP p = true) : -4398046511104 ≤ fZ p ∧ fZ p ≤ 4398046511104 := by
  have t := (okP_iff p).1 h
  unfold okPp at t
  exact fm_bd (by omega) (by omega)
set_option maxRecDepth 100000 in
set_option maxHeartbeats 8000000 in
theorem p_moments (A : Option Addr) (ps : List Pce) (cap : Nat) (w : World) (h : Pcs w A ps) (ho : okPs ps = true) (hn : ps.length ≤ 32) :
    Calls Tryz.prog 53 #[.slice A ps.length cap] w fun e w' => e = .returned (.agg #[.int .i64 (mo fX ps), .int .i64 (mo fY ps), .int .i64 (mo fZ ps)]) ∧ Up w w' := by
  rcases h with rfl | ⟨b, off, rfl, hc⟩
  · go_enter Tryz.func53, Tryz.ntmps53
    go_wp2_with fail
    go_rounds 1
    go_returns
    exact ⟨rfl, (by repeat' (first | (with_reducible exact up_refl _) | (with_reducible assumption) | (with_reducible refine up_alloc ?_ _) | (with_reducible refine up_drewN ?_ _) | (with_reducible refine up_drew ?_) | (with_reducible refine up_set ?_ (by first | (simp; done) | (simp; omega) | omega) _) | (refine up_trans ?_ (by with_reducible assumption))))⟩
  have HC := hide hc
  have HO := hide ho
  clear hc ho
  obtain ⟨n, hN⟩ : ∃ n, ps.length = n := ⟨_, rfl⟩
  rw [hN] at hn ⊢
  have HN := hide hN
  clear hN
  go_enter Tryz.func53, Tryz.ntmps53
  go_wp2_with fail
  go_loopw [11] (fun i wr => ∃ k : Nat, k ≤ n ∧ i = .int .i64 k ∧ Up w wr ∧ Bx wr (w.heap.size + 1) [.int .i64 (mo fX (ps.take k)), .int .i64 (mo fY (ps.take k)), .int .i64 (mo fZ (ps.take k))] ∧ Bx wr w.heap.size [.int .i64 0, .int .i64 0, .int .i64 0]) (fun i _ => n - (intOf i).toNat)
  case atStart => exact ⟨0, by omega, rfl, (by repeat' (first | (with_reducible exact up_refl _) | (with_reducible assumption) | (with_reducible refine up_alloc ?_ _) | (with_reducible refine up_drewN ?_ _) | (with_reducible refine up_drew ?_) | (with_reducible refine up_set ?_ (by first | (simp; done) | (simp; omega) | omega) _) | (refine up_trans ?_ (by with_reducible assumption)))), (bxm2 w [.int .i64 0, .int .i64 0, .int .i64 0] [.int .i64 0, .int .i64 0, .int .i64 0] 31 31).2, (bxm2 w [.int .i64 0, .int .i64 0, .int .i64 0] [.int .i64 0, .int .i64 0, .int .i64 0] 31 31).1⟩
  case round =>
    obtain ⟨k, hk, rfl, hu, hB, hZ⟩ := hrel
    have hUs := bx_lt hB (by simp)
    by_cases hlt : k < n
    · have hl : k < ps.length := by rw [unhide HN]; exact hlt
      have hp := pceAt_up (unhide HC k hl) hu
      obtain ⟨d0, d1, d2, d3, d4, d5, d6⟩ := hp
      have hok := (okP_iff _).1 (okPs_get (unhide HO) hl)
      have bX := mo_bd fX fX_bd (unhide HO) k (by rw [unhide HN]; exact hk)
      have bY := mo_bd fY fY_bd (unhide HO) k (by rw [unhide HN]; exact hk)
      have bZ := mo_bd fZ fZ_bd (unhide HO) k (by rw [unhide HN]; exact hk)
      have tX := mo_take fX hl
      have tY := mo_take fY hl
      have tZ := mo_take fZ hl
      obtain ⟨SX, hSX⟩ : ∃ S, mo fX (ps.take k) = S := ⟨_, rfl⟩
      obtain ⟨SY, hSY⟩ : ∃ S, mo fY (ps.take k) = S := ⟨_, rfl⟩
      obtain ⟨SZ, hSZ⟩ : ∃ S, mo fZ (ps.take k) = S := ⟨_, rfl⟩
      rw [hSX] at bX tX hB
      rw [hSY] at bY tY hB
      rw [hSZ] at bZ tZ hB
      unfold fX at tX
      unfold fY at tY
      unfold fZ at tZ
      obtain ⟨x, hx⟩ : ∃ t, ps[k].x = t := ⟨_, rfl⟩
      obtain ⟨y, hy⟩ : ∃ t, ps[k].y = t := ⟨_, rfl⟩
      obtain ⟨z, hz⟩ : ∃ t, ps[k].z = t := ⟨_, rfl⟩
      obtain ⟨l, hl'⟩ : ∃ t, ps[k].l = t := ⟨_, rfl⟩
      obtain ⟨wd, hwd⟩ : ∃ t, ps[k].w = t := ⟨_, rfl⟩
      obtain ⟨h, hh⟩ : ∃ t, ps[k].h = t := ⟨_, rfl⟩
      obtain ⟨m, hm⟩ : ∃ t, ps[k].m = t := ⟨_, rfl⟩
      have hok2 : okPp ⟨x, y, z, l, wd, h, m⟩ := by rw [← hx, ← hy, ← hz, ← hl', ← hwd, ← hh, ← hm]; exact hok
      rw [hx] at d0 tX; rw [hy] at d1 tY; rw [hz] at d2 tZ; rw [hl'] at d3 tX; rw [hwd] at d4 tY; rw [hh] at d5 tZ; rw [hm] at d6 tX tY tZ
      clear hSX hSY hSZ hx hy hz hl' hwd hh hm hok
      have HEn := hide (fun W => p_ends hok2 W)
      unfold okPp at hok2
      simp only at hok2
      obtain ⟨x2, hx2⟩ : ∃ t, x + l = t := ⟨_, rfl⟩
      obtain ⟨y2, hy2⟩ : ∃ t, y + wd = t := ⟨_, rfl⟩
      obtain ⟨z2, hz2⟩ : ∃ t, z + h = t := ⟨_, rfl⟩
      rw [hx2] at tX
      rw [hy2] at tY
      rw [hz2] at tZ
      have gX := fm_bd (m := m) (s := x + x2) (by omega) (by omega)
      have gY := fm_bd (m := m) (s := y + y2) (by omega) (by omega)
      have gZ := fm_bd (m := m) (s := z + z2) (by omega) (by omega)
      have vX : IntKind.i64.wrap (x + x2) = x + x2 := IntWalk.i64_in _ ⟨by omega, by omega⟩
      have vY : IntKind.i64.wrap (y + y2) = y + y2 := IntWalk.i64_in _ ⟨by omega, by omega⟩
      have vZ : IntKind.i64.wrap (z + z2) = z + z2 := IntWalk.i64_in _ ⟨by omega, by omega⟩
      rw [hx2, hy2, hz2] at HEn
      have HT := hide (And.intro tX (And.intro tY tZ))
      obtain ⟨eX, heX⟩ : ∃ t, x + x2 = t := ⟨_, rfl⟩
      obtain ⟨eY, heY⟩ : ∃ t, y + y2 = t := ⟨_, rfl⟩
      obtain ⟨eZ, heZ⟩ : ∃ t, z + z2 = t := ⟨_, rfl⟩
      have VX : Hid (IntKind.i64.wrap (x + x2) = x + x2) := hide vX
      have VY : Hid (IntKind.i64.wrap (y + y2) = y + y2) := hide vY
      have VZ : Hid (IntKind.i64.wrap (z + z2) = z + z2) := hide vZ
      have hwk : IntKind.i64.wrap ((k : Int) + 1) = (k : Int) + 1 := IntWalk.i64_in _ ⟨by omega, by omega⟩
      have wX : IntKind.i64.wrap (m * (x + x2)) = m * (x + x2) := IntWalk.i64_in _ ⟨by omega, by omega⟩
      have wY : IntKind.i64.wrap (m * (y + y2)) = m * (y + y2) := IntWalk.i64_in _ ⟨by omega, by omega⟩
      have wZ : IntKind.i64.wrap (m * (z + z2)) = m * (z + z2) := IntWalk.i64_in _ ⟨by omega, by omega⟩
      have sX : IntKind.i64.wrap (SX + m * (x + x2)) = SX + m * (x + x2) := IntWalk.i64_in _ ⟨by omega, by omega⟩
      have sY : IntKind.i64.wrap (SY + m * (y + y2)) = SY + m * (y + y2) := IntWalk.i64_in _ ⟨by omega, by omega⟩
      have sZ : IntKind.i64.wrap (SZ + m * (z + z2)) = SZ + m * (z + z2) := IntWalk.i64_in _ ⟨by omega, by omega⟩
      clear heX heY heZ eX eY eZ gX gY gZ bX bY bZ tX tY tZ hok2 hx2 hy2 hz2 VX VY VZ
      go_wp2_with (go_at_call 64; (with_reducible refine (unhide HEn _).mono ?_); rintro e w1 ⟨rfl, hb1⟩)
      have zs := up_size hb1
      rw [sz1] at zs
      refine at_wp (fun W0 hW0 => ?_)
      have u0 : Up w1 W0 := by rw [hW0]; exact (by repeat' (first | (with_reducible exact up_refl _) | (with_reducible assumption) | (with_reducible refine up_alloc ?_ _) | (with_reducible refine up_drewN ?_ _) | (with_reducible refine up_drew ?_) | (with_reducible refine up_set ?_ (by first | (simp; done) | (simp; omega) | omega) _) | (refine up_trans ?_ (by with_reducible assumption))))
      have t2 := bxm2 w1 [.int .i64 x, .int .i64 y, .int .i64 z] [.int .i64 x2, .int .i64 y2, .int .i64 z2] 31 31
      have L0 : Bx W0 w1.heap.size [.int .i64 x, .int .i64 y, .int .i64 z] := by rw [hW0]; exact t2.1
      have H0 : Bx W0 (w1.heap.size + 1) [.int .i64 x2, .int .i64 y2, .int .i64 z2] := by rw [hW0]; exact t2.2
      have P0 : Bx W0 wr.heap.size [.int .i64 x, .int .i64 y, .int .i64 z, .int .i64 l, .int .i64 wd, .int .i64 h, .int .i64 m] := bx_up (bx_new wr _ 75) (up_trans hb1 u0)
      have u1 : Up wr W0 := up_trans (up_alloc (up_refl wr) _) (up_trans hb1 u0)
      have S0 := bx_up hB u1
      have Z0 := bx_up hZ u1
      have U0 := up_trans hu u1
      clear hW0 t2 u0 u1 hB hZ hb1 d0 d1 d2 d3 d4 d5 d6
      refine wp_loop_rounds 4 ?_
      obtain ⟨p0, p1, p2⟩ := bx3 S0
      obtain ⟨f0, f1, f2⟩ := bxf3 S0
      obtain ⟨i0, i1, i2⟩ := bx3 L0
      obtain ⟨j0, j1, j2⟩ := bx3 H0
      have pm := (P0 6 _ rfl).1
      rw [rounds_succ]
      go_wp2_with fail
      go_still_tail 15, (by kernel_rfl)
      go_wp2_with fail
      refine at_rounds (fun W1 hW1 => ?_)
      have S1 : Bx W1 (w.heap.size + 1) [.int .i64 (SX + m * (x + x2)), .int .i64 (SY), .int .i64 (SZ)] := by rw [hW1]; exact bx_set (bx_drew S0) 0 _
      have L1 : Bx W1 w1.heap.size [.int .i64 x, .int .i64 y, .int .i64 z] := by rw [hW1]; exact bx_far (bx_drew L0) (by simp; omega) _
      have H1 : Bx W1 (w1.heap.size + 1) [.int .i64 x2, .int .i64 y2, .int .i64 z2] := by rw [hW1]; exact bx_far (bx_drew H0) (by simp; omega) _
      have P1 : Bx W1 wr.heap.size [.int .i64 x, .int .i64 y, .int .i64 z, .int .i64 l, .int .i64 wd, .int .i64 h, .int .i64 m] := by rw [hW1]; exact bx_far (bx_drew P0) (by simp; omega) _
      have Z1 : Bx W1 w.heap.size [.int .i64 0, .int .i64 0, .int .i64 0] := by rw [hW1]; exact bx_far (bx_drew Z0) (by simp) _
      have U1 : Up w W1 := by rw [hW1]; exact up_set (up_drew U0) (by simp) _
      obtain ⟨TX, hTX⟩ : ∃ t, SX + m * (x + x2) = t := ⟨_, rfl⟩
      rw [hTX] at S1
      have KTX := hide hTX
      clear hTX vX wX sX
      clear hW1 S0 L0 H0 P0 Z0 U0 p0 p1 p2 f0 f1 f2 i0 i1 i2 j0 j1 j2 pm
      obtain ⟨p0, p1, p2⟩ := bx3 S1
      obtain ⟨f0, f1, f2⟩ := bxf3 S1
      obtain ⟨i0, i1, i2⟩ := bx3 L1
      obtain ⟨j0, j1, j2⟩ := bx3 H1
      have pm := (P1 6 _ rfl).1
      rw [rounds_succ]
      go_wp2_with fail
      go_still_tail 15, (by kernel_rfl)
      go_wp2_with fail
      refine at_rounds (fun W2 hW2 => ?_)
      have S2 : Bx W2 (w.heap.size + 1) [.int .i64 TX, .int .i64 (SY + m * (y + y2)), .int .i64 SZ] := by rw [hW2]; exact bx_set (bx_drew S1) 1 _
      have L2 : Bx W2 w1.heap.size [.int .i64 x, .int .i64 y, .int .i64 z] := by rw [hW2]; exact bx_far (bx_drew L1) (by simp; omega) _
      have H2 : Bx W2 (w1.heap.size + 1) [.int .i64 x2, .int .i64 y2, .int .i64 z2] := by rw [hW2]; exact bx_far (bx_drew H1) (by simp; omega) _
      have P2 : Bx W2 wr.heap.size [.int .i64 x, .int .i64 y, .int .i64 z, .int .i64 l, .int .i64 wd, .int .i64 h, .int .i64 m] := by rw [hW2]; exact bx_far (bx_drew P1) (by simp; omega) _
      have Z2 : Bx W2 w.heap.size [.int .i64 0, .int .i64 0, .int .i64 0] := by rw [hW2]; exact bx_far (bx_drew Z1) (by simp) _
      have U2 : Up w W2 := by rw [hW2]; exact up_set (up_drew U1) (by simp) _
      obtain ⟨TY, hTY⟩ : ∃ t, SY + m * (y + y2) = t := ⟨_, rfl⟩
      rw [hTY] at S2
      have KTY := hide hTY
      clear hTY vY wY sY
      clear hW2 S1 L1 H1 P1 Z1 U1 p0 p1 p2 f0 f1 f2 i0 i1 i2 j0 j1 j2 pm
      obtain ⟨p0, p1, p2⟩ := bx3 S2
      obtain ⟨f0, f1, f2⟩ := bxf3 S2
      obtain ⟨i0, i1, i2⟩ := bx3 L2
      obtain ⟨j0, j1, j2⟩ := bx3 H2
      have pm := (P2 6 _ rfl).1
      rw [rounds_succ]
      go_wp2_with fail
      go_still_tail 15, (by kernel_rfl)
      go_wp2_with fail
      refine at_rounds (fun W3 hW3 => ?_)
      have S3 : Bx W3 (w.heap.size + 1) [.int .i64 TX, .int .i64 TY, .int .i64 (SZ + m * (z + z2))] := by rw [hW3]; exact bx_set (bx_drew S2) 2 _
      have L3 : Bx W3 w1.heap.size [.int .i64 x, .int .i64 y, .int .i64 z] := by rw [hW3]; exact bx_far (bx_drew L2) (by simp; omega) _
      have H3 : Bx W3 (w1.heap.size + 1) [.int .i64 x2, .int .i64 y2, .int .i64 z2] := by rw [hW3]; exact bx_far (bx_drew H2) (by simp; omega) _
      have P3 : Bx W3 wr.heap.size [.int .i64 x, .int .i64 y, .int .i64 z, .int .i64 l, .int .i64 wd, .int .i64 h, .int .i64 m] := by rw [hW3]; exact bx_far (bx_drew P2) (by simp; omega) _
      have Z3 : Bx W3 w.heap.size [.int .i64 0, .int .i64 0, .int .i64 0] := by rw [hW3]; exact bx_far (bx_drew Z2) (by simp) _
      have U3 : Up w W3 := by rw [hW3]; exact up_set (up_drew U2) (by simp) _
      obtain ⟨TZ, hTZ⟩ : ∃ t, SZ + m * (z + z2) = t := ⟨_, rfl⟩
      rw [hTZ] at S3
      have KTZ := hide hTZ
      clear hTZ vZ wZ sZ
      clear hW3 S2 L2 H2 P2 Z2 U2 p0 p1 p2 f0 f1 f2 i0 i1 i2 j0 j1 j2 pm
      rw [rounds_succ]
      go_wp2_with fail
      go_roundw
      case rel =>
        obtain ⟨t1, t2, t3⟩ := unhide HT
        refine ⟨k + 1, by omega, by first | rfl | trivial | go_num, U3, ?_, Z3⟩
        rw [show mo fX (ps.take (k + 1)) = TX from t1.trans (unhide KTX), show mo fY (ps.take (k + 1)) = TY from t2.trans (unhide KTY), show mo fZ (ps.take (k + 1)) = TZ from t3.trans (unhide KTZ)]
        exact S3
      case measure => simp [intOf]; omega
    · obtain rfl : k = n := by omega
      have hF : ps.take k = ps := List.take_of_length_le (by rw [unhide HN]; omega)
      rw [hF] at hB
      have HB := hide hB
      obtain ⟨p0, p1, p2⟩ := bx3 hB
      obtain ⟨z0, z1, z2⟩ := bx3 hZ
      obtain ⟨f0, f1, f2⟩ := bxf3 hZ
      obtain ⟨a, ha⟩ : ∃ t, mo fX ps = t := ⟨_, rfl⟩
      obtain ⟨b', hb'⟩ : ∃ t, mo fY ps = t := ⟨_, rfl⟩
      obtain ⟨c, hc⟩ : ∃ t, mo fZ ps = t := ⟨_, rfl⟩
      rw [ha] at p0
      rw [hb'] at p1
      rw [hc] at p2
      have HE := hide (And.intro ha (And.intro hb' hc))
      clear hF hB ha hb' hc HB
      go_wp2_with fail
      obtain ⟨W9, hW9⟩ : ∃ W9 : World, W9 = (((wr.setCell ⟨w.heap.size, 0, none⟩ (.int .i64 a)).setCell ⟨w.heap.size, 1, none⟩ (.int .i64 b')).setCell ⟨w.heap.size, 2, none⟩ (.int .i64 c)) := ⟨_, rfl⟩
      rw [← hW9]
      have B9 : Bx W9 w.heap.size [.int .i64 a, .int .i64 b', .int .i64 c] := by rw [hW9]; exact bx_set3 hZ
      have U9 : Up w W9 := by rw [hW9]; exact up_set (up_set (up_set hu (by simp) _) (by simp) _) (by simp) _
      clear hW9 z0 z1 z2 f0 f1 f2 p0 p1 p2
      obtain ⟨q0, q1, q2⟩ := bx3 B9
      refine bodyPost_ret (v := .agg #[.int .i64 a, .int .i64 b', .int .i64 c]) (by simp [results, Tryz.results53, go_sem, q0, q1, q2]) rfl ⟨by rw [(unhide HE).1, (unhide HE).2.1, (unhide HE).2.2], U9⟩
end Go.Proofs.YtdehnokcjnbjoaaGreat
