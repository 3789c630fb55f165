/- The document's moments and centre of a load. -/
import Derived.Test.YtgfehjhngmabeaaCentre
import Derived.Test.YtgfehjhngmabeaaRefLoad
import Derived.Test.YtgfehjhngmabeaaRefDown
namespace Go.Proofs.Ytgfehjhngmabeaa
open Go.RowKit Go.Proofs.Gn
theorem ceV_eq {n k : Int} (hn : -2305843009213693952 ≤ n ∧ n ≤ 2305843009213693952) (hk : 1 ≤ k ∧ k ≤ 16777216) : ceV n k = (n + k) / (2 * k) := by
  unfold ceV neV
  have : inQ n (2 * k) = true := by unfold inQ; rw [decide_eq_true_iff]; omega
  rw [this]
  simp only [if_true]
  unfold near
  rw [show 2 * n + 2 * k = 2 * (n + k) by omega, Int.mul_ediv_mul_of_pos _ _ (by omega)]
theorem mo_all (g : Pce → Int) {ps : List Pce} (hf : ∀ p, okP p = true → -4398046511104 ≤ g p ∧ g p ≤ 4398046511104) (h : okPs ps = true) (hn : ps.length ≤ 32) : -140737488355328 ≤ mo g ps ∧ mo g ps ≤ 140737488355328 := by
  have t := mo_bd g hf h ps.length (Nat.le_refl _)
  rw [List.take_length] at t
  omega
set_option maxRecDepth 100000 in
set_option maxHeartbeats 8000000 in
theorem r_moments2 (A : Option Addr) (ps : List Pce) (cap : Nat) (w : World) (h : Pcs w A ps) (ho : okPs ps = true) (hn : ps.length ≤ 32) :
    Calls Try.prog 97 #[.slice A ps.length cap] w fun e w' => e = .returned (.agg #[.int .i64 (mo fX ps), .int .i64 (mo fY ps), .int .i64 (mo fZ ps)]) ∧ Up w w' := by
  rcases h with rfl | ⟨b, off, rfl, hc⟩
  · go_enter Try.func97, Try.ntmps97
    go_wp2_with fail
    go_rounds 1
    go_returns
    exact ⟨rfl, (by repeat' (first | (with_reducible exact up_refl _) | (with_reducible assumption) | (with_reducible refine up_alloc ?_ _) | (with_reducible refine up_drewN ?_ _) | (with_reducible refine up_drew ?_) | (with_reducible refine up_set ?_ (by first | (simp; done) | (simp; omega) | omega) _) | (refine up_trans ?_ (by with_reducible assumption))))⟩
  have HC := hide hc
  have HO := hide ho
  clear hc ho
  obtain ⟨n, hN⟩ : ∃ n, ps.length = n := ⟨_, rfl⟩
  rw [hN] at hn ⊢
  have HN := hide hN
  clear hN
  go_enter Try.func97, Try.ntmps97
  go_wp2_with fail
  go_loopw [4] (fun i wr => ∃ k : Nat, k ≤ n ∧ i = .int .i64 k ∧ Up w wr ∧ Bx wr (w.heap.size + 1) [.int .i64 (mo fX (ps.take k)), .int .i64 (mo fY (ps.take k)), .int .i64 (mo fZ (ps.take k))] ∧ Bx wr w.heap.size [.int .i64 0, .int .i64 0, .int .i64 0]) (fun i _ => n - (intOf i).toNat)
  case atStart => exact ⟨0, by omega, rfl, (by repeat' (first | (with_reducible exact up_refl _) | (with_reducible assumption) | (with_reducible refine up_alloc ?_ _) | (with_reducible refine up_drewN ?_ _) | (with_reducible refine up_drew ?_) | (with_reducible refine up_set ?_ (by first | (simp; done) | (simp; omega) | omega) _) | (refine up_trans ?_ (by with_reducible assumption)))), (bxm2 w [.int .i64 0, .int .i64 0, .int .i64 0] [.int .i64 0, .int .i64 0, .int .i64 0] 31 31).2, (bxm2 w [.int .i64 0, .int .i64 0, .int .i64 0] [.int .i64 0, .int .i64 0, .int .i64 0] 31 31).1⟩
  case round =>
    obtain ⟨k, hk, rfl, hu, hB, hZ⟩ := hrel
    have hUs := bx_lt hB (by simp)
    by_cases hlt : k < n
    · have hl : k < ps.length := by rw [unhide HN]; exact hlt
      have hp := pceAt_up (unhide HC k hl) hu
      obtain ⟨d0, d1, d2, d3, d4, d5, d6⟩ := hp
      have hok := (okP_iff _).1 (okPs_get (unhide HO) hl)
      have bX := mo_bd fX fX_bd (unhide HO) k (by rw [unhide HN]; exact hk)
      have bY := mo_bd fY fY_bd (unhide HO) k (by rw [unhide HN]; exact hk)
      have bZ := mo_bd fZ fZ_bd (unhide HO) k (by rw [unhide HN]; exact hk)
      have tX := mo_take fX hl
      have tY := mo_take fY hl
      have tZ := mo_take fZ hl
      obtain ⟨SX, hSX⟩ : ∃ S, mo fX (ps.take k) = S := ⟨_, rfl⟩
      obtain ⟨SY, hSY⟩ : ∃ S, mo fY (ps.take k) = S := ⟨_, rfl⟩
      obtain ⟨SZ, hSZ⟩ : ∃ S, mo fZ (ps.take k) = S := ⟨_, rfl⟩
      rw [hSX] at bX tX hB
      rw [hSY] at bY tY hB
      rw [hSZ] at bZ tZ hB
      unfold fX at tX
      unfold fY at tY
      unfold fZ at tZ
      obtain ⟨x, hx⟩ : ∃ t, ps[k].x = t := ⟨_, rfl⟩
      obtain ⟨y, hy⟩ : ∃ t, ps[k].y = t := ⟨_, rfl⟩
      obtain ⟨z, hz⟩ : ∃ t, ps[k].z = t := ⟨_, rfl⟩
      obtain ⟨l, hl'⟩ : ∃ t, ps[k].l = t := ⟨_, rfl⟩
      obtain ⟨wd, hwd⟩ : ∃ t, ps[k].w = t := ⟨_, rfl⟩
      obtain ⟨h, hh⟩ : ∃ t, ps[k].h = t := ⟨_, rfl⟩
      obtain ⟨m, hm⟩ : ∃ t, ps[k].m = t := ⟨_, rfl⟩
      have hok2 : okPp ⟨x, y, z, l, wd, h, m⟩ := by rw [← hx, ← hy, ← hz, ← hl', ← hwd, ← hh, ← hm]; exact hok
      rw [hx] at d0 tX; rw [hy] at d1 tY; rw [hz] at d2 tZ; rw [hl'] at d3 tX; rw [hwd] at d4 tY; rw [hh] at d5 tZ; rw [hm] at d6 tX tY tZ
      clear hSX hSY hSZ hx hy hz hl' hwd hh hm hok
      unfold okPp at hok2
      simp only at hok2
      rw [show x + (x + l) = 2 * x + l by omega] at tX
      rw [show y + (y + wd) = 2 * y + wd by omega] at tY
      rw [show z + (z + h) = 2 * z + h by omega] at tZ
      have gX := fm_bd (m := m) (s := 2 * x + l) (by omega) (by omega)
      have gY := fm_bd (m := m) (s := 2 * y + wd) (by omega) (by omega)
      have gZ := fm_bd (m := m) (s := 2 * z + h) (by omega) (by omega)
      have HT := hide (And.intro tX (And.intro tY tZ))
      have HW0 := hide (And.intro gX (And.intro gY gZ))
      have aX : IntKind.i64.wrap (2 * x) = 2 * x := IntWalk.i64_in _ ⟨by omega, by omega⟩
      have vX : IntKind.i64.wrap (2 * x + l) = 2 * x + l := IntWalk.i64_in _ ⟨by omega, by omega⟩
      have wX : IntKind.i64.wrap (m * (2 * x + l)) = m * (2 * x + l) := IntWalk.i64_in _ ⟨by omega, by omega⟩
      have sX : IntKind.i64.wrap (SX + m * (2 * x + l)) = SX + m * (2 * x + l) := IntWalk.i64_in _ ⟨by omega, by omega⟩
      have aY : IntKind.i64.wrap (2 * y) = 2 * y := IntWalk.i64_in _ ⟨by omega, by omega⟩
      have vY : IntKind.i64.wrap (2 * y + wd) = 2 * y + wd := IntWalk.i64_in _ ⟨by omega, by omega⟩
      have wY : IntKind.i64.wrap (m * (2 * y + wd)) = m * (2 * y + wd) := IntWalk.i64_in _ ⟨by omega, by omega⟩
      have sY : IntKind.i64.wrap (SY + m * (2 * y + wd)) = SY + m * (2 * y + wd) := IntWalk.i64_in _ ⟨by omega, by omega⟩
      have aZ : IntKind.i64.wrap (2 * z) = 2 * z := IntWalk.i64_in _ ⟨by omega, by omega⟩
      have vZ : IntKind.i64.wrap (2 * z + h) = 2 * z + h := IntWalk.i64_in _ ⟨by omega, by omega⟩
      have wZ : IntKind.i64.wrap (m * (2 * z + h)) = m * (2 * z + h) := IntWalk.i64_in _ ⟨by omega, by omega⟩
      have sZ : IntKind.i64.wrap (SZ + m * (2 * z + h)) = SZ + m * (2 * z + h) := IntWalk.i64_in _ ⟨by omega, by omega⟩
      have hwk : IntKind.i64.wrap ((k : Int) + 1) = (k : Int) + 1 := IntWalk.i64_in _ ⟨by omega, by omega⟩
      clear gX gY gZ bX bY bZ tX tY tZ hok2 HW0
      obtain ⟨p0, p1, p2⟩ := bx3 hB
      obtain ⟨f0, f1, f2⟩ := bxf3 hB
      go_wp2_with fail
      go_roundw
      case rel =>
        obtain ⟨t1, t2, t3⟩ := unhide HT
        refine ⟨k + 1, by omega, by first | rfl | trivial | go_num, up_alloc (up_set (up_set (up_set hu (by simp) _) (by simp) _) (by simp) _) _, ?_, bx_alloc (bx_far3 (v0 := .int .i64 (SX + m * (2 * x + l))) (v1 := .int .i64 (SY + m * (2 * y + wd))) (v2 := .int .i64 (SZ + m * (2 * z + h))) hZ (by omega)) _⟩
        rw [show mo fX (ps.take (k + 1)) = _ from t1, show mo fY (ps.take (k + 1)) = _ from t2, show mo fZ (ps.take (k + 1)) = _ from t3]
        exact bx_alloc (bx_set3 hB) _
      case measure => simp [intOf]; omega
    · obtain rfl : k = n := by omega
      have hF : ps.take k = ps := List.take_of_length_le (by rw [unhide HN]; omega)
      rw [hF] at hB
      obtain ⟨p0, p1, p2⟩ := bx3 hB
      obtain ⟨z0, z1, z2⟩ := bx3 hZ
      obtain ⟨f0, f1, f2⟩ := bxf3 hZ
      obtain ⟨a, ha⟩ : ∃ t, mo fX ps = t := ⟨_, rfl⟩
      obtain ⟨b', hb'⟩ : ∃ t, mo fY ps = t := ⟨_, rfl⟩
      obtain ⟨c, hc⟩ : ∃ t, mo fZ ps = t := ⟨_, rfl⟩
      rw [ha] at p0
      rw [hb'] at p1
      rw [hc] at p2
      have HE := hide (And.intro ha (And.intro hb' hc))
      clear hF hB ha hb' hc
      go_wp2_with fail
      obtain ⟨W9, hW9⟩ : ∃ W9 : World, W9 = (((wr.setCell ⟨w.heap.size, 0, none⟩ (.int .i64 a)).setCell ⟨w.heap.size, 1, none⟩ (.int .i64 b')).setCell ⟨w.heap.size, 2, none⟩ (.int .i64 c)) := ⟨_, rfl⟩
      rw [← hW9]
      have B9 : Bx W9 w.heap.size [.int .i64 a, .int .i64 b', .int .i64 c] := by rw [hW9]; exact bx_set3 hZ
      have U9 : Up w W9 := by rw [hW9]; exact up_set (up_set (up_set hu (by simp) _) (by simp) _) (by simp) _
      clear hW9 z0 z1 z2 f0 f1 f2 p0 p1 p2
      obtain ⟨q0, q1, q2⟩ := bx3 B9
      refine bodyPost_ret (v := .agg #[.int .i64 a, .int .i64 b', .int .i64 c]) (by simp [results, Try.results97, go_sem, q0, q1, q2]) rfl ⟨by rw [(unhide HE).1, (unhide HE).2.1, (unhide HE).2.2], U9⟩
end Go.Proofs.Ytgfehjhngmabeaa
