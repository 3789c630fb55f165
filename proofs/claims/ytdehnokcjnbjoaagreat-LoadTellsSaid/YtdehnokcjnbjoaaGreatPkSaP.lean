/- samePoints of two lists that are the same; moments of the document. The document's centre of a load. The document's moments and centre of a load. -/
import Derived.Test.YtdehnokcjnbjoaaGreatCentre
import Derived.Test.YtdehnokcjnbjoaaGreatRefLoad
import Derived.Test.YtdehnokcjnbjoaaGreatPkRefDown
import Derived.Test.YtdehnokcjnbjoaaGreatLdR
namespace Go.Proofs.YtdehnokcjnbjoaaGreat
open Go.RowKit Go.Proofs.Gn
theorem ceV_eq {n k : Int} (hn : -2305843009213693952 ≤ n ∧ n ≤ 2305843009213693952) (hk : 1 ≤ k ∧ k ≤ 16777216) : ceV n k = (n + k) / (2 * k) := by
  unfold ceV neV
  have : inQ n (2 * k) = true := by unfold inQ; rw [decide_eq_true_iff]; omega
  rw [this]
  simp only [if_true]
  unfold near
  rw [show 2 * n + 2 * k = 2 * (n + k) by omega, Int.mul_ediv_mul_of_pos _ _ (by omega)]
theorem mo_all (g : Pce → Int) {ps : List Pce} (hf : ∀ p, okP p = true → -4398046511104 ≤ g p ∧ g p ≤ 4398046511104) (h : okPs ps = true) (hn : ps.length ≤ 32) : -140737488355328 ≤ mo g ps ∧ mo g ps ≤ 140737488355328 := by
  have t := mo_bd g hf h ps.length (Nat.le_refl _)
  rw [List.take_length] at t
  omega
set_option maxRecDepth 100000 in
set_option maxHeartbeats 8000000 in
theorem r_moments2 (A : Option Addr) (ps : List Pce) (cap : Nat) (w : World) (h : Pcs w A ps) (ho : okPs ps = true) (hn : ps.length ≤ 32) :
    Calls Tryz.prog 54 #[.slice A ps.length cap] w fun e w' => e = .returned (.agg #[.int .i64 (mo fX ps), .int .i64 (mo fY ps), .int .i64 (mo fZ ps)]) ∧ Up w w' := by
  rcases h with rfl | ⟨b, off, rfl, hc⟩
  · go_enter Tryz.func54, Tryz.ntmps54
    go_wp2_with fail
    go_rounds 1
    go_returns
    exact ⟨rfl, (by repeat' (first | (with_reducible exact up_refl _) | (with_reducible assumption) | (with_reducible refine up_alloc ?_ _) | (with_reducible refine up_drewN ?_ _) | (with_reducible refine up_drew ?_) | (with_reducible refine up_set ?_ (by first | (simp; done) | (simp; omega) | omega) _) | (refine up_trans ?_ (by with_reducible assumption))))⟩
  have HC := hide hc
  have HO := hide ho
  clear hc ho
  obtain ⟨n, hN⟩ : ∃ n, ps.length = n := ⟨_, rfl⟩
  rw [hN] at hn ⊢
  have HN := hide hN
  clear hN
  go_enter Tryz.func54, Tryz.ntmps54
  go_wp2_with fail
  go_loopw [4] (fun i wr => ∃ k : Nat, k ≤ n ∧ i = .int .i64 k ∧ Up w wr ∧ Bx wr (w.heap.size + 1) [.int .i64 (mo fX (ps.take k)), .int .i64 (mo fY (ps.take k)), .int .i64 (mo fZ (ps.take k))] ∧ Bx wr w.heap.size [.int .i64 0, .int .i64 0, .int .i64 0]) (fun i _ => n - (intOf i).toNat)
  case atStart => exact ⟨0, by omega, rfl, (by repeat' (first | (with_reducible exact up_refl _) | (with_reducible assumption) | (with_reducible refine up_alloc ?_ _) | (with_reducible refine up_drewN ?_ _) | (with_reducible refine up_drew ?_) | (with_reducible refine up_set ?_ (by first | (simp; done) | (simp; omega) | omega) _) | (refine up_trans ?_ (by with_reducible assumption)))), (bxm2 w [.int .i64 0, .int .i64 0, .int .i64 0] [.int .i64 0, .int .i64 0, .int .i64 0] 31 31).2, (bxm2 w [.int .i64 0, .int .i64 0, .int .i64 0] [.int .i64 0, .int .i64 0, .int .i64 0] 31 31).1⟩
  case round =>
    obtain ⟨k, hk, rfl, hu, hB, hZ⟩ := hrel
    have hUs := bx_lt hB (by simp)
    by_cases hlt : k < n
    · have hl : k < ps.length := by rw [unhide HN]; exact hlt
      have hp := pceAt_up (unhide HC k hl) hu
      obtain ⟨d0, d1, d2, d3, d4, d5, d6⟩ := hp
      have hok := (okP_iff _).1 (okPs_get (unhide HO) hl)
      have bX := mo_bd fX fX_bd (unhide HO) k (by rw [unhide HN]; exact hk)
      have bY := mo_bd fY fY_bd (unhide HO) k (by rw [unhide HN]; exact hk)
      have bZ := mo_bd fZ fZ_bd (unhide HO) k (by rw [unhide HN]; exact hk)
      have tX := mo_take fX hl
      have tY := mo_take fY hl
      have tZ := mo_take fZ hl
      obtain ⟨SX, hSX⟩ : ∃ S, mo fX (ps.take k) = S := ⟨_, rfl⟩
      obtain ⟨SY, hSY⟩ : ∃ S, mo fY (ps.take k) = S := ⟨_, rfl⟩
      obtain ⟨SZ, hSZ⟩ : ∃ S, mo fZ (ps.take k) = S := ⟨_, rfl⟩
      rw [hSX] at bX tX hB
      rw [hSY] at bY tY hB
      rw [hSZ] at bZ tZ hB
      unfold fX at tX
      unfold fY at tY
      unfold fZ at tZ
      obtain ⟨x, hx⟩ : ∃ t, ps[k].x = t := ⟨_, rfl⟩
      obtain ⟨y, hy⟩ : ∃ t, ps[k].y = t := ⟨_, rfl⟩
      obtain ⟨z, hz⟩ : ∃ t, ps[k].z = t := ⟨_, rfl⟩
      obtain ⟨l, hl'⟩ : ∃ t, ps[k].l = t := ⟨_, rfl⟩
      obtain ⟨wd, hwd⟩ : ∃ t, ps[k].w = t := ⟨_, rfl⟩
      obtain ⟨h, hh⟩ : ∃ t, ps[k].h = t := ⟨_, rfl⟩
      obtain ⟨m, hm⟩ : ∃ t, ps[k].m = t := ⟨_, rfl⟩
      have hok2 : okPp ⟨x, y, z, l, wd, h, m⟩ := by rw [← hx, ← hy, ← hz, ← hl', ← hwd, ← hh, ← hm]; exact hok
      rw [hx] at d0 tX; rw [hy] at d1 tY; rw [hz] at d2 tZ; rw [hl'] at d3 tX; rw [hwd] at d4 tY; rw [hh] at d5 tZ; rw [hm] at d6 tX tY tZ
      clear hSX hSY hSZ hx hy hz hl' hwd hh hm hok
      unfold okPp at hok2
      simp only at hok2
      rw [show x + (x + l) = 2 * x + l by omega] at tX
      rw [show y + (y + wd) = 2 * y + wd by omega] at tY
      rw [show z + (z + h) = 2 * z + h by omega] at tZ
      have gX := fm_bd (m := m) (s := 2 * x + l) (by omega) (by omega)
      have gY := fm_bd (m := m) (s := 2 * y + wd) (by omega) (by omega)
      have gZ := fm_bd (m := m) (s := 2 * z + h) (by omega) (by omega)
      have HT := hide (And.intro tX (And.intro tY tZ))
      have HW0 := hide (And.intro gX (And.intro gY gZ))
      have aX : IntKind.i64.wrap (2 * x) = 2 * x := IntWalk.i64_in _ ⟨by omega, by omega⟩
      have vX : IntKind.i64.wrap (2 * x + l) = 2 * x + l := IntWalk.i64_in _ ⟨by omega, by omega⟩
      have wX : IntKind.i64.wrap (m * (2 * x + l)) = m * (2 * x + l) := IntWalk.i64_in _ ⟨by omega, by omega⟩
      have sX : IntKind.i64.wrap (SX + m * (2 * x + l)) = SX + m * (2 * x + l) := IntWalk.i64_in _ ⟨by omega, by omega⟩
      have aY : IntKind.i64.wrap (2 * y) = 2 * y := IntWalk.i64_in _ ⟨by omega, by omega⟩
      have vY : IntKind.i64.wrap (2 * y + wd) = 2 * y + wd := IntWalk.i64_in _ ⟨by omega, by omega⟩
      have wY : IntKind.i64.wrap (m * (2 * y + wd)) = m * (2 * y + wd) := IntWalk.i64_in _ ⟨by omega, by omega⟩
      have sY : IntKind.i64.wrap (SY + m * (2 * y + wd)) = SY + m * (2 * y + wd) := IntWalk.i64_in _ ⟨by omega, by omega⟩
      have aZ : IntKind.i64.wrap (2 * z) = 2 * z := IntWalk.i64_in _ ⟨by omega, by omega⟩
      have vZ : IntKind.i64.wrap (2 * z + h) = 2 * z + h := IntWalk.i64_in _ ⟨by omega, by omega⟩
      have wZ : IntKind.i64.wrap (m * (2 * z + h)) = m * (2 * z + h) := IntWalk.i64_in _ ⟨by omega, by omega⟩
      have sZ : IntKind.i64.wrap (SZ + m * (2 * z + h)) = SZ + m * (2 * z + h) := IntWalk.i64_in _ ⟨by omega, by omega⟩
      have hwk : IntKind.i64.wrap ((k : Int) + 1) = (k : Int) + 1 := IntWalk.i64_in _ ⟨by omega, by omega⟩
      clear gX gY gZ bX bY bZ tX tY tZ hok2 HW0
      obtain ⟨p0, p1, p2⟩ := bx3 hB
      obtain ⟨f0, f1, f2⟩ := bxf3 hB
      go_wp2_with fail
      go_roundw
      case rel =>
        obtain ⟨t1, t2, t3⟩ := unhide HT
        refine ⟨k + 1, by omega, by first | rfl | trivial | go_num, up_alloc (up_set (up_set (up_set hu (by simp) _) (by simp) _) (by simp) _) _, ?_, bx_alloc (bx_far3 (v0 := .int .i64 (SX + m * (2 * x + l))) (v1 := .int .i64 (SY + m * (2 * y + wd))) (v2 := .int .i64 (SZ + m * (2 * z + h))) hZ (by omega)) _⟩
        rw [show mo fX (ps.take (k + 1)) = _ from t1, show mo fY (ps.take (k + 1)) = _ from t2, show mo fZ (ps.take (k + 1)) = _ from t3]
        exact bx_alloc (bx_set3 hB) _
      case measure => simp [intOf]; omega
    · obtain rfl : k = n := by omega
      have hF : ps.take k = ps := List.take_of_length_le (by rw [unhide HN]; omega)
      rw [hF] at hB
      obtain ⟨p0, p1, p2⟩ := bx3 hB
      obtain ⟨z0, z1, z2⟩ := bx3 hZ
      obtain ⟨f0, f1, f2⟩ := bxf3 hZ
      obtain ⟨a, ha⟩ : ∃ t, mo fX ps = t := ⟨_, rfl⟩
      obtain ⟨b', hb'⟩ : ∃ t, mo fY ps = t := ⟨_, rfl⟩
      obtain ⟨c, hc⟩ : ∃ t, mo fZ ps = t := ⟨_, rfl⟩
      rw [ha] at p0
      rw [hb'] at p1
      rw [hc] at p2
      have HE := hide (And.intro ha (And.intro hb' hc))
      clear hF hB ha hb' hc
      go_wp2_with fail
      obtain ⟨W9, hW9⟩ : ∃ W9 : World, W9 = (((wr.setCell ⟨w.heap.size, 0, none⟩ (.int .i64 a)).setCell ⟨w.heap.size, 1, none⟩ (.int .i64 b')).setCell ⟨w.heap.size, 2, none⟩ (.int .i64 c)) := ⟨_, rfl⟩
      rw [← hW9]
      have B9 : Bx W9 w.heap.size [.int .i64 a, .int .i64 b', .int .i64 c] := by rw [hW9]; exact bx_set3 hZ
      have U9 : Up w W9 := by rw [hW9]; exact up_set (up_set (up_set hu (by simp) _) (by simp) _) (by simp) _
      clear hW9 z0 z1 z2 f0 f1 f2 p0 p1 p2
      obtain ⟨q0, q1, q2⟩ := bx3 B9
      refine bodyPost_ret (v := .agg #[.int .i64 a, .int .i64 b', .int .i64 c]) (by simp [results, Tryz.results54, go_sem, q0, q1, q2]) rfl ⟨by rw [(unhide HE).1, (unhide HE).2.1, (unhide HE).2.2], U9⟩
end Go.Proofs.YtdehnokcjnbjoaaGreat
namespace Go.Proofs.YtdehnokcjnbjoaaGreat
open Go.RowKit Go.Proofs.Gn
set_option maxRecDepth 100000 in
set_option maxHeartbeats 8000000 in
theorem r_CentreL (s : ByteArray) (A : Option Addr) (ps : List Pce) (capA : Nat) (B : Option Addr) (ys : List Eye) (capB : Nat) (f : Int) (w : World) (hA : Pcs w A ps) (hB : Eyes w B ys) (hn : ps.length ≤ 9223372036854775807) (hm : ys.length ≤ 9223372036854775807) :
    Calls Tryz.prog 15 #[loV s A ps.length capA B ys.length capB f] w fun e w' => e = .returned (.tuple #[.agg #[.int .i64 (loC s ps ys f fX), .int .i64 (loC s ps ys f fY), .int .i64 (loC s ps ys f fZ)], .int .i64 (loE s ps ys f)]) ∧ Up w w' := by
  have HC := hide (fun W (hW : Up w W) => r_CheckL s A ps capA B ys capB f W (pcs_up hA hW) (eyes_up hB hW) hn hm)
  have HO := hide (fun W (hW : Up w W) (he : loE s ps ys f = 0) => r_moments2 A ps capA W (pcs_up hA hW) (loE_ok he).2.2.2.1 (loE_ok he).1.2.1)
  have HM := hide (fun W (hW : Up w W) (he : loE s ps ys f = 0) => r_mass2 A ps capA W (pcs_up hA hW) (loE_ok he).2.2.2.1 (loE_ok he).1.2.1)
  have HK := hide (fun (he : loE s ps ys f = 0) => (⟨(loE_ok he).2.2.2.2.2, mo_all fX fX_bd (loE_ok he).2.2.2.1 (loE_ok he).1.2.1, mo_all fY fY_bd (loE_ok he).2.2.2.1 (loE_ok he).1.2.1, mo_all fZ fZ_bd (loE_ok he).2.2.2.1 (loE_ok he).1.2.1⟩ : _ ∧ _ ∧ _ ∧ _))
  unfold loC
  clear hA hB
  generalize loE s ps ys f = E at *
  generalize mo fX ps = mx at *
  generalize mo fY ps = my at *
  generalize mo fZ ps = mz at *
  generalize mas ps = S at *
  generalize ps.length = n at *
  generalize ys.length = m at *
  by_cases he : E = 0
  · subst he
    have HM2 := hide (fun W hW => unhide HM W hW rfl)
    have HO2 := hide (fun W hW => unhide HO W hW rfl)
    obtain ⟨⟨k1, k2⟩, ⟨b1, b2⟩, ⟨b3, b4⟩, ⟨b5, b6⟩⟩ := unhide HK rfl
    simp only [if_pos]
    rw [ceV_eq (n := mx) ⟨by omega, by omega⟩ ⟨k1, k2⟩, ceV_eq (n := my) ⟨by omega, by omega⟩ ⟨k1, k2⟩, ceV_eq (n := mz) ⟨by omega, by omega⟩ ⟨k1, k2⟩]
    have HX := hide (fun W => r_Floor (mx + S) (2 * S) W (by omega) (by omega) (by omega) (by omega))
    have HY := hide (fun W => r_Floor (my + S) (2 * S) W (by omega) (by omega) (by omega) (by omega))
    have HZ := hide (fun W => r_Floor (mz + S) (2 * S) W (by omega) (by omega) (by omega) (by omega))
    generalize (mx + S) / (2 * S) = cx at *
    generalize (my + S) / (2 * S) = cy at *
    generalize (mz + S) / (2 * S) = cz at *
    have hw1 : IntKind.i64.wrap (mx + S) = mx + S := IntWalk.i64_in _ ⟨by omega, by omega⟩
    have hw2 : IntKind.i64.wrap (my + S) = my + S := IntWalk.i64_in _ ⟨by omega, by omega⟩
    have hw3 : IntKind.i64.wrap (mz + S) = mz + S := IntWalk.i64_in _ ⟨by omega, by omega⟩
    have hw4 : IntKind.i64.wrap (2 * S) = 2 * S := IntWalk.i64_in _ ⟨by omega, by omega⟩
    clear HM HO HK k1 k2 b1 b2 b3 b4 b5 b6
    go_enter Tryz.func15, Tryz.ntmps15
    go_upto_region 1 with fail
    refine at_wp (fun W0 hW0 => ?_)
    have t2 := bxm2 w [.string s, .slice A n capA, .slice B m capB, .int .i64 f] [.int .i64 0, .int .i64 0, .int .i64 0] 25 31
    have U0 : Up w W0 := by rw [hW0]; exact (by repeat' (first | (with_reducible exact up_refl _) | (with_reducible assumption) | (with_reducible refine up_alloc ?_ _) | (with_reducible refine up_drewN ?_ _) | (with_reducible refine up_drew ?_) | (with_reducible refine up_set ?_ (by first | (simp; done) | (simp; omega) | omega) _) | (refine up_trans ?_ (by with_reducible assumption))))
    have B0 : Bx W0 w.heap.size [.string s, .slice A n capA, .slice B m capB, .int .i64 f] := by rw [hW0]; exact t2.1
    have R0 : Bx W0 (w.heap.size + 1) [.int .i64 0, .int .i64 0, .int .i64 0] := by rw [hW0]; exact t2.2
    clear hW0 t2
    have c0 := (B0 0 _ rfl).1
    have c1 := (B0 1 _ rfl).1
    have c2 := (B0 2 _ rfl).1
    have c3 := (B0 3 _ rfl).1
    go_wp2_with (go_at_call 17; (with_reducible refine (unhide HC _ U0).mono ?_); rintro e w1 ⟨rfl, hb⟩)
    have U1 := up_trans U0 hb
    have B1 := bx_up B0 hb
    have R1 := bx_up R0 hb
    have zr := bx_lt R1 (by simp)
    clear hb c0 c1 c2 c3 B0 R0 U0 HC
    have c1 := (B1 1 _ rfl).1
    have HO4 := hide (fun W (hW : Up w1 W) => (unhide HO2 W (up_trans U1 hW)).mono fun e w' ⟨a, b⟩ => (⟨a, b, up_trans hW b⟩ : _ ∧ _ ∧ _))
    have HM4 := hide (fun W (hW : Up w1 W) => (unhide HM2 W (up_trans U1 hW)).mono fun e w' ⟨a, b⟩ => (⟨a, b, up_trans hW b⟩ : _ ∧ _ ∧ _))
    have HK := hide (fun W (hW : Up w1 W) => (⟨up_cell hW c1, hW⟩ : W.cell? ⟨w.heap.size, 1, none⟩ = some (.slice A n capA) ∧ Up w1 W))
    clear HO2 HM2
    go_cut [4, 5] (fun sa sb wx => ∃ g : Nat, sa = .pointer (some ⟨g, 0, none⟩) ∧ sb = .int .i64 S ∧ Bx wx g [.int .i64 mx, .int .i64 my, .int .i64 mz] ∧ w1.heap.size ≤ g ∧ Up w1 wx)
    case first =>
      have t1 := Nat.le_refl w1.heap.size
      clear U1 B1 R1 HX HY HZ
      go_region_held3 (fun wx => wx.cell? ⟨w.heap.size, 1, none⟩ = some (.slice A n capA) ∧ Up w1 wx) ((go_split_ands; exact unhide HK _ (by repeat' (first | (with_reducible exact up_refl _) | (with_reducible assumption) | (with_reducible refine up_alloc ?_ _) | (with_reducible refine up_drewN ?_ _) | (with_reducible refine up_drew ?_) | (with_reducible refine up_set ?_ (by first | (simp; done) | (simp; omega) | omega) _) | (refine up_trans ?_ (by with_reducible assumption))))))
        (first
          | (go_at_call 54; (with_reducible refine (unhide HO4 _ (by go_split_ands; exact (by repeat' (first | (with_reducible exact up_refl _) | (with_reducible assumption) | (with_reducible refine up_alloc ?_ _) | (with_reducible refine up_drewN ?_ _) | (with_reducible refine up_drew ?_) | (with_reducible refine up_set ?_ (by first | (simp; done) | (simp; omega) | omega) _) | (refine up_trans ?_ (by with_reducible assumption)))))).mono ?_); rintro e w2 ⟨rfl, hb2, hb2'⟩; have tw2 := up_size hb2'; have zm := bx_up zs hb2; obtain ⟨z3, z4, z5⟩ := bx3 zm; obtain ⟨f3, f4, f5⟩ := bxf3 zm)
          | (go_at_call 54; (with_reducible refine (unhide HO4 _ (by go_split_ands; exact (by repeat' (first | (with_reducible exact up_refl _) | (with_reducible assumption) | (with_reducible refine up_alloc ?_ _) | (with_reducible refine up_drewN ?_ _) | (with_reducible refine up_drew ?_) | (with_reducible refine up_set ?_ (by first | (simp; done) | (simp; omega) | omega) _) | (refine up_trans ?_ (by with_reducible assumption)))))).mono ?_); rintro e w2 ⟨rfl, hb2, hb2'⟩; have tw2 := up_size hb2'; have zm := bx_up (bx_new _ [.int .i64 0, .int .i64 0, .int .i64 0] 31) hb2; obtain ⟨z3, z4, z5⟩ := bx3 zm; obtain ⟨f3, f4, f5⟩ := bxf3 zm)
          | (go_at_call 54; (with_reducible refine (unhide HO4 _ (by go_split_ands; exact (by repeat' (first | (with_reducible exact up_refl _) | (with_reducible assumption) | (with_reducible refine up_alloc ?_ _) | (with_reducible refine up_drewN ?_ _) | (with_reducible refine up_drew ?_) | (with_reducible refine up_set ?_ (by first | (simp; done) | (simp; omega) | omega) _) | (refine up_trans ?_ (by with_reducible assumption)))))).mono ?_); rintro e w2 ⟨rfl, hb2, hb2'⟩; have tw2 := up_size hb2'; have zm := bx_up (bx_drew (bx_new _ [.int .i64 0, .int .i64 0, .int .i64 0] 31)) hb2; obtain ⟨z3, z4, z5⟩ := bx3 zm; obtain ⟨f3, f4, f5⟩ := bxf3 zm)
          | (go_at_call 54; (with_reducible refine (unhide HO4 _ (by go_split_ands; exact (by repeat' (first | (with_reducible exact up_refl _) | (with_reducible assumption) | (with_reducible refine up_alloc ?_ _) | (with_reducible refine up_drewN ?_ _) | (with_reducible refine up_drew ?_) | (with_reducible refine up_set ?_ (by first | (simp; done) | (simp; omega) | omega) _) | (refine up_trans ?_ (by with_reducible assumption)))))).mono ?_); rintro e w2 ⟨rfl, hb2, hb2'⟩; have tw2 := up_size hb2')
          | (go_at_call 52; (with_reducible refine (unhide HM4 _ (by go_split_ands; exact (by repeat' (first | (with_reducible exact up_refl _) | (with_reducible assumption) | (with_reducible refine up_alloc ?_ _) | (with_reducible refine up_drewN ?_ _) | (with_reducible refine up_drew ?_) | (with_reducible refine up_set ?_ (by first | (simp; done) | (simp; omega) | omega) _) | (refine up_trans ?_ (by with_reducible assumption)))))).mono ?_); rintro e w3 ⟨rfl, hb3, hb3'⟩; have tw3 := up_size hb3'; have zs := bx_up zm hb3; obtain ⟨z3, z4, z5⟩ := bx3 zs; obtain ⟨f3, f4, f5⟩ := bxf3 zs)
          | (go_at_call 52; (with_reducible refine (unhide HM4 _ (by go_split_ands; exact (by repeat' (first | (with_reducible exact up_refl _) | (with_reducible assumption) | (with_reducible refine up_alloc ?_ _) | (with_reducible refine up_drewN ?_ _) | (with_reducible refine up_drew ?_) | (with_reducible refine up_set ?_ (by first | (simp; done) | (simp; omega) | omega) _) | (refine up_trans ?_ (by with_reducible assumption)))))).mono ?_); rintro e w3 ⟨rfl, hb3, hb3'⟩; have tw3 := up_size hb3'; have zs := bx_up (bx_new _ [.int .i64 0, .int .i64 0, .int .i64 0] 31) hb3; obtain ⟨z3, z4, z5⟩ := bx3 zs; obtain ⟨f3, f4, f5⟩ := bxf3 zs)
          | (go_at_call 52; (with_reducible refine (unhide HM4 _ (by go_split_ands; exact (by repeat' (first | (with_reducible exact up_refl _) | (with_reducible assumption) | (with_reducible refine up_alloc ?_ _) | (with_reducible refine up_drewN ?_ _) | (with_reducible refine up_drew ?_) | (with_reducible refine up_set ?_ (by first | (simp; done) | (simp; omega) | omega) _) | (refine up_trans ?_ (by with_reducible assumption)))))).mono ?_); rintro e w3 ⟨rfl, hb3, hb3'⟩; have tw3 := up_size hb3'; have zs := bx_up (bx_drew (bx_new _ [.int .i64 0, .int .i64 0, .int .i64 0] 31)) hb3; obtain ⟨z3, z4, z5⟩ := bx3 zs; obtain ⟨f3, f4, f5⟩ := bxf3 zs)
          | (go_at_call 52; (with_reducible refine (unhide HM4 _ (by go_split_ands; exact (by repeat' (first | (with_reducible exact up_refl _) | (with_reducible assumption) | (with_reducible refine up_alloc ?_ _) | (with_reducible refine up_drewN ?_ _) | (with_reducible refine up_drew ?_) | (with_reducible refine up_set ?_ (by first | (simp; done) | (simp; omega) | omega) _) | (refine up_trans ?_ (by with_reducible assumption)))))).mono ?_); rintro e w3 ⟨rfl, hb3, hb3'⟩; have tw3 := up_size hb3'))
      all_goals
        have u2 : Up w1 w2 := hb2'
        have u3 : Up w1 w3 := hb3'
        go_wp2_with fail
        go_meet
        first
          | (refine ⟨w3.heap.size, by with_reducible rfl, rfl, ?_, tw3, (by repeat' (first | (with_reducible exact up_refl _) | (with_reducible assumption) | (with_reducible refine up_alloc ?_ _) | (with_reducible refine up_drewN ?_ _) | (with_reducible refine up_drew ?_) | (with_reducible refine up_set ?_ (by first | (simp; done) | (simp; omega) | omega) _) | (refine up_trans ?_ (by with_reducible assumption))))⟩; exact bx_new w3 _ 31)
          | (refine ⟨w2.heap.size, by with_reducible rfl, rfl, ?_, tw2, (by repeat' (first | (with_reducible exact up_refl _) | (with_reducible assumption) | (with_reducible refine up_alloc ?_ _) | (with_reducible refine up_drewN ?_ _) | (with_reducible refine up_drew ?_) | (with_reducible refine up_set ?_ (by first | (simp; done) | (simp; omega) | omega) _) | (refine up_trans ?_ (by with_reducible assumption))))⟩; exact bx_new w2 _ 31)
          | (refine ⟨w1.heap.size, by with_reducible rfl, rfl, ?_, Nat.le_refl _, (by repeat' (first | (with_reducible exact up_refl _) | (with_reducible assumption) | (with_reducible refine up_alloc ?_ _) | (with_reducible refine up_drewN ?_ _) | (with_reducible refine up_drew ?_) | (with_reducible refine up_set ?_ (by first | (simp; done) | (simp; omega) | omega) _) | (refine up_trans ?_ (by with_reducible assumption))))⟩; first | exact bx_set3 zm | exact bx_set3 zs)
          | (refine ⟨w2.heap.size, by with_reducible rfl, rfl, ?_, tw2, (by repeat' (first | (with_reducible exact up_refl _) | (with_reducible assumption) | (with_reducible refine up_alloc ?_ _) | (with_reducible refine up_drewN ?_ _) | (with_reducible refine up_drew ?_) | (with_reducible refine up_set ?_ (by first | (simp; done) | (simp; omega) | omega) _) | (refine up_trans ?_ (by with_reducible assumption))))⟩; exact bx_set3 zs)
          | (refine ⟨w3.heap.size, by with_reducible rfl, rfl, ?_, tw3, (by repeat' (first | (with_reducible exact up_refl _) | (with_reducible assumption) | (with_reducible refine up_alloc ?_ _) | (with_reducible refine up_drewN ?_ _) | (with_reducible refine up_drew ?_) | (with_reducible refine up_set ?_ (by first | (simp; done) | (simp; omega) | omega) _) | (refine up_trans ?_ (by with_reducible assumption))))⟩; exact bx_set3 zm)
    case rest =>
      obtain ⟨g, rfl, rfl, hG, hg, hu⟩ := hcut
      have Z0 := bx_up R1 hu
      have hU := up_trans U1 hu
      clear HO4 HM4 HK B1 R1 U1 c1 hu
      have gl := bx_lt hG (by simp)
      go_wp2_with fail
      refine at_wp (fun V0 hV0 => ?_)
      have o0 : Bx V0 wc.heap.size [.int .i64 0, .int .i64 0, .int .i64 0] := by rw [hV0]; exact bx_new wc _ 31
      have g0 : Bx V0 g [.int .i64 mx, .int .i64 my, .int .i64 mz] := by rw [hV0]; exact bx_alloc hG _
      have z0 : Bx V0 (w.heap.size + 1) [.int .i64 0, .int .i64 0, .int .i64 0] := by rw [hV0]; exact bx_alloc Z0 _
      have U0 : Up w V0 := by rw [hV0]; exact up_alloc hU _
      clear hV0 hG Z0 hU
      refine wp_loop_rounds 4 ?_
      obtain ⟨p0, p1, p2⟩ := bx3 g0
      obtain ⟨q0, q1, q2⟩ := bx3 o0
      obtain ⟨f0, f1, f2⟩ := bxf3 o0
      rw [rounds_succ]
      go_wp2_with (go_at_call 56; (with_reducible refine (unhide HX _).mono ?_); rintro e v1 ⟨rfl, rfl⟩)
      refine at_rounds (fun V1 hV1 => ?_)
      have o1 : Bx V1 wc.heap.size [.int .i64 cx, .int .i64 0, .int .i64 0] := by rw [hV1]; exact bx_set o0 0 _
      have g1 : Bx V1 g [.int .i64 mx, .int .i64 my, .int .i64 mz] := by rw [hV1]; exact bx_far g0 (by simp; omega) _
      have z1 : Bx V1 (w.heap.size + 1) [.int .i64 0, .int .i64 0, .int .i64 0] := by rw [hV1]; exact bx_far z0 (by simp; omega) _
      have U1 : Up w V1 := by rw [hV1]; exact up_set U0 (by simp; omega) _
      clear hV1 o0 g0 z0 U0 p0 p1 p2 q0 q1 q2 f0 f1 f2
      obtain ⟨p0, p1, p2⟩ := bx3 g1
      obtain ⟨q0, q1, q2⟩ := bx3 o1
      obtain ⟨f0, f1, f2⟩ := bxf3 o1
      rw [rounds_succ]
      go_wp2_with (go_at_call 56; (with_reducible refine (unhide HY _).mono ?_); rintro e v1 ⟨rfl, rfl⟩)
      refine at_rounds (fun V2 hV2 => ?_)
      have o2 : Bx V2 wc.heap.size [.int .i64 cx, .int .i64 cy, .int .i64 0] := by rw [hV2]; exact bx_set o1 1 _
      have g2 : Bx V2 g [.int .i64 mx, .int .i64 my, .int .i64 mz] := by rw [hV2]; exact bx_far g1 (by simp; omega) _
      have z2 : Bx V2 (w.heap.size + 1) [.int .i64 0, .int .i64 0, .int .i64 0] := by rw [hV2]; exact bx_far z1 (by simp; omega) _
      have U2 : Up w V2 := by rw [hV2]; exact up_set U1 (by simp; omega) _
      clear hV2 o1 g1 z1 U1 p0 p1 p2 q0 q1 q2 f0 f1 f2
      obtain ⟨p0, p1, p2⟩ := bx3 g2
      obtain ⟨q0, q1, q2⟩ := bx3 o2
      obtain ⟨f0, f1, f2⟩ := bxf3 o2
      rw [rounds_succ]
      go_wp2_with (go_at_call 56; (with_reducible refine (unhide HZ _).mono ?_); rintro e v1 ⟨rfl, rfl⟩)
      refine at_rounds (fun V3 hV3 => ?_)
      have o3 : Bx V3 wc.heap.size [.int .i64 cx, .int .i64 cy, .int .i64 cz] := by rw [hV3]; exact bx_set o2 2 _
      have g3 : Bx V3 g [.int .i64 mx, .int .i64 my, .int .i64 mz] := by rw [hV3]; exact bx_far g2 (by simp; omega) _
      have z3 : Bx V3 (w.heap.size + 1) [.int .i64 0, .int .i64 0, .int .i64 0] := by rw [hV3]; exact bx_far z2 (by simp; omega) _
      have U3 : Up w V3 := by rw [hV3]; exact up_set U2 (by simp; omega) _
      clear hV3 o2 g2 z2 U2 p0 p1 p2 q0 q1 q2 f0 f1 f2
      rw [rounds_succ]
      obtain ⟨d0, d1, d2⟩ := bx3 o3
      obtain ⟨r0, r1, r2⟩ := bx3 z3
      obtain ⟨f0, f1, f2⟩ := bxf3 z3
      go_wp2_with fail
      obtain ⟨W9, hW9⟩ : ∃ W9 : World, W9 = (((V3.setCell ⟨w.heap.size + 1, 0, none⟩ (.int .i64 cx)).setCell ⟨w.heap.size + 1, 1, none⟩ (.int .i64 cy)).setCell ⟨w.heap.size + 1, 2, none⟩ (.int .i64 cz)) := ⟨_, rfl⟩
      rw [← hW9]
      have B9 : Bx W9 (w.heap.size + 1) [.int .i64 cx, .int .i64 cy, .int .i64 cz] := by rw [hW9]; exact bx_set3 z3
      have U9 : Up w W9 := by rw [hW9]; exact up_set (up_set (up_set U3 (by simp) _) (by simp) _) (by simp) _
      clear hW9 r0 r1 r2 f0 f1 f2 d0 d1 d2
      obtain ⟨q0, q1, q2⟩ := bx3 B9
      refine bodyPost_ret (v := .tuple #[.agg #[.int .i64 cx, .int .i64 cy, .int .i64 cz], .int .i64 0]) (by simp [results, Tryz.results15, go_sem, q0, q1, q2]) rfl ⟨rfl, U9⟩
  · have t : (E == 0) = false := by simp [he]
    simp only [if_neg he]
    have HH := hide he
    clear he HM HO HK
    go_enter Tryz.func15, Tryz.ntmps15
    go_upto_region 1 with fail
    refine at_wp (fun W0 hW0 => ?_)
    have t2 := bxm2 w [.string s, .slice A n capA, .slice B m capB, .int .i64 f] [.int .i64 0, .int .i64 0, .int .i64 0] 25 31
    have U0 : Up w W0 := by rw [hW0]; exact (by repeat' (first | (with_reducible exact up_refl _) | (with_reducible assumption) | (with_reducible refine up_alloc ?_ _) | (with_reducible refine up_drewN ?_ _) | (with_reducible refine up_drew ?_) | (with_reducible refine up_set ?_ (by first | (simp; done) | (simp; omega) | omega) _) | (refine up_trans ?_ (by with_reducible assumption))))
    have B0 : Bx W0 w.heap.size [.string s, .slice A n capA, .slice B m capB, .int .i64 f] := by rw [hW0]; exact t2.1
    have R0 : Bx W0 (w.heap.size + 1) [.int .i64 0, .int .i64 0, .int .i64 0] := by rw [hW0]; exact t2.2
    clear hW0 t2
    have c0 := (B0 0 _ rfl).1
    have c1 := (B0 1 _ rfl).1
    have c2 := (B0 2 _ rfl).1
    have c3 := (B0 3 _ rfl).1
    go_wp2_with (go_at_call 17; (with_reducible refine (unhide HC _ (by first | exact U2 | exact U1 | exact U0)).mono ?_); rintro e w1 ⟨rfl, hb⟩; first | (have U2 := up_trans U1 hb; have R2 := bx_up R1 hb; obtain ⟨r0, r1, r2⟩ := bx3 R2; obtain ⟨f0, f1, f2⟩ := bxf3 R2) | (have U1 := up_trans U0 hb; have B1 := bx_up B0 hb; have R1 := bx_up R0 hb; have k0 := (B1 0 _ rfl).1; have k1 := (B1 1 _ rfl).1; have k2 := (B1 2 _ rfl).1; have k3 := (B1 3 _ rfl).1))
    obtain ⟨W9, hW9⟩ : ∃ W9 : World, W9 = (((w1.setCell ⟨w.heap.size + 1, 0, none⟩ (.int .i64 0)).setCell ⟨w.heap.size + 1, 1, none⟩ (.int .i64 0)).setCell ⟨w.heap.size + 1, 2, none⟩ (.int .i64 0)) := ⟨_, rfl⟩
    rw [← hW9]
    have B9 : Bx W9 (w.heap.size + 1) [.int .i64 0, .int .i64 0, .int .i64 0] := by rw [hW9]; exact bx_set3 R2
    have U9 : Up w W9 := by rw [hW9]; exact up_set (up_set (up_set U2 (by simp) _) (by simp) _) (by simp) _
    clear hW9 r0 r1 r2 f0 f1 f2
    obtain ⟨q0, q1, q2⟩ := bx3 B9
    refine bodyPost_ret (v := .tuple #[.agg #[.int .i64 0, .int .i64 0, .int .i64 0], .int .i64 E]) (by simp [results, Tryz.results15, go_sem, q0, q1, q2]) rfl ⟨rfl, U9⟩
end Go.Proofs.YtdehnokcjnbjoaaGreat
namespace Go.Proofs.YtdehnokcjnbjoaaGreat
open Go.RowKit Go.Proofs.Gn
attribute [local go_sem] Oper.semAt_some
set_option linter.unusedVariables false
set_option maxRecDepth 100000 in
set_option maxHeartbeats 8000000 in
theorem l_samePts (A B : Option Addr) (ps : Pl) (cA cB : Nat) (w : World) (hA : Pts w A ps) (hB : Pts w B ps) (hn : ps.length ≤ 9223372036854775807) :
    Calls Tryz.prog 24 #[.slice A ps.length cA, .slice B ps.length cB] w fun e w' => e = .returned (.bool true) ∧ Up w w' := by
  have HA := hide (fun k (hk : k < ps.length) => (⟨hA, hB⟩ : Pts w A ps ∧ Pts w B ps))
  have HL := hide (show ∀ k, k < ps.length → ∃ b off b2 off2, A = some ⟨b, off, none⟩ ∧ B = some ⟨b2, off2, none⟩ ∧ ∀ W, Up w W → (W.cell? ⟨b, off + k * 2, none⟩ = some (.int .i64 (ps.getD k (0, 0)).1) ∧ W.cell? ⟨b, off + k * 2 + 1, none⟩ = some (.int .i64 (ps.getD k (0, 0)).2)) ∧ (W.cell? ⟨b2, off2 + k * 2, none⟩ = some (.int .i64 (ps.getD k (0, 0)).1) ∧ W.cell? ⟨b2, off2 + k * 2 + 1, none⟩ = some (.int .i64 (ps.getD k (0, 0)).2)) from fun k hk => by
    have hne : ps ≠ [] := by intro e; rw [e] at hk; simp at hk
    obtain ⟨b, off, rfl, hc⟩ := hA.resolve_left hne
    obtain ⟨b2, off2, rfl, hc2⟩ := hB.resolve_left hne
    have e : ps.getD k (0, 0) = ps[k] := by rw [List.getD_eq_getElem?_getD, List.getElem?_eq_getElem hk]; rfl
    refine ⟨b, off, b2, off2, rfl, rfl, fun W hW => ?_⟩
    rw [e]
    exact ⟨⟨up_cell hW (hc k hk).1, up_cell hW (hc k hk).2⟩, ⟨up_cell hW (hc2 k hk).1, up_cell hW (hc2 k hk).2⟩⟩)
  clear hA hB HA
  generalize ps.length = n at *
  have t0 : ((n : Int) == (n : Int)) = true := by simp
  go_enter Tryz.func24, Tryz.ntmps24
  go_upto_region 4 with fail
  go_loopw [5] (fun s5 wr => ∃ k : Nat, k ≤ n ∧ s5 = .int .i64 k ∧ Up w wr) (fun s5 _ => n - (intOf s5).toNat)
  case atStart => exact ⟨0, by omega, rfl, up_refl _⟩
  case round =>
    obtain ⟨k, hk, rfl, hu⟩ := hrel
    by_cases hlt : k < n
    · obtain ⟨b, off, b2, off2, rfl, rfl, hc⟩ := unhide HL k hlt
      generalize (ps.getD k (0, 0)).1 = x at *
      generalize (ps.getD k (0, 0)).2 = y at *
      have i0 : (0 : Int) ≤ (k : Int) := by omega
      have i1 : (k : Int) < (n : Int) := by omega
      have i3 : (k : Int).toNat = k := by omega
      have hwk : IntKind.i64.wrap ((k : Int) + 1) = (k : Int) + 1 := IntWalk.i64_in _ ⟨by omega, by omega⟩
      have Q0 : ∀ r : UpW wr, r.v.cell? ⟨b, off + k * 2, none⟩ = some (.int .i64 x) := fun r => (hc _ (up_trans hu r.up)).1.1
      have Q1 : ∀ r : UpW wr, r.v.cell? ⟨b, off + k * 2 + 1, none⟩ = some (.int .i64 y) := fun r => (hc _ (up_trans hu r.up)).1.2
      have Q2 : ∀ r : UpW wr, r.v.cell? ⟨b2, off2 + k * 2, none⟩ = some (.int .i64 x) := fun r => (hc _ (up_trans hu r.up)).2.1
      have Q3 : ∀ r : UpW wr, r.v.cell? ⟨b2, off2 + k * 2 + 1, none⟩ = some (.int .i64 y) := fun r => (hc _ (up_trans hu r.up)).2.2
      have x1 : (x == x) = true := by simp
      have x2 : (y == y) = true := by simp
      clear hc
      go_upto_region 6 with fail
      refine wp_upq (by kernel_rfl) (by kernel_rfl) ?_; (repeat (go_big_quiet_step (fail))); refine wpQuiet_nil ?_; intro _ hw'; obtain ⟨pq, hw''⟩ := hw'; subst hw''; have hpq := pq.up
      generalize pq.v = W3 at hpq ⊢
      clear Q0 Q1 Q2 Q3
      go_wp2_with fail
      go_roundw
      case rel => exact ⟨k + 1, by omega, by go_num, up_trans hu hpq⟩
      case measure => simp [intOf]; omega
    · obtain rfl : k = n := by omega
      have i1 : ¬ (k : Int) < (k : Int) := by omega
      go_wp2_with fail
      go_ret
      exact ⟨rfl, hu⟩
set_option maxRecDepth 100000 in
set_option maxHeartbeats 8000000 in
theorem r_MomentsL (s : ByteArray) (A : Option Addr) (ps : List Pce) (capA : Nat) (B : Option Addr) (ys : List Eye) (capB : Nat) (f : Int) (w : World) (hA : Pcs w A ps) (hB : Eyes w B ys) (hn : ps.length ≤ 9223372036854775807) (hm : ys.length ≤ 9223372036854775807) :
    Calls Tryz.prog 13 #[loV s A ps.length capA B ys.length capB f] w fun e w' => e = .returned (.tuple #[.agg #[.int .i64 (loO s ps ys f fX), .int .i64 (loO s ps ys f fY), .int .i64 (loO s ps ys f fZ)], .int .i64 (loE s ps ys f)]) ∧ Up w w' := by
  have HC := hide (fun W (hW : Up w W) => r_CheckL s A ps capA B ys capB f W (pcs_up hA hW) (eyes_up hB hW) hn hm)
  have HM := hide (fun W (hW : Up w W) (he : loE s ps ys f = 0) => r_moments2 A ps capA W (pcs_up hA hW) (loE_ok he).2.2.2.1 (loE_ok he).1.2.1)
  unfold loO
  clear hA hB
  generalize loE s ps ys f = E at *
  generalize mo fX ps = mx at *
  generalize mo fY ps = my at *
  generalize mo fZ ps = mz at *
  generalize ps.length = n at *
  generalize ys.length = m at *
  go_enter Tryz.func13, Tryz.ntmps13
  go_upto_region 1 with fail
  refine at_wpC (fun W0 hW0 => ?_)
  have U0 : Up w W0 := by rw [hW0]; exact (by repeat' (first | (with_reducible exact up_refl _) | (with_reducible assumption) | (with_reducible refine up_alloc ?_ _) | (with_reducible refine up_drewN ?_ _) | (with_reducible refine up_drew ?_) | (with_reducible refine up_set ?_ (by first | (simp; done) | (simp; omega) | omega) _) | (refine up_trans ?_ (by with_reducible assumption))))
  obtain ⟨bL, bR⟩ : Bx W0 w.heap.size [.string s, .slice A n capA, .slice B m capB, .int .i64 f] ∧ Bx W0 (w.heap.size + 1) [.int .i64 0, .int .i64 0, .int .i64 0] := by
    rw [hW0]
    refine ⟨bx_alloc (bx_new w _ _) _, ?_⟩
    have q := bx_new (w.alloc (.cells #[.string s, .slice A n capA, .slice B m capB, .int .i64 f] 25)) [.int .i64 0, .int .i64 0, .int .i64 0] 31
    rw [World.size_alloc] at q
    exact q
  clear hW0
  have c0 := (bL 0 _ rfl).1
  have c1 := (bL 1 _ rfl).1
  have c2 := (bL 2 _ rfl).1
  have c3 := (bL 3 _ rfl).1
  by_cases he : E = 0
  · subst he
    have HM2 := hide (fun W hW => unhide HM W hW rfl)
    clear HM
    go_upto_region 3 with (go_at_call 17; (with_reducible refine (unhide HC _ U0).mono ?_); rintro e w1 ⟨rfl, v1⟩; have bL1 := bx_up bL v1; have bR1 := bx_up bR v1; have U1 := up_trans U0 v1)
    clear bL bR U0 v1 c0 c1 c2 c3
    generalize hgR : w.heap.size + 1 = gR at *
    have k1 := (bL1 1 _ rfl).1
    go_wp2_with (go_at_call 54; (with_reducible refine (unhide HM2 _ U1).mono ?_); rintro e w2 ⟨rfl, v2⟩; have bR2 := bx_up bR1 v2; have U2 := up_trans U1 v2; have r0 := (bR2 0 _ rfl).1; have r1 := (bR2 1 _ rfl).1; have r2 := (bR2 2 _ rfl).1; have f0 := (bR2 0 _ rfl).2; have f1 := (bR2 1 _ rfl).2; have f2 := (bR2 2 _ rfl).2)
    have B9 := bx_set (bx_set (bx_set bR2 0 (.int .i64 mx)) 1 (.int .i64 my)) 2 (.int .i64 mz)
    have UZ := up_set (up_set (up_set U2 (p := ⟨gR, 0, none⟩) (by simp only; omega) (.int .i64 mx)) (p := ⟨gR, 1, none⟩) (by simp only; omega) (.int .i64 my)) (p := ⟨gR, 2, none⟩) (by simp only; omega) (.int .i64 mz)
    generalize ((w2.setCell ⟨gR, 0, none⟩ (.int .i64 mx)).setCell ⟨gR, 1, none⟩ (.int .i64 my)).setCell ⟨gR, 2, none⟩ (.int .i64 mz) = W9 at B9 UZ ⊢
    have q0 := (B9 0 _ rfl).1
    have q1 := (B9 1 _ rfl).1
    have q2 := (B9 2 _ rfl).1
    refine bodyPost_ret (v := .tuple #[.agg #[.int .i64 mx, .int .i64 my, .int .i64 mz], .int .i64 0]) (by simp [results, Tryz.f13, go_sem, q0, q1, q2]) rfl ?_
    exact ⟨rfl, UZ⟩
  · have t : (E == 0) = false := by simp [he]
    have HH := hide he
    clear he
    go_upto_region 2 with (go_at_call 17; (with_reducible refine (unhide HC _ U0).mono ?_); rintro e w1 ⟨rfl, v1⟩; have bL1 := bx_up bL v1; have bR1 := bx_up bR v1; have U1 := up_trans U0 v1)
    clear bL bR U0 v1 c0 c1 c2 c3
    generalize hgR : w.heap.size + 1 = gR at *
    have c0 := (bL1 0 _ rfl).1
    have c1 := (bL1 1 _ rfl).1
    have c2 := (bL1 2 _ rfl).1
    have c3 := (bL1 3 _ rfl).1
    go_wp2_with (go_at_call 17; (with_reducible refine (unhide HC _ U1).mono ?_); rintro e w2 ⟨rfl, v2⟩; have bR2 := bx_up bR1 v2; have U2 := up_trans U1 v2; have r0 := (bR2 0 _ rfl).1; have r1 := (bR2 1 _ rfl).1; have r2 := (bR2 2 _ rfl).1; have f0 := (bR2 0 _ rfl).2; have f1 := (bR2 1 _ rfl).2; have f2 := (bR2 2 _ rfl).2)
    have B9 := bx_set (bx_set (bx_set bR2 0 (.int .i64 0)) 1 (.int .i64 0)) 2 (.int .i64 0)
    have UZ := up_set (up_set (up_set U2 (p := ⟨gR, 0, none⟩) (by simp only; omega) (.int .i64 0)) (p := ⟨gR, 1, none⟩) (by simp only; omega) (.int .i64 0)) (p := ⟨gR, 2, none⟩) (by simp only; omega) (.int .i64 0)
    generalize ((w2.setCell ⟨gR, 0, none⟩ (.int .i64 0)).setCell ⟨gR, 1, none⟩ (.int .i64 0)).setCell ⟨gR, 2, none⟩ (.int .i64 0) = W9 at B9 UZ ⊢
    have q0 := (B9 0 _ rfl).1
    have q1 := (B9 1 _ rfl).1
    have q2 := (B9 2 _ rfl).1
    refine bodyPost_ret (v := .tuple #[.agg #[.int .i64 0, .int .i64 0, .int .i64 0], .int .i64 E]) (by simp [results, Tryz.f13, go_sem, q0, q1, q2]) rfl ?_
    exact ⟨by first | rfl | simp only [if_neg (unhide HH)], UZ⟩
end Go.Proofs.YtdehnokcjnbjoaaGreat
