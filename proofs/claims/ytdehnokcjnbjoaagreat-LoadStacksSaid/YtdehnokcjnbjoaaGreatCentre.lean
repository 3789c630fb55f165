/- load's Moments and Centre: the program's. -/
import Derived.Test.YtdehnokcjnbjoaaGreatPkMom
import Derived.Test.YtdehnokcjnbjoaaGreatChkL
import Derived.Test.YtdehnokcjnbjoaaGreatPkVehC
namespace Go.Proofs.YtdehnokcjnbjoaaGreat
open Go.RowKit Go.Proofs.Gn
/-- A coordinate of the centre. -/
def ceV (n k : Int) : Int := neV n (2 * k)
def loC (s : ByteArray) (ps : List Pce) (ys : List Eye) (f : Int) (g : Pce → Int) : Int := if loE s ps ys f = 0 then ceV (mo g ps) (mas ps) else 0
set_option maxRecDepth 100000 in
set_option maxHeartbeats 8000000 in
theorem p_CentreL (s : ByteArray) (A : Option Addr) (ps : List Pce) (capA : Nat) (B : Option Addr) (ys : List Eye) (capB : Nat) (f : Int) (w : World) (hA : Pcs w A ps) (hB : Eyes w B ys) (hn : ps.length ≤ 9223372036854775807) (hm : ys.length ≤ 9223372036854775807) :
    Calls Tryz.prog 14 #[loV s A ps.length capA B ys.length capB f] w fun e w' => e = .returned (.tuple #[.agg #[.int .i64 (loC s ps ys f fX), .int .i64 (loC s ps ys f fY), .int .i64 (loC s ps ys f fZ)], .int .i64 (loE s ps ys f)]) ∧ Up w w' := by
  have HC := hide (fun W (hW : Up w W) => p_CheckL s A ps capA B ys capB f W (pcs_up hA hW) (eyes_up hB hW) hn hm)
  have HO := hide (fun W (hW : Up w W) (he : loE s ps ys f = 0) => p_moments A ps capA W (pcs_up hA hW) (loE_ok he).2.2.2.1 (loE_ok he).1.2.1)
  have HM := hide (fun W (hW : Up w W) (he : loE s ps ys f = 0) => p_mass A ps capA W (pcs_up hA hW) (loE_ok he).2.2.2.1 (loE_ok he).1.2.1)
  have HK := hide (fun (he : loE s ps ys f = 0) => (loE_ok he).2.2.2.2.2)
  have HX := hide (fun W => p_Nearest (mo fX ps) (2 * mas ps) W)
  have HY := hide (fun W => p_Nearest (mo fY ps) (2 * mas ps) W)
  have HZ := hide (fun W => p_Nearest (mo fZ ps) (2 * mas ps) W)
  unfold loC ceV
  clear hA hB
  generalize loE s ps ys f = E at *
  generalize neV (mo fX ps) (2 * mas ps) = cx at *
  generalize neV (mo fY ps) (2 * mas ps) = cy at *
  generalize neV (mo fZ ps) (2 * mas ps) = cz at *
  generalize quE (mo fX ps) (2 * mas ps) = ex at *
  generalize quE (mo fY ps) (2 * mas ps) = ey at *
  generalize quE (mo fZ ps) (2 * mas ps) = ez at *
  generalize mo fX ps = mx at *
  generalize mo fY ps = my at *
  generalize mo fZ ps = mz at *
  generalize mas ps = S at *
  generalize ps.length = n at *
  generalize ys.length = m at *
  by_cases he : E = 0
  · subst he
    have HM2 := hide (fun W hW => unhide HM W hW rfl)
    have HO2 := hide (fun W hW => unhide HO W hW rfl)
    obtain ⟨k1, k2⟩ := unhide HK rfl
    have hw2 : IntKind.i64.wrap (2 * S) = 2 * S := IntWalk.i64_in _ ⟨by omega, by omega⟩
    clear HM HO HK k1 k2
    simp only [if_pos]
    go_enter Tryz.func14, Tryz.ntmps14
    go_upto_region 1 with fail
    refine at_wp (fun W0 hW0 => ?_)
    have t2 := bxm2 w [.string s, .slice A n capA, .slice B m capB, .int .i64 f] [.int .i64 0, .int .i64 0, .int .i64 0] 25 31
    have U0 : Up w W0 := by rw [hW0]; exact (by repeat' (first | (with_reducible exact up_refl _) | (with_reducible assumption) | (with_reducible refine up_alloc ?_ _) | (with_reducible refine up_drewN ?_ _) | (with_reducible refine up_drew ?_) | (with_reducible refine up_set ?_ (by first | (simp; done) | (simp; omega) | omega) _) | (refine up_trans ?_ (by with_reducible assumption))))
    have B0 : Bx W0 w.heap.size [.string s, .slice A n capA, .slice B m capB, .int .i64 f] := by rw [hW0]; exact t2.1
    have R0 : Bx W0 (w.heap.size + 1) [.int .i64 0, .int .i64 0, .int .i64 0] := by rw [hW0]; exact t2.2
    clear hW0 t2
    have c0 := (B0 0 _ rfl).1
    have c1 := (B0 1 _ rfl).1
    have c2 := (B0 2 _ rfl).1
    have c3 := (B0 3 _ rfl).1
    go_wp2_with (first | (go_at_call 16; (with_reducible refine (unhide HC _ U0).mono ?_); rintro e w1 ⟨rfl, hb⟩; have k1 := (bx_up B0 hb 1 _ rfl).1; have U1 := up_trans U0 hb) | (go_at_call 53; (with_reducible refine (unhide HO2 _ U1).mono ?_); rintro e w2 ⟨rfl, hb2⟩))
    have z2 := (bx_lt R0 (by simp))
    have z3 := up_size hb
    have z4 := up_size hb2
    refine at_wp (fun V0 hV0 => ?_)
    have u2 : Up w2 V0 := by rw [hV0]; exact (by repeat' (first | (with_reducible exact up_refl _) | (with_reducible assumption) | (with_reducible refine up_alloc ?_ _) | (with_reducible refine up_drewN ?_ _) | (with_reducible refine up_drew ?_) | (with_reducible refine up_set ?_ (by first | (simp; done) | (simp; omega) | omega) _) | (refine up_trans ?_ (by with_reducible assumption))))
    have D0 : Bx V0 w2.heap.size [.int .i64 mx, .int .i64 my, .int .i64 mz] := by rw [hV0]; exact bx_new w2 _ 31
    have B1 := bx_up B0 (up_trans hb (up_trans hb2 u2))
    have R1 := bx_up R0 (up_trans hb (up_trans hb2 u2))
    have V1 := up_trans U1 (up_trans hb2 u2)
    clear hV0 u2 hb hb2 k1 c0 c1 c2 c3 B0 R0 U0 U1 HC HO2
    go_loopw [16] (fun i wr => ∃ k : Int, i = .int .i64 k ∧ Up w wr ∧ Bx wr w.heap.size [.string s, .slice A n capA, .slice B m capB, .int .i64 f] ∧ Bx wr (w.heap.size + 1) [.int .i64 0, .int .i64 0, .int .i64 0] ∧ (k = 0 ∧ Bx wr w2.heap.size [.int .i64 mx, .int .i64 my, .int .i64 mz] ∨ k = 1 ∧ Bx wr w2.heap.size [.int .i64 cx, .int .i64 my, .int .i64 mz] ∨ k = 2 ∧ Bx wr w2.heap.size [.int .i64 cx, .int .i64 cy, .int .i64 mz] ∨ k = 3 ∧ Bx wr w2.heap.size [.int .i64 cx, .int .i64 cy, .int .i64 cz])) (fun i _ => (3 - intOf i).toNat)
    case atStart => exact ⟨0, rfl, V1, B1, R1, .inl ⟨rfl, D0⟩⟩
    case round =>
      clear D0 B1 R1 V1 V0
      obtain ⟨k, rfl, hu, hB, hR, hD⟩ := hrel
      have hz1 := bx_lt hR (by simp)
      rcases hD with ⟨rfl, hD⟩ | ⟨rfl, hD⟩ | ⟨rfl, hD⟩ | ⟨rfl, hD⟩
      · have c1 := (hB 1 _ rfl).1
        have d0 := (hD 0 _ rfl).1
        have e0 := (hD 0 _ rfl).2
        have hz2 := bx_lt hD (by simp)
        go_wp2_with fail
        go_region_with (first
            | (go_at_call 51; (with_reducible refine (unhide HM2 _ (by first | exact hu | exact up_drew hu)).mono ?_); rintro e w3 ⟨rfl, hb3⟩; have d3 : w3.cell? ⟨w2.heap.size, 0, none⟩ = some (.int .i64 mx) := up_cell hb3 (by first | exact d0 | go_cell); have e3 : w3.frozen? ⟨w2.heap.size, 0, none⟩ = false := up_frozen hb3 (v := .int .i64 mx) (by first | exact d0 | go_cell) (by first | exact e0 | (simp; done) | (go_simp; done)); have u3 : Up wr w3 := up_trans (by first | exact up_refl _ | exact up_drew (up_refl _)) hb3)
            | (go_at_call 55; (with_reducible refine (unhide HX _).mono ?_); rintro e w4 ⟨rfl, rfl⟩))
        all_goals
          go_wp2_with fail
          go_roundw
          case rel =>
            have D2 := bx_set (bx_up hD u3) 0 (.int .i64 cx)
            exact ⟨0 + 1, by first | rfl | go_num, up_set (up_trans hu u3) (by simp; omega) _, bx_far (bx_up hB u3) (by simp; omega) _, bx_far (bx_up hR u3) (by simp; omega) _, (.inr (.inl ⟨rfl, D2⟩))⟩
          case measure => simp [intOf]
      · have c1 := (hB 1 _ rfl).1
        have d0 := (hD 1 _ rfl).1
        have e0 := (hD 1 _ rfl).2
        have hz2 := bx_lt hD (by simp)
        go_wp2_with fail
        go_region_with (first
            | (go_at_call 51; (with_reducible refine (unhide HM2 _ (by first | exact hu | exact up_drew hu)).mono ?_); rintro e w3 ⟨rfl, hb3⟩; have d3 : w3.cell? ⟨w2.heap.size, 1, none⟩ = some (.int .i64 my) := up_cell hb3 (by first | exact d0 | go_cell); have e3 : w3.frozen? ⟨w2.heap.size, 1, none⟩ = false := up_frozen hb3 (v := .int .i64 my) (by first | exact d0 | go_cell) (by first | exact e0 | (simp; done) | (go_simp; done)); have u3 : Up wr w3 := up_trans (by first | exact up_refl _ | exact up_drew (up_refl _)) hb3)
            | (go_at_call 55; (with_reducible refine (unhide HY _).mono ?_); rintro e w4 ⟨rfl, rfl⟩))
        all_goals
          go_wp2_with fail
          go_roundw
          case rel =>
            have D2 := bx_set (bx_up hD u3) 1 (.int .i64 cy)
            exact ⟨1 + 1, by first | rfl | go_num, up_set (up_trans hu u3) (by simp; omega) _, bx_far (bx_up hB u3) (by simp; omega) _, bx_far (bx_up hR u3) (by simp; omega) _, (.inr (.inr (.inl ⟨rfl, D2⟩)))⟩
          case measure => simp [intOf]
      · have c1 := (hB 1 _ rfl).1
        have d0 := (hD 2 _ rfl).1
        have e0 := (hD 2 _ rfl).2
        have hz2 := bx_lt hD (by simp)
        go_wp2_with fail
        go_region_with (first
            | (go_at_call 51; (with_reducible refine (unhide HM2 _ (by first | exact hu | exact up_drew hu)).mono ?_); rintro e w3 ⟨rfl, hb3⟩; have d3 : w3.cell? ⟨w2.heap.size, 2, none⟩ = some (.int .i64 mz) := up_cell hb3 (by first | exact d0 | go_cell); have e3 : w3.frozen? ⟨w2.heap.size, 2, none⟩ = false := up_frozen hb3 (v := .int .i64 mz) (by first | exact d0 | go_cell) (by first | exact e0 | (simp; done) | (go_simp; done)); have u3 : Up wr w3 := up_trans (by first | exact up_refl _ | exact up_drew (up_refl _)) hb3)
            | (go_at_call 55; (with_reducible refine (unhide HZ _).mono ?_); rintro e w4 ⟨rfl, rfl⟩))
        all_goals
          go_wp2_with fail
          go_roundw
          case rel =>
            have D2 := bx_set (bx_up hD u3) 2 (.int .i64 cz)
            exact ⟨2 + 1, by first | rfl | go_num, up_set (up_trans hu u3) (by simp; omega) _, bx_far (bx_up hB u3) (by simp; omega) _, bx_far (bx_up hR u3) (by simp; omega) _, (.inr (.inr (.inr ⟨rfl, D2⟩)))⟩
          case measure => simp [intOf]
      · obtain ⟨d0, d1, d2⟩ := bx3 hD
        obtain ⟨r0, r1, r2⟩ := bx3 hR
        obtain ⟨f0, f1, f2⟩ := bxf3 hR
        go_wp2_with fail
        obtain ⟨W9, hW9⟩ : ∃ W9 : World, W9 = (((wr.setCell ⟨w.heap.size + 1, 0, none⟩ (.int .i64 cx)).setCell ⟨w.heap.size + 1, 1, none⟩ (.int .i64 cy)).setCell ⟨w.heap.size + 1, 2, none⟩ (.int .i64 cz)) := ⟨_, rfl⟩
        rw [← hW9]
        have B9 : Bx W9 (w.heap.size + 1) [.int .i64 cx, .int .i64 cy, .int .i64 cz] := by rw [hW9]; exact bx_set3 hR
        have U9 : Up w W9 := by rw [hW9]; exact up_set (up_set (up_set hu (by simp) _) (by simp) _) (by simp) _
        clear hW9 r0 r1 r2 f0 f1 f2 d0 d1 d2
        obtain ⟨q0, q1, q2⟩ := bx3 B9
        refine bodyPost_ret (v := .tuple #[.agg #[.int .i64 cx, .int .i64 cy, .int .i64 cz], .int .i64 0]) (by simp [results, Tryz.results14, go_sem, q0, q1, q2]) rfl ⟨rfl, U9⟩
  · have t : (E == 0) = false := by simp [he]
    simp only [if_neg he]
    have HH := hide he
    clear he HM HO HK HX HY HZ
    go_enter Tryz.func14, Tryz.ntmps14
    go_upto_region 1 with fail
    refine at_wp (fun W0 hW0 => ?_)
    have t2 := bxm2 w [.string s, .slice A n capA, .slice B m capB, .int .i64 f] [.int .i64 0, .int .i64 0, .int .i64 0] 25 31
    have U0 : Up w W0 := by rw [hW0]; exact (by repeat' (first | (with_reducible exact up_refl _) | (with_reducible assumption) | (with_reducible refine up_alloc ?_ _) | (with_reducible refine up_drewN ?_ _) | (with_reducible refine up_drew ?_) | (with_reducible refine up_set ?_ (by first | (simp; done) | (simp; omega) | omega) _) | (refine up_trans ?_ (by with_reducible assumption))))
    have B0 : Bx W0 w.heap.size [.string s, .slice A n capA, .slice B m capB, .int .i64 f] := by rw [hW0]; exact t2.1
    have R0 : Bx W0 (w.heap.size + 1) [.int .i64 0, .int .i64 0, .int .i64 0] := by rw [hW0]; exact t2.2
    clear hW0 t2
    have c0 := (B0 0 _ rfl).1
    have c1 := (B0 1 _ rfl).1
    have c2 := (B0 2 _ rfl).1
    have c3 := (B0 3 _ rfl).1
    go_wp2_with (go_at_call 16; (with_reducible refine (unhide HC _ U0).mono ?_); rintro e w1 ⟨rfl, hb⟩; have R1 := bx_up R0 hb; obtain ⟨r0, r1, r2⟩ := bx3 R1; obtain ⟨f0, f1, f2⟩ := bxf3 R1)
    obtain ⟨W9, hW9⟩ : ∃ W9 : World, W9 = (((w1.setCell ⟨w.heap.size + 1, 0, none⟩ (.int .i64 0)).setCell ⟨w.heap.size + 1, 1, none⟩ (.int .i64 0)).setCell ⟨w.heap.size + 1, 2, none⟩ (.int .i64 0)) := ⟨_, rfl⟩
    rw [← hW9]
    have B9 : Bx W9 (w.heap.size + 1) [.int .i64 0, .int .i64 0, .int .i64 0] := by rw [hW9]; exact bx_set3 R1
    have U9 : Up w W9 := by rw [hW9]; exact up_set (up_set (up_set (up_trans U0 hb) (by simp) _) (by simp) _) (by simp) _
    clear hW9 r0 r1 r2 f0 f1 f2
    obtain ⟨q0, q1, q2⟩ := bx3 B9
    refine bodyPost_ret (v := .tuple #[.agg #[.int .i64 0, .int .i64 0, .int .i64 0], .int .i64 E]) (by simp [results, Tryz.results14, go_sem, q0, q1, q2]) rfl ⟨rfl, U9⟩
end Go.Proofs.YtdehnokcjnbjoaaGreat
