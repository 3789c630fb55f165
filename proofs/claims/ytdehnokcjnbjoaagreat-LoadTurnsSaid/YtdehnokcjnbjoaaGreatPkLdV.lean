/- load.result: any load that is checked, and returned. What is too large for a statement on loads; load.Moments. load's Moments and Centre: the program's. -/
import Derived.Test.YtdehnokcjnbjoaaGreatPkMom
import Derived.Test.YtdehnokcjnbjoaaGreatChkL
import Derived.Test.YtdehnokcjnbjoaaGreatPkVehC
import Derived.Test.YtdehnokcjnbjoaaGreatLdA
namespace Go.Proofs.YtdehnokcjnbjoaaGreat
open Go.RowKit Go.Proofs.Gn
/-- A coordinate of the centre. -/
def ceV (n k : Int) : Int := neV n (2 * k)
def loC (s : ByteArray) (ps : List Pce) (ys : List Eye) (f : Int) (g : Pce → Int) : Int := if loE s ps ys f = 0 then ceV (mo g ps) (mas ps) else 0
set_option maxRecDepth 100000 in
set_option maxHeartbeats 8000000 in
theorem p_CentreL (s : ByteArray) (A : Option Addr) (ps : List Pce) (capA : Nat) (B : Option Addr) (ys : List Eye) (capB : Nat) (f : Int) (w : World) (hA : Pcs w A ps) (hB : Eyes w B ys) (hn : ps.length ≤ 9223372036854775807) (hm : ys.length ≤ 9223372036854775807) :
    Calls Tryz.prog 14 #[loV s A ps.length capA B ys.length capB f] w fun e w' => e = .returned (.tuple #[.agg #[.int .i64 (loC s ps ys f fX), .int .i64 (loC s ps ys f fY), .int .i64 (loC s ps ys f fZ)], .int .i64 (loE s ps ys f)]) ∧ Up w w' := by
  have HC := hide (fun W (hW : Up w W) => p_CheckL s A ps capA B ys capB f W (pcs_up hA hW) (eyes_up hB hW) hn hm)
  have HO := hide (fun W (hW : Up w W) (he : loE s ps ys f = 0) => p_moments A ps capA W (pcs_up hA hW) (loE_ok he).2.2.2.1 (loE_ok he).1.2.1)
  have HM := hide (fun W (hW : Up w W) (he : loE s ps ys f = 0) => p_mass A ps capA W (pcs_up hA hW) (loE_ok he).2.2.2.1 (loE_ok he).1.2.1)
  have HK := hide (fun (he : loE s ps ys f = 0) => (loE_ok he).2.2.2.2.2)
  have HX := hide (fun W => p_Nearest (mo fX ps) (2 * mas ps) W)
  have HY := hide (fun W => p_Nearest (mo fY ps) (2 * mas ps) W)
  have HZ := hide (fun W => p_Nearest (mo fZ ps) (2 * mas ps) W)
  unfold loC ceV
  clear hA hB
  generalize loE s ps ys f = E at *
  generalize neV (mo fX ps) (2 * mas ps) = cx at *
  generalize neV (mo fY ps) (2 * mas ps) = cy at *
  generalize neV (mo fZ ps) (2 * mas ps) = cz at *
  generalize quE (mo fX ps) (2 * mas ps) = ex at *
  generalize quE (mo fY ps) (2 * mas ps) = ey at *
  generalize quE (mo fZ ps) (2 * mas ps) = ez at *
  generalize mo fX ps = mx at *
  generalize mo fY ps = my at *
  generalize mo fZ ps = mz at *
  generalize mas ps = S at *
  generalize ps.length = n at *
  generalize ys.length = m at *
  by_cases he : E = 0
  · subst he
    have HM2 := hide (fun W hW => unhide HM W hW rfl)
    have HO2 := hide (fun W hW => unhide HO W hW rfl)
    obtain ⟨k1, k2⟩ := unhide HK rfl
    have hw2 : IntKind.i64.wrap (2 * S) = 2 * S := IntWalk.i64_in _ ⟨by omega, by omega⟩
    clear HM HO HK k1 k2
    simp only [if_pos]
    go_enter Tryz.func14, Tryz.ntmps14
    go_upto_region 1 with fail
    refine at_wp (fun W0 hW0 => ?_)
    have t2 := bxm2 w [.string s, .slice A n capA, .slice B m capB, .int .i64 f] [.int .i64 0, .int .i64 0, .int .i64 0] 25 31
    have U0 : Up w W0 := by rw [hW0]; exact (by repeat' (first | (with_reducible exact up_refl _) | (with_reducible assumption) | (with_reducible refine up_alloc ?_ _) | (with_reducible refine up_drewN ?_ _) | (with_reducible refine up_drew ?_) | (with_reducible refine up_set ?_ (by first | (simp; done) | (simp; omega) | omega) _) | (refine up_trans ?_ (by with_reducible assumption))))
    have B0 : Bx W0 w.heap.size [.string s, .slice A n capA, .slice B m capB, .int .i64 f] := by rw [hW0]; exact t2.1
    have R0 : Bx W0 (w.heap.size + 1) [.int .i64 0, .int .i64 0, .int .i64 0] := by rw [hW0]; exact t2.2
    clear hW0 t2
    have c0 := (B0 0 _ rfl).1
    have c1 := (B0 1 _ rfl).1
    have c2 := (B0 2 _ rfl).1
    have c3 := (B0 3 _ rfl).1
    go_wp2_with (first | (go_at_call 16; (with_reducible refine (unhide HC _ U0).mono ?_); rintro e w1 ⟨rfl, hb⟩; have k1 := (bx_up B0 hb 1 _ rfl).1; have U1 := up_trans U0 hb) | (go_at_call 53; (with_reducible refine (unhide HO2 _ U1).mono ?_); rintro e w2 ⟨rfl, hb2⟩))
    have z2 := (bx_lt R0 (by simp))
    have z3 := up_size hb
    have z4 := up_size hb2
    refine at_wp (fun V0 hV0 => ?_)
    have u2 : Up w2 V0 := by rw [hV0]; exact (by repeat' (first | (with_reducible exact up_refl _) | (with_reducible assumption) | (with_reducible refine up_alloc ?_ _) | (with_reducible refine up_drewN ?_ _) | (with_reducible refine up_drew ?_) | (with_reducible refine up_set ?_ (by first | (simp; done) | (simp; omega) | omega) _) | (refine up_trans ?_ (by with_reducible assumption))))
    have D0 : Bx V0 w2.heap.size [.int .i64 mx, .int .i64 my, .int .i64 mz] := by rw [hV0]; exact bx_new w2 _ 31
    have B1 := bx_up B0 (up_trans hb (up_trans hb2 u2))
    have R1 := bx_up R0 (up_trans hb (up_trans hb2 u2))
    have V1 := up_trans U1 (up_trans hb2 u2)
    clear hV0 u2 hb hb2 k1 c0 c1 c2 c3 B0 R0 U0 U1 HC HO2
    go_loopw [16] (fun i wr => ∃ k : Int, i = .int .i64 k ∧ Up w wr ∧ Bx wr w.heap.size [.string s, .slice A n capA, .slice B m capB, .int .i64 f] ∧ Bx wr (w.heap.size + 1) [.int .i64 0, .int .i64 0, .int .i64 0] ∧ (k = 0 ∧ Bx wr w2.heap.size [.int .i64 mx, .int .i64 my, .int .i64 mz] ∨ k = 1 ∧ Bx wr w2.heap.size [.int .i64 cx, .int .i64 my, .int .i64 mz] ∨ k = 2 ∧ Bx wr w2.heap.size [.int .i64 cx, .int .i64 cy, .int .i64 mz] ∨ k = 3 ∧ Bx wr w2.heap.size [.int .i64 cx, .int .i64 cy, .int .i64 cz])) (fun i _ => (3 - intOf i).toNat)
    case atStart => exact ⟨0, rfl, V1, B1, R1, .inl ⟨rfl, D0⟩⟩
    case round =>
      clear D0 B1 R1 V1 V0
      obtain ⟨k, rfl, hu, hB, hR, hD⟩ := hrel
      have hz1 := bx_lt hR (by simp)
      rcases hD with ⟨rfl, hD⟩ | ⟨rfl, hD⟩ | ⟨rfl, hD⟩ | ⟨rfl, hD⟩
      · have c1 := (hB 1 _ rfl).1
        have d0 := (hD 0 _ rfl).1
        have e0 := (hD 0 _ rfl).2
        have hz2 := bx_lt hD (by simp)
        go_wp2_with fail
        go_region_with (first
            | (go_at_call 51; (with_reducible refine (unhide HM2 _ (by first | exact hu | exact up_drew hu)).mono ?_); rintro e w3 ⟨rfl, hb3⟩; have d3 : w3.cell? ⟨w2.heap.size, 0, none⟩ = some (.int .i64 mx) := up_cell hb3 (by first | exact d0 | go_cell); have e3 : w3.frozen? ⟨w2.heap.size, 0, none⟩ = false := up_frozen hb3 (v := .int .i64 mx) (by first | exact d0 | go_cell) (by first | exact e0 | (simp; done) | (go_simp; done)); have u3 : Up wr w3 := up_trans (by first | exact up_refl _ | exact up_drew (up_refl _)) hb3)
            | (go_at_call 55; (with_reducible refine (unhide HX _).mono ?_); rintro e w4 ⟨rfl, rfl⟩))
        all_goals
          go_wp2_with fail
          go_roundw
          case rel =>
            have D2 := bx_set (bx_up hD u3) 0 (.int .i64 cx)
            exact ⟨0 + 1, by first | rfl | go_num, up_set (up_trans hu u3) (by simp; omega) _, bx_far (bx_up hB u3) (by simp; omega) _, bx_far (bx_up hR u3) (by simp; omega) _, (.inr (.inl ⟨rfl, D2⟩))⟩
          case measure => simp [intOf]
      · have c1 := (hB 1 _ rfl).1
        have d0 := (hD 1 _ rfl).1
        have e0 := (hD 1 _ rfl).2
        have hz2 := bx_lt hD (by simp)
        go_wp2_with fail
        go_region_with (first
            | (go_at_call 51; (with_reducible refine (unhide HM2 _ (by first | exact hu | exact up_drew hu)).mono ?_); rintro e w3 ⟨rfl, hb3⟩; have d3 : w3.cell? ⟨w2.heap.size, 1, none⟩ = some (.int .i64 my) := up_cell hb3 (by first | exact d0 | go_cell); have e3 : w3.frozen? ⟨w2.heap.size, 1, none⟩ = false := up_frozen hb3 (v := .int .i64 my) (by first | exact d0 | go_cell) (by first | exact e0 | (simp; done) | (go_simp; done)); have u3 : Up wr w3 := up_trans (by first | exact up_refl _ | exact up_drew (up_refl _)) hb3)
            | (go_at_call 55; (with_reducible refine (unhide HY _).mono ?_); rintro e w4 ⟨rfl, rfl⟩))
        all_goals
          go_wp2_with fail
          go_roundw
          case rel =>
            have D2 := bx_set (bx_up hD u3) 1 (.int .i64 cy)
            exact ⟨1 + 1, by first | rfl | go_num, up_set (up_trans hu u3) (by simp; omega) _, bx_far (bx_up hB u3) (by simp; omega) _, bx_far (bx_up hR u3) (by simp; omega) _, (.inr (.inr (.inl ⟨rfl, D2⟩)))⟩
          case measure => simp [intOf]
      · have c1 := (hB 1 _ rfl).1
        have d0 := (hD 2 _ rfl).1
        have e0 := (hD 2 _ rfl).2
        have hz2 := bx_lt hD (by simp)
        go_wp2_with fail
        go_region_with (first
            | (go_at_call 51; (with_reducible refine (unhide HM2 _ (by first | exact hu | exact up_drew hu)).mono ?_); rintro e w3 ⟨rfl, hb3⟩; have d3 : w3.cell? ⟨w2.heap.size, 2, none⟩ = some (.int .i64 mz) := up_cell hb3 (by first | exact d0 | go_cell); have e3 : w3.frozen? ⟨w2.heap.size, 2, none⟩ = false := up_frozen hb3 (v := .int .i64 mz) (by first | exact d0 | go_cell) (by first | exact e0 | (simp; done) | (go_simp; done)); have u3 : Up wr w3 := up_trans (by first | exact up_refl _ | exact up_drew (up_refl _)) hb3)
            | (go_at_call 55; (with_reducible refine (unhide HZ _).mono ?_); rintro e w4 ⟨rfl, rfl⟩))
        all_goals
          go_wp2_with fail
          go_roundw
          case rel =>
            have D2 := bx_set (bx_up hD u3) 2 (.int .i64 cz)
            exact ⟨2 + 1, by first | rfl | go_num, up_set (up_trans hu u3) (by simp; omega) _, bx_far (bx_up hB u3) (by simp; omega) _, bx_far (bx_up hR u3) (by simp; omega) _, (.inr (.inr (.inr ⟨rfl, D2⟩)))⟩
          case measure => simp [intOf]
      · obtain ⟨d0, d1, d2⟩ := bx3 hD
        obtain ⟨r0, r1, r2⟩ := bx3 hR
        obtain ⟨f0, f1, f2⟩ := bxf3 hR
        go_wp2_with fail
        obtain ⟨W9, hW9⟩ : ∃ W9 : World, W9 = (((wr.setCell ⟨w.heap.size + 1, 0, none⟩ (.int .i64 cx)).setCell ⟨w.heap.size + 1, 1, none⟩ (.int .i64 cy)).setCell ⟨w.heap.size + 1, 2, none⟩ (.int .i64 cz)) := ⟨_, rfl⟩
        rw [← hW9]
        have B9 : Bx W9 (w.heap.size + 1) [.int .i64 cx, .int .i64 cy, .int .i64 cz] := by rw [hW9]; exact bx_set3 hR
        have U9 : Up w W9 := by rw [hW9]; exact up_set (up_set (up_set hu (by simp) _) (by simp) _) (by simp) _
        clear hW9 r0 r1 r2 f0 f1 f2 d0 d1 d2
        obtain ⟨q0, q1, q2⟩ := bx3 B9
        refine bodyPost_ret (v := .tuple #[.agg #[.int .i64 cx, .int .i64 cy, .int .i64 cz], .int .i64 0]) (by simp [results, Tryz.results14, go_sem, q0, q1, q2]) rfl ⟨rfl, U9⟩
  · have t : (E == 0) = false := by simp [he]
    simp only [if_neg he]
    have HH := hide he
    clear he HM HO HK HX HY HZ
    go_enter Tryz.func14, Tryz.ntmps14
    go_upto_region 1 with fail
    refine at_wp (fun W0 hW0 => ?_)
    have t2 := bxm2 w [.string s, .slice A n capA, .slice B m capB, .int .i64 f] [.int .i64 0, .int .i64 0, .int .i64 0] 25 31
    have U0 : Up w W0 := by rw [hW0]; exact (by repeat' (first | (with_reducible exact up_refl _) | (with_reducible assumption) | (with_reducible refine up_alloc ?_ _) | (with_reducible refine up_drewN ?_ _) | (with_reducible refine up_drew ?_) | (with_reducible refine up_set ?_ (by first | (simp; done) | (simp; omega) | omega) _) | (refine up_trans ?_ (by with_reducible assumption))))
    have B0 : Bx W0 w.heap.size [.string s, .slice A n capA, .slice B m capB, .int .i64 f] := by rw [hW0]; exact t2.1
    have R0 : Bx W0 (w.heap.size + 1) [.int .i64 0, .int .i64 0, .int .i64 0] := by rw [hW0]; exact t2.2
    clear hW0 t2
    have c0 := (B0 0 _ rfl).1
    have c1 := (B0 1 _ rfl).1
    have c2 := (B0 2 _ rfl).1
    have c3 := (B0 3 _ rfl).1
    go_wp2_with (go_at_call 16; (with_reducible refine (unhide HC _ U0).mono ?_); rintro e w1 ⟨rfl, hb⟩; have R1 := bx_up R0 hb; obtain ⟨r0, r1, r2⟩ := bx3 R1; obtain ⟨f0, f1, f2⟩ := bxf3 R1)
    obtain ⟨W9, hW9⟩ : ∃ W9 : World, W9 = (((w1.setCell ⟨w.heap.size + 1, 0, none⟩ (.int .i64 0)).setCell ⟨w.heap.size + 1, 1, none⟩ (.int .i64 0)).setCell ⟨w.heap.size + 1, 2, none⟩ (.int .i64 0)) := ⟨_, rfl⟩
    rw [← hW9]
    have B9 : Bx W9 (w.heap.size + 1) [.int .i64 0, .int .i64 0, .int .i64 0] := by rw [hW9]; exact bx_set3 R1
    have U9 : Up w W9 := by rw [hW9]; exact up_set (up_set (up_set (up_trans U0 hb) (by simp) _) (by simp) _) (by simp) _
    clear hW9 r0 r1 r2 f0 f1 f2
    obtain ⟨q0, q1, q2⟩ := bx3 B9
    refine bodyPost_ret (v := .tuple #[.agg #[.int .i64 0, .int .i64 0, .int .i64 0], .int .i64 E]) (by simp [results, Tryz.results14, go_sem, q0, q1, q2]) rfl ⟨rfl, U9⟩
end Go.Proofs.YtdehnokcjnbjoaaGreat
namespace Go.Proofs.YtdehnokcjnbjoaaGreat
open Go.RowKit Go.Proofs.Gn
attribute [local go_sem] Oper.semAt_some
set_option linter.unusedVariables false
/-- A load that is too large for a statement. -/
def grL (s : ByteArray) (n m : Nat) : Bool := decide (40 < n) || (decide (40 < m) || decide (100 < s.size))
set_option maxRecDepth 100000 in
set_option maxHeartbeats 8000000 in
theorem p_greatL (s : ByteArray) (A : Option Addr) (n capA : Nat) (B : Option Addr) (m capB : Nat) (f : Int) (w : World) :
    Calls Tryz.prog 8 #[loV s A n capA B m capB f] w fun e w' => e = .returned (.bool (grL s n m)) ∧ Up w w' := by
  unfold grL
  by_cases h1 : 40 < n
  · have t1 : (40 : Int) < (n : Int) := by omega
    have e1 : decide (40 < n) = true := decide_eq_true h1
    rw [e1]
    go_enter Tryz.func8, Tryz.ntmps8
    go_wp2_with fail
    go_ret
    exact ⟨rfl, (by repeat' (first | (with_reducible exact up_refl _) | (with_reducible assumption) | (with_reducible refine up_alloc ?_ _) | (with_reducible refine up_drewN ?_ _) | (with_reducible refine up_drew ?_) | (with_reducible refine up_set ?_ (by first | (simp; done) | (simp; omega) | omega) _) | (refine up_trans ?_ (by with_reducible assumption))))⟩
  · have t1 : ¬ (40 : Int) < (n : Int) := by omega
    have e1 : decide (40 < n) = false := decide_eq_false h1
    rw [e1]
    by_cases h2 : 40 < m
    · have t2 : (40 : Int) < (m : Int) := by omega
      have e2 : decide (40 < m) = true := decide_eq_true h2
      rw [e2]
      go_enter Tryz.func8, Tryz.ntmps8
      go_wp2_with fail
      go_ret
      exact ⟨rfl, (by repeat' (first | (with_reducible exact up_refl _) | (with_reducible assumption) | (with_reducible refine up_alloc ?_ _) | (with_reducible refine up_drewN ?_ _) | (with_reducible refine up_drew ?_) | (with_reducible refine up_set ?_ (by first | (simp; done) | (simp; omega) | omega) _) | (refine up_trans ?_ (by with_reducible assumption))))⟩
    · have t2 : ¬ (40 : Int) < (m : Int) := by omega
      have e2 : decide (40 < m) = false := decide_eq_false h2
      rw [e2]
      by_cases h3 : 100 < s.size
      · have t3 : (100 : Int) < (s.size : Int) := by omega
        have e3 : decide (100 < s.size) = true := decide_eq_true h3
        rw [e3]
        go_enter Tryz.func8, Tryz.ntmps8
        go_wp2_with fail
        go_ret
        exact ⟨rfl, (by repeat' (first | (with_reducible exact up_refl _) | (with_reducible assumption) | (with_reducible refine up_alloc ?_ _) | (with_reducible refine up_drewN ?_ _) | (with_reducible refine up_drew ?_) | (with_reducible refine up_set ?_ (by first | (simp; done) | (simp; omega) | omega) _) | (refine up_trans ?_ (by with_reducible assumption))))⟩
      · have t3 : ¬ (100 : Int) < (s.size : Int) := by omega
        have e3 : decide (100 < s.size) = false := decide_eq_false h3
        rw [e3]
        go_enter Tryz.func8, Tryz.ntmps8
        go_wp2_with fail
        go_ret
        exact ⟨rfl, (by repeat' (first | (with_reducible exact up_refl _) | (with_reducible assumption) | (with_reducible refine up_alloc ?_ _) | (with_reducible refine up_drewN ?_ _) | (with_reducible refine up_drew ?_) | (with_reducible refine up_set ?_ (by first | (simp; done) | (simp; omega) | omega) _) | (refine up_trans ?_ (by with_reducible assumption))))⟩
/-- A moment that is told. -/
def loO (s : ByteArray) (ps : List Pce) (ys : List Eye) (f : Int) (g : Pce → Int) : Int := if loE s ps ys f = 0 then mo g ps else 0
set_option maxRecDepth 100000 in
set_option maxHeartbeats 8000000 in
theorem p_MomentsL (s : ByteArray) (A : Option Addr) (ps : List Pce) (capA : Nat) (B : Option Addr) (ys : List Eye) (capB : Nat) (f : Int) (w : World) (hA : Pcs w A ps) (hB : Eyes w B ys) (hn : ps.length ≤ 9223372036854775807) (hm : ys.length ≤ 9223372036854775807) :
    Calls Tryz.prog 12 #[loV s A ps.length capA B ys.length capB f] w fun e w' => e = .returned (.tuple #[.agg #[.int .i64 (loO s ps ys f fX), .int .i64 (loO s ps ys f fY), .int .i64 (loO s ps ys f fZ)], .int .i64 (loE s ps ys f)]) ∧ Up w w' := by
  have HC := hide (fun W (hW : Up w W) => p_CheckL s A ps capA B ys capB f W (pcs_up hA hW) (eyes_up hB hW) hn hm)
  have HM := hide (fun W (hW : Up w W) (he : loE s ps ys f = 0) => p_moments A ps capA W (pcs_up hA hW) (loE_ok he).2.2.2.1 (loE_ok he).1.2.1)
  unfold loO
  clear hA hB
  generalize loE s ps ys f = E at *
  generalize mo fX ps = mx at *
  generalize mo fY ps = my at *
  generalize mo fZ ps = mz at *
  generalize ps.length = n at *
  generalize ys.length = m at *
  go_enter Tryz.func12, Tryz.ntmps12
  go_upto_region 1 with fail
  refine at_wpC (fun W0 hW0 => ?_)
  have U0 : Up w W0 := by rw [hW0]; exact (by repeat' (first | (with_reducible exact up_refl _) | (with_reducible assumption) | (with_reducible refine up_alloc ?_ _) | (with_reducible refine up_drewN ?_ _) | (with_reducible refine up_drew ?_) | (with_reducible refine up_set ?_ (by first | (simp; done) | (simp; omega) | omega) _) | (refine up_trans ?_ (by with_reducible assumption))))
  obtain ⟨bL, bR⟩ : Bx W0 w.heap.size [.string s, .slice A n capA, .slice B m capB, .int .i64 f] ∧ Bx W0 (w.heap.size + 1) [.int .i64 0, .int .i64 0, .int .i64 0] := by
    rw [hW0]
    refine ⟨bx_alloc (bx_new w _ _) _, ?_⟩
    have q := bx_new (w.alloc (.cells #[.string s, .slice A n capA, .slice B m capB, .int .i64 f] 25)) [.int .i64 0, .int .i64 0, .int .i64 0] 31
    rw [World.size_alloc] at q
    exact q
  clear hW0
  have c0 := (bL 0 _ rfl).1
  have c1 := (bL 1 _ rfl).1
  have c2 := (bL 2 _ rfl).1
  have c3 := (bL 3 _ rfl).1
  go_upto_region 2 with (go_at_call 16; (with_reducible refine (unhide HC _ U0).mono ?_); rintro e w1 ⟨rfl, u1⟩; have bL1 := bx_up bL u1; have bR1 := bx_up bR u1; have U1 := up_trans U0 u1)
  clear bL bR U0 u1 c0 c1 c2 c3
  have hz : w.heap.size ≤ w.heap.size + 1 := by omega
  generalize w.heap.size + 1 = gR at *
  by_cases he : E = 0
  · subst he
    have HM2 := hide (fun W hW => unhide HM W hW rfl)
    clear HM
    have k1 := (bL1 1 _ rfl).1
    go_wp2_with (go_at_call 53; (with_reducible refine (unhide HM2 _ U1).mono ?_); rintro e w2 ⟨rfl, u2⟩; have bR2 := bx_up bR1 u2; have U2 := up_trans U1 u2; have r0 := (bR2 0 _ rfl).1; have r1 := (bR2 1 _ rfl).1; have r2 := (bR2 2 _ rfl).1; have f0 := (bR2 0 _ rfl).2; have f1 := (bR2 1 _ rfl).2; have f2 := (bR2 2 _ rfl).2)
    have B9 := bx_set (bx_set (bx_set bR2 0 (.int .i64 mx)) 1 (.int .i64 my)) 2 (.int .i64 mz)
    have UZ := up_set (up_set (up_set U2 (p := ⟨gR, 0, none⟩) (by simp only; omega) (.int .i64 mx)) (p := ⟨gR, 1, none⟩) (by simp only; omega) (.int .i64 my)) (p := ⟨gR, 2, none⟩) (by simp only; omega) (.int .i64 mz)
    generalize ((w2.setCell ⟨gR, 0, none⟩ (.int .i64 mx)).setCell ⟨gR, 1, none⟩ (.int .i64 my)).setCell ⟨gR, 2, none⟩ (.int .i64 mz) = W9 at B9 UZ ⊢
    have q0 := (B9 0 _ rfl).1
    have q1 := (B9 1 _ rfl).1
    have q2 := (B9 2 _ rfl).1
    refine bodyPost_ret (v := .tuple #[.agg #[.int .i64 mx, .int .i64 my, .int .i64 mz], .int .i64 0]) (by simp [results, Tryz.f12, go_sem, q0, q1, q2]) rfl ?_
    exact ⟨rfl, UZ⟩
  · have t : (E == 0) = false := by simp [he]
    have HH := hide he
    have r0 := (bR1 0 _ rfl).1
    have r1 := (bR1 1 _ rfl).1
    have r2 := (bR1 2 _ rfl).1
    have f0 := (bR1 0 _ rfl).2
    have f1 := (bR1 1 _ rfl).2
    have f2 := (bR1 2 _ rfl).2
    go_wp2_with fail
    have B9 := bx_set (bx_set (bx_set bR1 0 (.int .i64 0)) 1 (.int .i64 0)) 2 (.int .i64 0)
    have UZ := up_set (up_set (up_set U1 (p := ⟨gR, 0, none⟩) (by simp only; omega) (.int .i64 0)) (p := ⟨gR, 1, none⟩) (by simp only; omega) (.int .i64 0)) (p := ⟨gR, 2, none⟩) (by simp only; omega) (.int .i64 0)
    generalize ((w1.setCell ⟨gR, 0, none⟩ (.int .i64 0)).setCell ⟨gR, 1, none⟩ (.int .i64 0)).setCell ⟨gR, 2, none⟩ (.int .i64 0) = W9 at B9 UZ ⊢
    have q0 := (B9 0 _ rfl).1
    have q1 := (B9 1 _ rfl).1
    have q2 := (B9 2 _ rfl).1
    refine bodyPost_ret (v := .tuple #[.agg #[.int .i64 0, .int .i64 0, .int .i64 0], .int .i64 E]) (by simp [results, Tryz.f12, go_sem, q0, q1, q2]) rfl ?_
    exact ⟨by first | rfl | simp only [if_neg (unhide HH)], UZ⟩
end Go.Proofs.YtdehnokcjnbjoaaGreat
namespace Go.Proofs.YtdehnokcjnbjoaaGreat
open Go.RowKit Go.Proofs.Gn
attribute [local go_sem] Oper.semAt_some
set_option linter.unusedVariables false
abbrev lo0L : Value := .agg #[.string { data := #[] }, .slice none 0 0, .slice none 0 0, .int .i64 0]
set_option maxRecDepth 100000 in
set_option maxHeartbeats 4000000 in
theorem p_resultL (s : ByteArray) (P : Option Addr) (ps : List Pce) (cp : Nat) (B : Option Addr) (ys : List Eye) (cb : Nat) (f : Int) (w : World) (h : Pcs w P ps) (hB : Eyes w B ys) (hn : ps.length ≤ 9223372036854775807) (hm : ys.length ≤ 9223372036854775807) (hE : loE s ps ys f = 0) :
    Calls Tryz.prog 99 #[loV s P ps.length cp B ys.length cb f] w fun e w' => e = .returned (.tuple #[loV s P ps.length cp B ys.length cb f, .int .i64 0]) ∧ Up w w' := by
  have HC := hide (fun W (hW : Up w W) => p_CheckL s P ps cp B ys cb f W (pcs_up h hW) (eyes_up hB hW) hn hm)
  rw [hE] at HC
  clear h hE hB
  generalize ps.length = n at *
  generalize ys.length = m at *
  go_enter Tryz.func99, Tryz.ntmps99
  go_upto_region 1 with fail
  refine at_wpC (fun W0 hW0 => ?_)
  have U0 : Up w W0 := by rw [hW0]; exact (by repeat' (first | (with_reducible exact up_refl _) | (with_reducible assumption) | (with_reducible refine up_alloc ?_ _) | (with_reducible refine up_drewN ?_ _) | (with_reducible refine up_drew ?_) | (with_reducible refine up_set ?_ (by first | (simp; done) | (simp; omega) | omega) _) | (refine up_trans ?_ (by with_reducible assumption))))
  have hz : W0.heap.size = w.heap.size + 2 := by rw [hW0]; simp
  obtain ⟨bA, bR⟩ : Bx W0 w.heap.size [.string s, .slice P n cp, .slice B m cb, .int .i64 f] ∧ Bx W0 (w.heap.size + 1) [.string { data := #[] }, .slice none 0 0, .slice none 0 0, .int .i64 0] := by
    rw [hW0]
    refine ⟨bx_alloc (bx_new w _ _) _, ?_⟩
    have q := bx_new (w.alloc (.cells #[.string s, .slice P n cp, .slice B m cb, .int .i64 f] 25)) [.string { data := #[] }, .slice none 0 0, .slice none 0 0, .int .i64 0] 25
    rw [World.size_alloc] at q
    exact q
  clear hW0
  have c0 := (bA 0 _ rfl).1
  have c1 := (bA 1 _ rfl).1
  have c2 := (bA 2 _ rfl).1
  have c3 := (bA 3 _ rfl).1
  go_upto_region 3 with (go_at_call 16; (with_reducible refine (unhide HC _ U0).mono ?_); rintro e w1 ⟨rfl, hb⟩)
  have bA1 := bx_up bA hb
  have bR1 := bx_up bR hb
  have U1 := up_trans U0 hb
  clear c0 c1 c2 c3 bA bR U0 hb HC
  have c0 := (bA1 0 _ rfl).1
  have c1 := (bA1 1 _ rfl).1
  have c2 := (bA1 2 _ rfl).1
  have c3 := (bA1 3 _ rfl).1
  have d0 := (bR1 0 _ rfl).1
  have d1 := (bR1 1 _ rfl).1
  have d2 := (bR1 2 _ rfl).1
  have d3 := (bR1 3 _ rfl).1
  have f0 := (bR1 0 _ rfl).2
  have f1 := (bR1 1 _ rfl).2
  have f2 := (bR1 2 _ rfl).2
  have f3 := (bR1 3 _ rfl).2
  go_wp2_with fail
  have B9 := bx_set (bx_set (bx_set (bx_set bR1 0 (.string s)) 1 (.slice P n cp)) 2 (.slice B m cb)) 3 (.int .i64 f)
  have U9 : Up w ((((w1.setCell ⟨w.heap.size + 1, 0, none⟩ (.string s)).setCell ⟨w.heap.size + 1, 1, none⟩ (.slice P n cp)).setCell ⟨w.heap.size + 1, 2, none⟩ (.slice B m cb)).setCell ⟨w.heap.size + 1, 3, none⟩ (.int .i64 f)) := up_set (up_set (up_set (up_set U1 (by simp only; omega) _) (by simp only; omega) _) (by simp only; omega) _) (by simp only; omega) _
  generalize (((w1.setCell ⟨w.heap.size + 1, 0, none⟩ (.string s)).setCell ⟨w.heap.size + 1, 1, none⟩ (.slice P n cp)).setCell ⟨w.heap.size + 1, 2, none⟩ (.slice B m cb)).setCell ⟨w.heap.size + 1, 3, none⟩ (.int .i64 f) = W9 at *
  have z0 := (B9 0 _ rfl).1
  have z1 := (B9 1 _ rfl).1
  have z2 := (B9 2 _ rfl).1
  have z3 := (B9 3 _ rfl).1
  refine bodyPost_ret (v := .tuple #[loV s P n cp B m cb f, .int .i64 0]) (by simp [results, Tryz.f99, go_sem, z0, z1, z2, z3]) rfl ?_
  exact ⟨rfl, U9⟩
set_option maxRecDepth 100000 in
set_option maxHeartbeats 4000000 in
theorem p_resultNo (s : ByteArray) (P : Option Addr) (ps : List Pce) (cp : Nat) (B : Option Addr) (ys : List Eye) (cb : Nat) (f : Int) (w : World) (h : Pcs w P ps) (hB : Eyes w B ys) (hn : ps.length ≤ 9223372036854775807) (hm : ys.length ≤ 9223372036854775807) (E : Int) (hE : loE s ps ys f = E) (h0 : E ≠ 0) :
    Calls Tryz.prog 99 #[loV s P ps.length cp B ys.length cb f] w fun e w' => e = .returned (.tuple #[lo0L, .int .i64 4]) ∧ Up w w' := by
  have HC := hide (fun W (hW : Up w W) => p_CheckL s P ps cp B ys cb f W (pcs_up h hW) (eyes_up hB hW) hn hm)
  rw [hE] at HC
  have t0 : (E == 0) = false := by simp [h0]
  clear h hE hB
  generalize ps.length = n at *
  generalize ys.length = m at *
  go_enter Tryz.func99, Tryz.ntmps99
  go_upto_region 1 with fail
  refine at_wpC (fun W0 hW0 => ?_)
  have U0 : Up w W0 := by rw [hW0]; exact (by repeat' (first | (with_reducible exact up_refl _) | (with_reducible assumption) | (with_reducible refine up_alloc ?_ _) | (with_reducible refine up_drewN ?_ _) | (with_reducible refine up_drew ?_) | (with_reducible refine up_set ?_ (by first | (simp; done) | (simp; omega) | omega) _) | (refine up_trans ?_ (by with_reducible assumption))))
  have hz : W0.heap.size = w.heap.size + 2 := by rw [hW0]; simp
  obtain ⟨bA, bR⟩ : Bx W0 w.heap.size [.string s, .slice P n cp, .slice B m cb, .int .i64 f] ∧ Bx W0 (w.heap.size + 1) [.string { data := #[] }, .slice none 0 0, .slice none 0 0, .int .i64 0] := by
    rw [hW0]
    refine ⟨bx_alloc (bx_new w _ _) _, ?_⟩
    have q := bx_new (w.alloc (.cells #[.string s, .slice P n cp, .slice B m cb, .int .i64 f] 25)) [.string { data := #[] }, .slice none 0 0, .slice none 0 0, .int .i64 0] 25
    rw [World.size_alloc] at q
    exact q
  clear hW0
  have c0 := (bA 0 _ rfl).1
  have c1 := (bA 1 _ rfl).1
  have c2 := (bA 2 _ rfl).1
  have c3 := (bA 3 _ rfl).1
  go_upto_region 2 with (go_at_call 16; (with_reducible refine (unhide HC _ U0).mono ?_); rintro e w1 ⟨rfl, hb⟩)
  have bA1 := bx_up bA hb
  have bR1 := bx_up bR hb
  have U1 := up_trans U0 hb
  clear c0 c1 c2 c3 bA bR U0 hb HC
  have c0 := (bA1 0 _ rfl).1
  have c1 := (bA1 1 _ rfl).1
  have c2 := (bA1 2 _ rfl).1
  have c3 := (bA1 3 _ rfl).1
  have d0 := (bR1 0 _ rfl).1
  have d1 := (bR1 1 _ rfl).1
  have d2 := (bR1 2 _ rfl).1
  have d3 := (bR1 3 _ rfl).1
  have f0 := (bR1 0 _ rfl).2
  have f1 := (bR1 1 _ rfl).2
  have f2 := (bR1 2 _ rfl).2
  have f3 := (bR1 3 _ rfl).2
  go_wp2_with fail
  have B9 := (bx_set (bx_set (bx_set (bx_set bR1 0 (.string { data := #[] })) 1 (.slice none 0 0)) 2 (.slice none 0 0)) 3 (.int .i64 0))
  have U9 := (up_set (up_set (up_set (up_set U1 (p := ⟨w.heap.size + 1, 0, none⟩) (by simp only; omega) (.string { data := #[] })) (p := ⟨w.heap.size + 1, 1, none⟩) (by simp only; omega) (.slice none 0 0)) (p := ⟨w.heap.size + 1, 2, none⟩) (by simp only; omega) (.slice none 0 0)) (p := ⟨w.heap.size + 1, 3, none⟩) (by simp only; omega) (.int .i64 0))
  generalize ((((w1.setCell ⟨w.heap.size + 1, 0, none⟩ (.string { data := #[] })).setCell ⟨w.heap.size + 1, 1, none⟩ (.slice none 0 0)).setCell ⟨w.heap.size + 1, 2, none⟩ (.slice none 0 0)).setCell ⟨w.heap.size + 1, 3, none⟩ (.int .i64 0)) = W9 at B9 U9 ⊢
  have z0 := (B9 0 _ rfl).1
  have z1 := (B9 1 _ rfl).1
  have z2 := (B9 2 _ rfl).1
  have z3 := (B9 3 _ rfl).1
  refine bodyPost_ret (v := .tuple #[lo0L, .int .i64 4]) (by simp [results, Tryz.f99, go_sem, z0, z1, z2, z3]) rfl ?_
  exact ⟨rfl, U9⟩
end Go.Proofs.YtdehnokcjnbjoaaGreat
