/- What is too large for a statement on loads; load.Moments. -/
import Derived.Test.YtdehnokcjnbjoaaGreatCentre
import Derived.Test.YtdehnokcjnbjoaaGreatPkLdB
namespace Go.Proofs.YtdehnokcjnbjoaaGreat
open Go.RowKit Go.Proofs.Gn
attribute [local go_sem] Oper.semAt_some
set_option linter.unusedVariables false
/-- A load that is too large for a statement. -/
def grL (s : ByteArray) (n m : Nat) : Bool := decide (40 < n) || (decide (40 < m) || decide (100 < s.size))
set_option maxRecDepth 100000 in
set_option maxHeartbeats 8000000 in
theorem p_greatL (s : ByteArray) (A : Option Addr) (n capA : Nat) (B : Option Addr) (m capB : Nat) (f : Int) (w : World) :
    Calls Tryz.prog 8 #[loV s A n capA B m capB f] w fun e w' => e = .returned (.bool (grL s n m)) ∧ Up w w' := by
  unfold grL
  by_cases h1 : 40 < n
  · have t1 : (40 : Int) < (n : Int) := by omega
    have e1 : decide (40 < n) = true := decide_eq_true h1
    rw [e1]
    go_enter Tryz.func8, Tryz.ntmps8
    go_wp2_with fail
    go_ret
    exact ⟨rfl, (by repeat' (first | (with_reducible exact up_refl _) | (with_reducible assumption) | (with_reducible refine up_alloc ?_ _) | (with_reducible refine up_drewN ?_ _) | (with_reducible refine up_drew ?_) | (with_reducible refine up_set ?_ (by first | (simp; done) | (simp; omega) | omega) _) | (refine up_trans ?_ (by with_reducible assumption))))⟩
  · have t1 : ¬ (40 : Int) < (n : Int) := by omega
    have e1 : decide (40 < n) = false := decide_eq_false h1
    rw [e1]
    by_cases h2 : 40 < m
    · have t2 : (40 : Int) < (m : Int) := by omega
      have e2 : decide (40 < m) = true := decide_eq_true h2
      rw [e2]
      go_enter Tryz.func8, Tryz.ntmps8
      go_wp2_with fail
      go_ret
      exact ⟨rfl, (by repeat' (first | (with_reducible exact up_refl _) | (with_reducible assumption) | (with_reducible refine up_alloc ?_ _) | (with_reducible refine up_drewN ?_ _) | (with_reducible refine up_drew ?_) | (with_reducible refine up_set ?_ (by first | (simp; done) | (simp; omega) | omega) _) | (refine up_trans ?_ (by with_reducible assumption))))⟩
    · have t2 : ¬ (40 : Int) < (m : Int) := by omega
      have e2 : decide (40 < m) = false := decide_eq_false h2
      rw [e2]
      by_cases h3 : 100 < s.size
      · have t3 : (100 : Int) < (s.size : Int) := by omega
        have e3 : decide (100 < s.size) = true := decide_eq_true h3
        rw [e3]
        go_enter Tryz.func8, Tryz.ntmps8
        go_wp2_with fail
        go_ret
        exact ⟨rfl, (by repeat' (first | (with_reducible exact up_refl _) | (with_reducible assumption) | (with_reducible refine up_alloc ?_ _) | (with_reducible refine up_drewN ?_ _) | (with_reducible refine up_drew ?_) | (with_reducible refine up_set ?_ (by first | (simp; done) | (simp; omega) | omega) _) | (refine up_trans ?_ (by with_reducible assumption))))⟩
      · have t3 : ¬ (100 : Int) < (s.size : Int) := by omega
        have e3 : decide (100 < s.size) = false := decide_eq_false h3
        rw [e3]
        go_enter Tryz.func8, Tryz.ntmps8
        go_wp2_with fail
        go_ret
        exact ⟨rfl, (by repeat' (first | (with_reducible exact up_refl _) | (with_reducible assumption) | (with_reducible refine up_alloc ?_ _) | (with_reducible refine up_drewN ?_ _) | (with_reducible refine up_drew ?_) | (with_reducible refine up_set ?_ (by first | (simp; done) | (simp; omega) | omega) _) | (refine up_trans ?_ (by with_reducible assumption))))⟩
/-- A moment that is told. -/
def loO (s : ByteArray) (ps : List Pce) (ys : List Eye) (f : Int) (g : Pce → Int) : Int := if loE s ps ys f = 0 then mo g ps else 0
set_option maxRecDepth 100000 in
set_option maxHeartbeats 8000000 in
theorem p_MomentsL (s : ByteArray) (A : Option Addr) (ps : List Pce) (capA : Nat) (B : Option Addr) (ys : List Eye) (capB : Nat) (f : Int) (w : World) (hA : Pcs w A ps) (hB : Eyes w B ys) (hn : ps.length ≤ 9223372036854775807) (hm : ys.length ≤ 9223372036854775807) :
    Calls Tryz.prog 12 #[loV s A ps.length capA B ys.length capB f] w fun e w' => e = .returned (.tuple #[.agg #[.int .i64 (loO s ps ys f fX), .int .i64 (loO s ps ys f fY), .int .i64 (loO s ps ys f fZ)], .int .i64 (loE s ps ys f)]) ∧ Up w w' := by
  have HC := hide (fun W (hW : Up w W) => p_CheckL s A ps capA B ys capB f W (pcs_up hA hW) (eyes_up hB hW) hn hm)
  have HM := hide (fun W (hW : Up w W) (he : loE s ps ys f = 0) => p_moments A ps capA W (pcs_up hA hW) (loE_ok he).2.2.2.1 (loE_ok he).1.2.1)
  unfold loO
  clear hA hB
  generalize loE s ps ys f = E at *
  generalize mo fX ps = mx at *
  generalize mo fY ps = my at *
  generalize mo fZ ps = mz at *
  generalize ps.length = n at *
  generalize ys.length = m at *
  go_enter Tryz.func12, Tryz.ntmps12
  go_upto_region 1 with fail
  refine at_wpC (fun W0 hW0 => ?_)
  have U0 : Up w W0 := by rw [hW0]; exact (by repeat' (first | (with_reducible exact up_refl _) | (with_reducible assumption) | (with_reducible refine up_alloc ?_ _) | (with_reducible refine up_drewN ?_ _) | (with_reducible refine up_drew ?_) | (with_reducible refine up_set ?_ (by first | (simp; done) | (simp; omega) | omega) _) | (refine up_trans ?_ (by with_reducible assumption))))
  obtain ⟨bL, bR⟩ : Bx W0 w.heap.size [.string s, .slice A n capA, .slice B m capB, .int .i64 f] ∧ Bx W0 (w.heap.size + 1) [.int .i64 0, .int .i64 0, .int .i64 0] := by
    rw [hW0]
    refine ⟨bx_alloc (bx_new w _ _) _, ?_⟩
    have q := bx_new (w.alloc (.cells #[.string s, .slice A n capA, .slice B m capB, .int .i64 f] 25)) [.int .i64 0, .int .i64 0, .int .i64 0] 31
    rw [World.size_alloc] at q
    exact q
  clear hW0
  have c0 := (bL 0 _ rfl).1
  have c1 := (bL 1 _ rfl).1
  have c2 := (bL 2 _ rfl).1
  have c3 := (bL 3 _ rfl).1
  go_upto_region 2 with (go_at_call 16; (with_reducible refine (unhide HC _ U0).mono ?_); rintro e w1 ⟨rfl, u1⟩; have bL1 := bx_up bL u1; have bR1 := bx_up bR u1; have U1 := up_trans U0 u1)
  clear bL bR U0 u1 c0 c1 c2 c3
  have hz : w.heap.size ≤ w.heap.size + 1 := by omega
  generalize w.heap.size + 1 = gR at *
  by_cases he : E = 0
  · subst he
    have HM2 := hide (fun W hW => unhide HM W hW rfl)
    clear HM
    have k1 := (bL1 1 _ rfl).1
    go_wp2_with (go_at_call 53; (with_reducible refine (unhide HM2 _ U1).mono ?_); rintro e w2 ⟨rfl, u2⟩; have bR2 := bx_up bR1 u2; have U2 := up_trans U1 u2; have r0 := (bR2 0 _ rfl).1; have r1 := (bR2 1 _ rfl).1; have r2 := (bR2 2 _ rfl).1; have f0 := (bR2 0 _ rfl).2; have f1 := (bR2 1 _ rfl).2; have f2 := (bR2 2 _ rfl).2)
    have B9 := bx_set (bx_set (bx_set bR2 0 (.int .i64 mx)) 1 (.int .i64 my)) 2 (.int .i64 mz)
    have UZ := up_set (up_set (up_set U2 (p := ⟨gR, 0, none⟩) (by simp only; omega) (.int .i64 mx)) (p := ⟨gR, 1, none⟩) (by simp only; omega) (.int .i64 my)) (p := ⟨gR, 2, none⟩) (by simp only; omega) (.int .i64 mz)
    generalize ((w2.setCell ⟨gR, 0, none⟩ (.int .i64 mx)).setCell ⟨gR, 1, none⟩ (.int .i64 my)).setCell ⟨gR, 2, none⟩ (.int .i64 mz) = W9 at B9 UZ ⊢
    have q0 := (B9 0 _ rfl).1
    have q1 := (B9 1 _ rfl).1
    have q2 := (B9 2 _ rfl).1
    refine bodyPost_ret (v := .tuple #[.agg #[.int .i64 mx, .int .i64 my, .int .i64 mz], .int .i64 0]) (by simp [results, Tryz.f12, go_sem, q0, q1, q2]) rfl ?_
    exact ⟨rfl, UZ⟩
  · have t : (E == 0) = false := by simp [he]
    have HH := hide he
    have r0 := (bR1 0 _ rfl).1
    have r1 := (bR1 1 _ rfl).1
    have r2 := (bR1 2 _ rfl).1
    have f0 := (bR1 0 _ rfl).2
    have f1 := (bR1 1 _ rfl).2
    have f2 := (bR1 2 _ rfl).2
    go_wp2_with fail
    have B9 := bx_set (bx_set (bx_set bR1 0 (.int .i64 0)) 1 (.int .i64 0)) 2 (.int .i64 0)
    have UZ := up_set (up_set (up_set U1 (p := ⟨gR, 0, none⟩) (by simp only; omega) (.int .i64 0)) (p := ⟨gR, 1, none⟩) (by simp only; omega) (.int .i64 0)) (p := ⟨gR, 2, none⟩) (by simp only; omega) (.int .i64 0)
    generalize ((w1.setCell ⟨gR, 0, none⟩ (.int .i64 0)).setCell ⟨gR, 1, none⟩ (.int .i64 0)).setCell ⟨gR, 2, none⟩ (.int .i64 0) = W9 at B9 UZ ⊢
    have q0 := (B9 0 _ rfl).1
    have q1 := (B9 1 _ rfl).1
    have q2 := (B9 2 _ rfl).1
    refine bodyPost_ret (v := .tuple #[.agg #[.int .i64 0, .int .i64 0, .int .i64 0], .int .i64 E]) (by simp [results, Tryz.f12, go_sem, q0, q1, q2]) rfl ?_
    exact ⟨by first | rfl | simp only [if_neg (unhide HH)], UZ⟩
end Go.Proofs.YtdehnokcjnbjoaaGreat
