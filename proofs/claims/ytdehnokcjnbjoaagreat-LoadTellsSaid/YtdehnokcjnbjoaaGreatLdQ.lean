/- goosenecklaw02.known. -/
import Derived.Test.YtdehnokcjnbjoaaGreatLdP
namespace Go.Proofs.YtdehnokcjnbjoaaGreat
open Go.RowKit Go.Proofs.Gn
attribute [local go_sem] Oper.semAt_some
set_option linter.unusedVariables false
theorem eqL3 (a b c a' b' c' : Int) (w : World) : (Op.equalIn 10000 31 (.agg #[.int .i64 a, .int .i64 b, .int .i64 c]) (.agg #[.int .i64 a', .int .i64 b', .int .i64 c'])).run Tryz.prog w = .ok (a == a' && (b == b' && c == c')) w := by
  unfold Op.equalIn
  simp [run_underlying Tryz.underlying31, go_sem]
  rw [show List.range' 0 3 = [0, 1, 2] from rfl]
  by_cases h0 : a = a' <;> by_cases h1 : b = b' <;> by_cases h2 : c = c' <;> simp [h0, h1, h2, go_sem, Tryz.isAgg2]
theorem eqL3_same (a b c : Int) (w : World) : (Op.equalIn 10000 31 (.agg #[.int .i64 a, .int .i64 b, .int .i64 c]) (.agg #[.int .i64 a, .int .i64 b, .int .i64 c])).run Tryz.prog w = .ok true w := by
  rw [eqL3]; simp
set_option maxRecDepth 100000 in
set_option maxHeartbeats 16000000 in
theorem p_knownL (w : World) :
    Calls Tryz.prog 9 #[] w fun e w' => e = .returned (.bool true) ∧ Up w w' := by
  have HE := hide (fun W => p_ExL W)
  have HM := hide (fun A B W (hA : Pcs W A exPs) (hB : Eyes W B exYs) => (show Calls Tryz.prog 10 #[loV exN A 2 2 B 2 2 300] W fun e w' => e = .returned (.tuple #[.int .i64 5000, .int .i64 0]) ∧ Up W w' from by
    have q := p_MassL exN A exPs 2 B exYs 2 300 W hA hB (by simp [exPs]) (by simp [exYs])
    unfold loM at q
    rw [ex_E, if_pos rfl, ex_M] at q
    exact q))
  have HC := hide (fun A B W (hA : Pcs W A exPs) (hB : Eyes W B exYs) => (show Calls Tryz.prog 14 #[loV exN A 2 2 B 2 2 300] W fun e w' => e = .returned (.tuple #[.agg #[.int .i64 900, .int .i64 500, .int .i64 650], .int .i64 0]) ∧ Up W w' from by
    have q := p_CentreL exN A exPs 2 B exYs 2 300 W hA hB (by simp [exPs]) (by simp [exYs])
    unfold loC at q
    simp only [ex_E, if_true, ex_C.1, ex_C.2.1, ex_C.2.2] at q
    exact q))
  have HS := hide (fun A B W (hA : Pcs W A exPs) (hB : Eyes W B exYs) => (show Calls Tryz.prog 40 #[loV exN A 2 2 B 2 2 300, .slice none 0 0, shV 301] W fun e w' => e = .returned (.tuple #[pt 1060 (-440), .int .i64 20]) ∧ Up W w' from by
    have q := p_HoldH exN A exPs 2 B exYs 2 301 W hA hB (by simp [exPs]) (by simp [exYs]) ex_E ex_M (by omega)
    rw [show (5000 * (301 : Int) + 999) / 1000 = 1505 by decide, hoF_slips] at q
    exact q))
  have HH := hide (fun A B W (hA : Pcs W A exPs) (hB : Eyes W B exYs) => (show Calls Tryz.prog 40 #[loV exN A 2 2 B 2 2 300, .slice none 0 0, shV 300] W fun e w' => e = .returned (.tuple #[pt 0 0, .int .i64 0]) ∧ Up W w' from by
    have q := p_HoldH exN A exPs 2 B exYs 2 300 W hA hB (by simp [exPs]) (by simp [exYs]) ex_E ex_M (by omega)
    rw [show (5000 * (300 : Int) + 999) / 1000 = 1500 by decide, hoF_holds] at q
    exact q))
  go_enter Tryz.func9, Tryz.ntmps9
  go_upto_region 2 with (go_at_call 50; (with_reducible refine (unhide HE _).mono ?_); rintro e w1 ⟨⟨A, B, rfl, hA, hB⟩, U1⟩)
  refine at_wpC (fun W2 hW2 => ?_)
  have u2 : Up w1 W2 := by rw [hW2]; exact (by repeat' (first | (with_reducible exact up_refl _) | (with_reducible assumption) | (with_reducible refine up_alloc ?_ _) | (with_reducible refine up_drewN ?_ _) | (with_reducible refine up_drew ?_) | (with_reducible refine up_set ?_ (by first | (simp; done) | (simp; omega) | omega) _) | (refine up_trans ?_ (by with_reducible assumption))))
  have bL : Bx W2 w1.heap.size [.string exN, .slice A 2 2, .slice B 2 2, .int .i64 300] := by rw [hW2]; exact bx_new w1 _ _
  have hA2 := pcs_up hA u2
  have hB2 := eyes_up hB u2
  have U2 := up_trans U1 u2
  clear hW2 hA hB U1 u2
  generalize w1.heap.size = gL at *
  have s0 := bx_cell bL (k := 0) rfl
  have s1 := bx_cell bL (k := 1) rfl
  have s2 := bx_cell bL (k := 2) rfl
  have s3 := bx_cell bL (k := 3) rfl
  go_upto_region 3 with (go_at_call 10; (with_reducible refine (unhide HM A B _ hA2 hB2).mono ?_); rintro e w3 ⟨rfl, u3⟩; have bL3 := bx_up bL u3; have hA3 := pcs_up hA2 u3; have hB3 := eyes_up hB2 u3; have U3 := up_trans U2 u3)
  clear s0 s1 s2 s3 bL hA2 hB2 U2 u3
  have s0 := bx_cell bL3 (k := 0) rfl
  have s1 := bx_cell bL3 (k := 1) rfl
  have s2 := bx_cell bL3 (k := 2) rfl
  have s3 := bx_cell bL3 (k := 3) rfl
  go_upto_region 4 with (go_at_call 14; (with_reducible refine (unhide HC A B _ hA3 hB3).mono ?_); rintro e w4 ⟨rfl, u4⟩)
  refine at_wpC (fun W5 hW5 => ?_)
  have u5 : Up w3 W5 := by rw [hW5]; exact (by repeat' (first | (with_reducible exact up_refl _) | (with_reducible assumption) | (with_reducible refine up_alloc ?_ _) | (with_reducible refine up_drewN ?_ _) | (with_reducible refine up_drew ?_) | (with_reducible refine up_set ?_ (by first | (simp; done) | (simp; omega) | omega) _) | (refine up_trans ?_ (by with_reducible assumption))))
  have bC : Bx W5 w4.heap.size [.int .i64 900, .int .i64 500, .int .i64 650] := by rw [hW5]; exact bx_new w4 _ _
  have bL5 := bx_up bL3 u5
  have hA5 := pcs_up hA3 u5
  have hB5 := eyes_up hB3 u5
  have U5 := up_trans U3 u5
  clear hW5 s0 s1 s2 s3 bL3 hA3 hB3 U3 u4 u5
  generalize w4.heap.size = gC at *
  have s0 := bx_cell bL5 (k := 0) rfl
  have s1 := bx_cell bL5 (k := 1) rfl
  have s2 := bx_cell bL5 (k := 2) rfl
  have s3 := bx_cell bL5 (k := 3) rfl
  go_upto_region 5 with (go_at_call 40; (with_reducible refine (unhide HS A B _ hA5 hB5).mono ?_); rintro e w6 ⟨rfl, u6⟩)
  refine at_wpC (fun W7 hW7 => ?_)
  have u7 : Up W5 W7 := by rw [hW7]; exact (by repeat' (first | (with_reducible exact up_refl _) | (with_reducible assumption) | (with_reducible refine up_alloc ?_ _) | (with_reducible refine up_drewN ?_ _) | (with_reducible refine up_drew ?_) | (with_reducible refine up_set ?_ (by first | (simp; done) | (simp; omega) | omega) _) | (refine up_trans ?_ (by with_reducible assumption))))
  have bN : Bx W7 w6.heap.size [.int .i64 1060, .int .i64 (-440)] := by rw [hW7]; exact bx_new w6 _ _
  have bL7 := bx_up bL5 u7
  have bC7 := bx_up bC u7
  have hA7 := pcs_up hA5 u7
  have hB7 := eyes_up hB5 u7
  have U7 := up_trans U5 u7
  clear hW7 s0 s1 s2 s3 bL5 bC hA5 hB5 U5 u6 u7
  generalize w6.heap.size = gN at *
  have s0 := bx_cell bL7 (k := 0) rfl
  have s1 := bx_cell bL7 (k := 1) rfl
  have s2 := bx_cell bL7 (k := 2) rfl
  have s3 := bx_cell bL7 (k := 3) rfl
  go_upto_region 6 with (go_at_call 40; (with_reducible refine (unhide HH A B _ hA7 hB7).mono ?_); rintro e w8 ⟨rfl, u8⟩)
  refine at_wpC (fun W9 hW9 => ?_)
  have u9 : Up W7 W9 := by rw [hW9]; exact (by repeat' (first | (with_reducible exact up_refl _) | (with_reducible assumption) | (with_reducible refine up_alloc ?_ _) | (with_reducible refine up_drewN ?_ _) | (with_reducible refine up_drew ?_) | (with_reducible refine up_set ?_ (by first | (simp; done) | (simp; omega) | omega) _) | (refine up_trans ?_ (by with_reducible assumption))))
  have bN9 := bx_up bN u9
  have bC9 := bx_up bC7 u9
  have U9 := up_trans U7 u9
  clear hW9 s0 s1 s2 s3 bL7 bC7 hA7 hB7 U7 u8 u9
  have c0 := bx_cell bC9 (k := 0) rfl
  have c1 := bx_cell bC9 (k := 1) rfl
  have c2 := bx_cell bC9 (k := 2) rfl
  have n0 := bx_cell bN9 (k := 0) rfl
  have n1 := bx_cell bN9 (k := 1) rfl
  have e3 := fun a b c W => eqL3_same a b c W
  go_wp2_with fail
  go_ret
  exact ⟨rfl, U9⟩
end Go.Proofs.YtdehnokcjnbjoaaGreat
