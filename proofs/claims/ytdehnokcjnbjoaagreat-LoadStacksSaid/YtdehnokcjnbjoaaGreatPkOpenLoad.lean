/- A parameter that is a load, opened. The law's sameInts of equal lists, and within of a list that lies in the other one. What is too large for a statement on loads; load.Moments. goosenecklaw02.known. What a piece carries: load.Carries for any load and any number. -/
import Derived.Test.YtdehnokcjnbjoaaGreatPkCtc
import Derived.Test.YtdehnokcjnbjoaaGreatCrd
import Derived.Test.YtdehnokcjnbjoaaGreatLdP
import Derived.Test.YtdehnokcjnbjoaaGreatCentre
import Derived.Test.YtdehnokcjnbjoaaGreatPkLdE
import Derived.Test.YtdehnokcjnbjoaaGreatPkOwnN
import Derived.Test.YtdehnokcjnbjoaaGreatLdX
import Derived.Test.YtdehnokcjnbjoaaGreatChkL
import Derived.Deep.SlicePairs
import Derived.WideKeyArgs
import Derived.ProofKit
import Derived.OpenShut
import Derived.Lib.SmallJoins
namespace Go.Proofs.YtdehnokcjnbjoaaGreat
open Go.RowKit Go.Proofs.Gn
attribute [local go_sem] Oper.semAt_some
set_option linter.unusedVariables false
set_option maxRecDepth 100000 in
set_option maxHeartbeats 8000000 in
theorem p_Carries (s : ByteArray) (A : Option Addr) (ps : List Pce) (cA : Nat) (B : Option Addr) (ys : List Eye) (cB : Nat) (f i : Int) (w : World) (hA : Pcs w A ps) (hB : Eyes w B ys) (hn : ps.length ≤ 9223372036854775807) (hm : ys.length ≤ 9223372036854775807) :
    Calls Tryz.prog 29 #[loV s A ps.length cA B ys.length cB f, .int .i64 i] w fun e w' => NmE (ixE s ps ys f i) (if ixE s ps ys f i = 0 then cdL ps i.toNat else []) w e w' := by
  have HC := hide (fun W (hW : Up w W) => p_checkIndex s A ps cA B ys cB f i W (pcs_up hA hW) (eyes_up hB hW) hn hm)
  have HK : Hid (ixE s ps ys f i = 0 → ∀ W, Up w W → Calls Tryz.prog 72 #[.slice A ps.length cA, .int .i64 i] W fun e w' => NmBack (cdL ps i.toNat) W e w') := hide (fun h W hW => by
    unfold ixE at h
    split at h
    · rename_i hE
      split at h
      · rename_i hi
        obtain ⟨⟨hg1, hg2, hg3⟩, _, _, hok, _⟩ := loE_ok hE
        have q := p_carried A ps cA i.toNat W (pcs_up hA hW) hok (by omega) (by omega)
        rw [show ((i.toNat : Nat) : Int) = i by omega] at q
        exact q
      · omega
    · rename_i hE
      exact absurd h hE)
  generalize ixE s ps ys f i = E at *
  generalize cdL ps i.toNat = R at *
  generalize ps.length = n at *
  generalize ys.length = m at *
  clear hA hB hn hm
  generalize hV : (if E = 0 then R else []) = V
  have HV := hide hV
  clear hV
  go_enter Tryz.func29, Tryz.ntmps29
  go_upto_region 1 with fail
  refine at_wpC (fun W0 hW0 => ?_)
  have U0 : Up w W0 := by rw [hW0]; exact (by repeat' (first | (with_reducible exact up_refl _) | (with_reducible assumption) | (with_reducible refine up_alloc ?_ _) | (with_reducible refine up_drewN ?_ _) | (with_reducible refine up_drew ?_) | (with_reducible refine up_set ?_ (by first | (simp; done) | (simp; omega) | omega) _) | (refine up_trans ?_ (by with_reducible assumption))))
  have bL : Bx W0 w.heap.size [.string s, .slice A n cA, .slice B m cB, .int .i64 f] := by rw [hW0]; exact bx_new w _ _
  clear hW0
  have c0 := (bL 0 _ rfl).1
  have c1 := (bL 1 _ rfl).1
  have c2 := (bL 2 _ rfl).1
  have c3 := (bL 3 _ rfl).1
  go_upto_region 2 with (go_at_call 69; (with_reducible refine (unhide HC _ U0).mono ?_); rintro e w1 ⟨rfl, v1⟩)
  have bL1 := bx_up bL v1
  have U1 := up_trans U0 v1
  clear c0 c1 c2 c3 bL v1 U0 HC
  have c1 := (bL1 1 _ rfl).1
  by_cases hE : E = 0
  · subst hE
    have HK' := hide (unhide HK rfl)
    go_wp2_with (go_at_call 72; (with_reducible refine (unhide HK' _ U1).mono ?_); rintro e w2 ⟨⟨v, rfl, ho⟩, v2⟩; have HO := hide ho; clear ho)
    go_ret2
    have hV := unhide HV
    rw [if_pos (by first | rfl | trivial)] at hV
    subst hV
    exact ⟨⟨v, rfl, own_lowN (unhide HO) U1.size⟩, up_trans U1 v2⟩
  · have t0 : (E == 0) = false := by simp [hE]
    have t1 : (E != 0) = true := by simp [hE]
    go_wp2_with fail
    go_ret2
    have hV := unhide HV
    rw [if_neg hE] at hV
    subst hV
    exact ⟨⟨_, rfl, World.ownsRow_nil _ _ _ _⟩, U1⟩
end Go.Proofs.YtdehnokcjnbjoaaGreat
namespace Go.Proofs.YtdehnokcjnbjoaaGreat
open Go.RowKit Go.Proofs.Gn
attribute [local go_sem] Oper.semAt_some
set_option linter.unusedVariables false
theorem eqL3 (a b c a' b' c' : Int) (w : World) : (Op.equalIn 10000 31 (.agg #[.int .i64 a, .int .i64 b, .int .i64 c]) (.agg #[.int .i64 a', .int .i64 b', .int .i64 c'])).run Tryz.prog w = .ok (a == a' && (b == b' && c == c')) w := by
  unfold Op.equalIn
  simp [run_underlying Tryz.underlying31, go_sem]
  rw [show List.range' 0 3 = [0, 1, 2] from rfl]
  by_cases h0 : a = a' <;> by_cases h1 : b = b' <;> by_cases h2 : c = c' <;> simp [h0, h1, h2, go_sem, Tryz.isAgg2]
theorem eqL3_same (a b c : Int) (w : World) : (Op.equalIn 10000 31 (.agg #[.int .i64 a, .int .i64 b, .int .i64 c]) (.agg #[.int .i64 a, .int .i64 b, .int .i64 c])).run Tryz.prog w = .ok true w := by
  rw [eqL3]; simp
set_option maxRecDepth 100000 in
set_option maxHeartbeats 16000000 in
theorem p_knownL (w : World) :
    Calls Tryz.prog 9 #[] w fun e w' => e = .returned (.bool true) ∧ Up w w' := by
  have HE := hide (fun W => p_ExL W)
  have HM := hide (fun A B W (hA : Pcs W A exPs) (hB : Eyes W B exYs) => (show Calls Tryz.prog 10 #[loV exN A 2 2 B 2 2 300] W fun e w' => e = .returned (.tuple #[.int .i64 5000, .int .i64 0]) ∧ Up W w' from by
    have q := p_MassL exN A exPs 2 B exYs 2 300 W hA hB (by simp [exPs]) (by simp [exYs])
    unfold loM at q
    rw [ex_E, if_pos rfl, ex_M] at q
    exact q))
  have HC := hide (fun A B W (hA : Pcs W A exPs) (hB : Eyes W B exYs) => (show Calls Tryz.prog 14 #[loV exN A 2 2 B 2 2 300] W fun e w' => e = .returned (.tuple #[.agg #[.int .i64 900, .int .i64 500, .int .i64 650], .int .i64 0]) ∧ Up W w' from by
    have q := p_CentreL exN A exPs 2 B exYs 2 300 W hA hB (by simp [exPs]) (by simp [exYs])
    unfold loC at q
    simp only [ex_E, if_true, ex_C.1, ex_C.2.1, ex_C.2.2] at q
    exact q))
  have HS := hide (fun A B W (hA : Pcs W A exPs) (hB : Eyes W B exYs) => (show Calls Tryz.prog 40 #[loV exN A 2 2 B 2 2 300, .slice none 0 0, shV 301] W fun e w' => e = .returned (.tuple #[pt 1060 (-440), .int .i64 20]) ∧ Up W w' from by
    have q := p_HoldH exN A exPs 2 B exYs 2 301 W hA hB (by simp [exPs]) (by simp [exYs]) ex_E ex_M (by omega)
    rw [show (5000 * (301 : Int) + 999) / 1000 = 1505 by decide, hoF_slips] at q
    exact q))
  have HH := hide (fun A B W (hA : Pcs W A exPs) (hB : Eyes W B exYs) => (show Calls Tryz.prog 40 #[loV exN A 2 2 B 2 2 300, .slice none 0 0, shV 300] W fun e w' => e = .returned (.tuple #[pt 0 0, .int .i64 0]) ∧ Up W w' from by
    have q := p_HoldH exN A exPs 2 B exYs 2 300 W hA hB (by simp [exPs]) (by simp [exYs]) ex_E ex_M (by omega)
    rw [show (5000 * (300 : Int) + 999) / 1000 = 1500 by decide, hoF_holds] at q
    exact q))
  go_enter Tryz.func9, Tryz.ntmps9
  go_upto_region 2 with (go_at_call 50; (with_reducible refine (unhide HE _).mono ?_); rintro e w1 ⟨⟨A, B, rfl, hA, hB⟩, U1⟩)
  refine at_wpC (fun W2 hW2 => ?_)
  have u2 : Up w1 W2 := by rw [hW2]; exact (by repeat' (first | (with_reducible exact up_refl _) | (with_reducible assumption) | (with_reducible refine up_alloc ?_ _) | (with_reducible refine up_drewN ?_ _) | (with_reducible refine up_drew ?_) | (with_reducible refine up_set ?_ (by first | (simp; done) | (simp; omega) | omega) _) | (refine up_trans ?_ (by with_reducible assumption))))
  have bL : Bx W2 w1.heap.size [.string exN, .slice A 2 2, .slice B 2 2, .int .i64 300] := by rw [hW2]; exact bx_new w1 _ _
  have hA2 := pcs_up hA u2
  have hB2 := eyes_up hB u2
  have U2 := up_trans U1 u2
  clear hW2 hA hB U1 u2
  generalize w1.heap.size = gL at *
  have s0 := bx_cell bL (k := 0) rfl
  have s1 := bx_cell bL (k := 1) rfl
  have s2 := bx_cell bL (k := 2) rfl
  have s3 := bx_cell bL (k := 3) rfl
  go_upto_region 3 with (go_at_call 10; (with_reducible refine (unhide HM A B _ hA2 hB2).mono ?_); rintro e w3 ⟨rfl, u3⟩; have bL3 := bx_up bL u3; have hA3 := pcs_up hA2 u3; have hB3 := eyes_up hB2 u3; have U3 := up_trans U2 u3)
  clear s0 s1 s2 s3 bL hA2 hB2 U2 u3
  have s0 := bx_cell bL3 (k := 0) rfl
  have s1 := bx_cell bL3 (k := 1) rfl
  have s2 := bx_cell bL3 (k := 2) rfl
  have s3 := bx_cell bL3 (k := 3) rfl
  go_upto_region 4 with (go_at_call 14; (with_reducible refine (unhide HC A B _ hA3 hB3).mono ?_); rintro e w4 ⟨rfl, u4⟩)
  refine at_wpC (fun W5 hW5 => ?_)
  have u5 : Up w3 W5 := by rw [hW5]; exact (by repeat' (first | (with_reducible exact up_refl _) | (with_reducible assumption) | (with_reducible refine up_alloc ?_ _) | (with_reducible refine up_drewN ?_ _) | (with_reducible refine up_drew ?_) | (with_reducible refine up_set ?_ (by first | (simp; done) | (simp; omega) | omega) _) | (refine up_trans ?_ (by with_reducible assumption))))
  have bC : Bx W5 w4.heap.size [.int .i64 900, .int .i64 500, .int .i64 650] := by rw [hW5]; exact bx_new w4 _ _
  have bL5 := bx_up bL3 u5
  have hA5 := pcs_up hA3 u5
  have hB5 := eyes_up hB3 u5
  have U5 := up_trans U3 u5
  clear hW5 s0 s1 s2 s3 bL3 hA3 hB3 U3 u4 u5
  generalize w4.heap.size = gC at *
  have s0 := bx_cell bL5 (k := 0) rfl
  have s1 := bx_cell bL5 (k := 1) rfl
  have s2 := bx_cell bL5 (k := 2) rfl
  have s3 := bx_cell bL5 (k := 3) rfl
  go_upto_region 5 with (go_at_call 40; (with_reducible refine (unhide HS A B _ hA5 hB5).mono ?_); rintro e w6 ⟨rfl, u6⟩)
  refine at_wpC (fun W7 hW7 => ?_)
  have u7 : Up W5 W7 := by rw [hW7]; exact (by repeat' (first | (with_reducible exact up_refl _) | (with_reducible assumption) | (with_reducible refine up_alloc ?_ _) | (with_reducible refine up_drewN ?_ _) | (with_reducible refine up_drew ?_) | (with_reducible refine up_set ?_ (by first | (simp; done) | (simp; omega) | omega) _) | (refine up_trans ?_ (by with_reducible assumption))))
  have bN : Bx W7 w6.heap.size [.int .i64 1060, .int .i64 (-440)] := by rw [hW7]; exact bx_new w6 _ _
  have bL7 := bx_up bL5 u7
  have bC7 := bx_up bC u7
  have hA7 := pcs_up hA5 u7
  have hB7 := eyes_up hB5 u7
  have U7 := up_trans U5 u7
  clear hW7 s0 s1 s2 s3 bL5 bC hA5 hB5 U5 u6 u7
  generalize w6.heap.size = gN at *
  have s0 := bx_cell bL7 (k := 0) rfl
  have s1 := bx_cell bL7 (k := 1) rfl
  have s2 := bx_cell bL7 (k := 2) rfl
  have s3 := bx_cell bL7 (k := 3) rfl
  go_upto_region 6 with (go_at_call 40; (with_reducible refine (unhide HH A B _ hA7 hB7).mono ?_); rintro e w8 ⟨rfl, u8⟩)
  refine at_wpC (fun W9 hW9 => ?_)
  have u9 : Up W7 W9 := by rw [hW9]; exact (by repeat' (first | (with_reducible exact up_refl _) | (with_reducible assumption) | (with_reducible refine up_alloc ?_ _) | (with_reducible refine up_drewN ?_ _) | (with_reducible refine up_drew ?_) | (with_reducible refine up_set ?_ (by first | (simp; done) | (simp; omega) | omega) _) | (refine up_trans ?_ (by with_reducible assumption))))
  have bN9 := bx_up bN u9
  have bC9 := bx_up bC7 u9
  have U9 := up_trans U7 u9
  clear hW9 s0 s1 s2 s3 bL7 bC7 hA7 hB7 U7 u8 u9
  have c0 := bx_cell bC9 (k := 0) rfl
  have c1 := bx_cell bC9 (k := 1) rfl
  have c2 := bx_cell bC9 (k := 2) rfl
  have n0 := bx_cell bN9 (k := 0) rfl
  have n1 := bx_cell bN9 (k := 1) rfl
  have e3 := fun a b c W => eqL3_same a b c W
  go_wp2_with fail
  go_ret
  exact ⟨rfl, U9⟩
end Go.Proofs.YtdehnokcjnbjoaaGreat
namespace Go.Proofs.YtdehnokcjnbjoaaGreat
open Go.RowKit Go.Proofs.Gn
attribute [local go_sem] Oper.semAt_some
set_option linter.unusedVariables false
/-- A load that is too large for a statement. -/
def grL (s : ByteArray) (n m : Nat) : Bool := decide (40 < n) || (decide (40 < m) || decide (100 < s.size))
set_option maxRecDepth 100000 in
set_option maxHeartbeats 8000000 in
theorem p_greatL (s : ByteArray) (A : Option Addr) (n capA : Nat) (B : Option Addr) (m capB : Nat) (f : Int) (w : World) :
    Calls Tryz.prog 8 #[loV s A n capA B m capB f] w fun e w' => e = .returned (.bool (grL s n m)) ∧ Up w w' := by
  unfold grL
  by_cases h1 : 40 < n
  · have t1 : (40 : Int) < (n : Int) := by omega
    have e1 : decide (40 < n) = true := decide_eq_true h1
    rw [e1]
    go_enter Tryz.func8, Tryz.ntmps8
    go_wp2_with fail
    go_ret
    exact ⟨rfl, (by repeat' (first | (with_reducible exact up_refl _) | (with_reducible assumption) | (with_reducible refine up_alloc ?_ _) | (with_reducible refine up_drewN ?_ _) | (with_reducible refine up_drew ?_) | (with_reducible refine up_set ?_ (by first | (simp; done) | (simp; omega) | omega) _) | (refine up_trans ?_ (by with_reducible assumption))))⟩
  · have t1 : ¬ (40 : Int) < (n : Int) := by omega
    have e1 : decide (40 < n) = false := decide_eq_false h1
    rw [e1]
    by_cases h2 : 40 < m
    · have t2 : (40 : Int) < (m : Int) := by omega
      have e2 : decide (40 < m) = true := decide_eq_true h2
      rw [e2]
      go_enter Tryz.func8, Tryz.ntmps8
      go_wp2_with fail
      go_ret
      exact ⟨rfl, (by repeat' (first | (with_reducible exact up_refl _) | (with_reducible assumption) | (with_reducible refine up_alloc ?_ _) | (with_reducible refine up_drewN ?_ _) | (with_reducible refine up_drew ?_) | (with_reducible refine up_set ?_ (by first | (simp; done) | (simp; omega) | omega) _) | (refine up_trans ?_ (by with_reducible assumption))))⟩
    · have t2 : ¬ (40 : Int) < (m : Int) := by omega
      have e2 : decide (40 < m) = false := decide_eq_false h2
      rw [e2]
      by_cases h3 : 100 < s.size
      · have t3 : (100 : Int) < (s.size : Int) := by omega
        have e3 : decide (100 < s.size) = true := decide_eq_true h3
        rw [e3]
        go_enter Tryz.func8, Tryz.ntmps8
        go_wp2_with fail
        go_ret
        exact ⟨rfl, (by repeat' (first | (with_reducible exact up_refl _) | (with_reducible assumption) | (with_reducible refine up_alloc ?_ _) | (with_reducible refine up_drewN ?_ _) | (with_reducible refine up_drew ?_) | (with_reducible refine up_set ?_ (by first | (simp; done) | (simp; omega) | omega) _) | (refine up_trans ?_ (by with_reducible assumption))))⟩
      · have t3 : ¬ (100 : Int) < (s.size : Int) := by omega
        have e3 : decide (100 < s.size) = false := decide_eq_false h3
        rw [e3]
        go_enter Tryz.func8, Tryz.ntmps8
        go_wp2_with fail
        go_ret
        exact ⟨rfl, (by repeat' (first | (with_reducible exact up_refl _) | (with_reducible assumption) | (with_reducible refine up_alloc ?_ _) | (with_reducible refine up_drewN ?_ _) | (with_reducible refine up_drew ?_) | (with_reducible refine up_set ?_ (by first | (simp; done) | (simp; omega) | omega) _) | (refine up_trans ?_ (by with_reducible assumption))))⟩
/-- A moment that is told. -/
def loO (s : ByteArray) (ps : List Pce) (ys : List Eye) (f : Int) (g : Pce → Int) : Int := if loE s ps ys f = 0 then mo g ps else 0
set_option maxRecDepth 100000 in
set_option maxHeartbeats 8000000 in
theorem p_MomentsL (s : ByteArray) (A : Option Addr) (ps : List Pce) (capA : Nat) (B : Option Addr) (ys : List Eye) (capB : Nat) (f : Int) (w : World) (hA : Pcs w A ps) (hB : Eyes w B ys) (hn : ps.length ≤ 9223372036854775807) (hm : ys.length ≤ 9223372036854775807) :
    Calls Tryz.prog 12 #[loV s A ps.length capA B ys.length capB f] w fun e w' => e = .returned (.tuple #[.agg #[.int .i64 (loO s ps ys f fX), .int .i64 (loO s ps ys f fY), .int .i64 (loO s ps ys f fZ)], .int .i64 (loE s ps ys f)]) ∧ Up w w' := by
  have HC := hide (fun W (hW : Up w W) => p_CheckL s A ps capA B ys capB f W (pcs_up hA hW) (eyes_up hB hW) hn hm)
  have HM := hide (fun W (hW : Up w W) (he : loE s ps ys f = 0) => p_moments A ps capA W (pcs_up hA hW) (loE_ok he).2.2.2.1 (loE_ok he).1.2.1)
  unfold loO
  clear hA hB
  generalize loE s ps ys f = E at *
  generalize mo fX ps = mx at *
  generalize mo fY ps = my at *
  generalize mo fZ ps = mz at *
  generalize ps.length = n at *
  generalize ys.length = m at *
  go_enter Tryz.func12, Tryz.ntmps12
  go_upto_region 1 with fail
  refine at_wpC (fun W0 hW0 => ?_)
  have U0 : Up w W0 := by rw [hW0]; exact (by repeat' (first | (with_reducible exact up_refl _) | (with_reducible assumption) | (with_reducible refine up_alloc ?_ _) | (with_reducible refine up_drewN ?_ _) | (with_reducible refine up_drew ?_) | (with_reducible refine up_set ?_ (by first | (simp; done) | (simp; omega) | omega) _) | (refine up_trans ?_ (by with_reducible assumption))))
  obtain ⟨bL, bR⟩ : Bx W0 w.heap.size [.string s, .slice A n capA, .slice B m capB, .int .i64 f] ∧ Bx W0 (w.heap.size + 1) [.int .i64 0, .int .i64 0, .int .i64 0] := by
    rw [hW0]
    refine ⟨bx_alloc (bx_new w _ _) _, ?_⟩
    have q := bx_new (w.alloc (.cells #[.string s, .slice A n capA, .slice B m capB, .int .i64 f] 25)) [.int .i64 0, .int .i64 0, .int .i64 0] 31
    rw [World.size_alloc] at q
    exact q
  clear hW0
  have c0 := (bL 0 _ rfl).1
  have c1 := (bL 1 _ rfl).1
  have c2 := (bL 2 _ rfl).1
  have c3 := (bL 3 _ rfl).1
  go_upto_region 2 with (go_at_call 16; (with_reducible refine (unhide HC _ U0).mono ?_); rintro e w1 ⟨rfl, u1⟩; have bL1 := bx_up bL u1; have bR1 := bx_up bR u1; have U1 := up_trans U0 u1)
  clear bL bR U0 u1 c0 c1 c2 c3
  have hz : w.heap.size ≤ w.heap.size + 1 := by omega
  generalize w.heap.size + 1 = gR at *
  by_cases he : E = 0
  · subst he
    have HM2 := hide (fun W hW => unhide HM W hW rfl)
    clear HM
    have k1 := (bL1 1 _ rfl).1
    go_wp2_with (go_at_call 53; (with_reducible refine (unhide HM2 _ U1).mono ?_); rintro e w2 ⟨rfl, u2⟩; have bR2 := bx_up bR1 u2; have U2 := up_trans U1 u2; have r0 := (bR2 0 _ rfl).1; have r1 := (bR2 1 _ rfl).1; have r2 := (bR2 2 _ rfl).1; have f0 := (bR2 0 _ rfl).2; have f1 := (bR2 1 _ rfl).2; have f2 := (bR2 2 _ rfl).2)
    have B9 := bx_set (bx_set (bx_set bR2 0 (.int .i64 mx)) 1 (.int .i64 my)) 2 (.int .i64 mz)
    have UZ := up_set (up_set (up_set U2 (p := ⟨gR, 0, none⟩) (by simp only; omega) (.int .i64 mx)) (p := ⟨gR, 1, none⟩) (by simp only; omega) (.int .i64 my)) (p := ⟨gR, 2, none⟩) (by simp only; omega) (.int .i64 mz)
    generalize ((w2.setCell ⟨gR, 0, none⟩ (.int .i64 mx)).setCell ⟨gR, 1, none⟩ (.int .i64 my)).setCell ⟨gR, 2, none⟩ (.int .i64 mz) = W9 at B9 UZ ⊢
    have q0 := (B9 0 _ rfl).1
    have q1 := (B9 1 _ rfl).1
    have q2 := (B9 2 _ rfl).1
    refine bodyPost_ret (v := .tuple #[.agg #[.int .i64 mx, .int .i64 my, .int .i64 mz], .int .i64 0]) (by simp [results, Tryz.f12, go_sem, q0, q1, q2]) rfl ?_
    exact ⟨rfl, UZ⟩
  · have t : (E == 0) = false := by simp [he]
    have HH := hide he
    have r0 := (bR1 0 _ rfl).1
    have r1 := (bR1 1 _ rfl).1
    have r2 := (bR1 2 _ rfl).1
    have f0 := (bR1 0 _ rfl).2
    have f1 := (bR1 1 _ rfl).2
    have f2 := (bR1 2 _ rfl).2
    go_wp2_with fail
    have B9 := bx_set (bx_set (bx_set bR1 0 (.int .i64 0)) 1 (.int .i64 0)) 2 (.int .i64 0)
    have UZ := up_set (up_set (up_set U1 (p := ⟨gR, 0, none⟩) (by simp only; omega) (.int .i64 0)) (p := ⟨gR, 1, none⟩) (by simp only; omega) (.int .i64 0)) (p := ⟨gR, 2, none⟩) (by simp only; omega) (.int .i64 0)
    generalize ((w1.setCell ⟨gR, 0, none⟩ (.int .i64 0)).setCell ⟨gR, 1, none⟩ (.int .i64 0)).setCell ⟨gR, 2, none⟩ (.int .i64 0) = W9 at B9 UZ ⊢
    have q0 := (B9 0 _ rfl).1
    have q1 := (B9 1 _ rfl).1
    have q2 := (B9 2 _ rfl).1
    refine bodyPost_ret (v := .tuple #[.agg #[.int .i64 0, .int .i64 0, .int .i64 0], .int .i64 E]) (by simp [results, Tryz.f12, go_sem, q0, q1, q2]) rfl ?_
    exact ⟨by first | rfl | simp only [if_neg (unhide HH)], UZ⟩
end Go.Proofs.YtdehnokcjnbjoaaGreat
namespace Go.Proofs.YtdehnokcjnbjoaaGreat
open Go.RowKit Go.Proofs.Gn
attribute [local go_sem] Oper.semAt_some
set_option linter.unusedVariables false
theorem nms_two {W : World} {A : Option Addr} {l : List Int} (h : Nms W A l) (k : Nat) (hk : k < l.length) : ∃ b off, A = some ⟨b, off, none⟩ ∧ ∀ W', Up W W' → W'.cell? ⟨b, off + k, none⟩ = some (.int .i64 l[k]) := by
  rcases h with h | ⟨b, off, e, hc⟩
  · rw [h] at hk; simp at hk
  · exact ⟨b, off, e, fun W' hu => up_cell hu (hc k hk)⟩
set_option maxRecDepth 100000 in
set_option maxHeartbeats 8000000 in
theorem l_sameInts (A B : Option Addr) (l : List Int) (cA cB : Nat) (w : World) (hA : Nms w A l) (hB : Nms w B l) (hn : l.length ≤ 9223372036854775807) :
    Calls Tryz.prog 33 #[.slice A l.length cA, .slice B l.length cB] w fun e w' => e = .returned (.bool true) ∧ Up w w' := by
  have HL := hide (show ∀ k, k < l.length → ∃ b off b2 off2 x, A = some ⟨b, off, none⟩ ∧ B = some ⟨b2, off2, none⟩ ∧ ∀ W, Up w W → W.cell? ⟨b, off + k, none⟩ = some (.int .i64 x) ∧ W.cell? ⟨b2, off2 + k, none⟩ = some (.int .i64 x) from fun k hk => by
    obtain ⟨b, off, e, h⟩ := nms_two hA k hk
    obtain ⟨b2, off2, e2, h2⟩ := nms_two hB k hk
    exact ⟨b, off, b2, off2, l[k], e, e2, fun W hW => ⟨h W hW, h2 W hW⟩⟩)
  clear hA hB
  generalize l.length = n at *
  have t0 : ((n : Int) == (n : Int)) = true := by simp
  go_enter Tryz.func33, Tryz.ntmps33
  go_upto_region 4 with fail
  go_loopw [5] (fun s5 wr => ∃ k : Nat, k ≤ n ∧ s5 = .int .i64 k ∧ Up w wr) (fun s5 _ => n - (intOf s5).toNat)
  case atStart => exact ⟨0, by omega, rfl, up_refl _⟩
  case round =>
    obtain ⟨k, hk, rfl, hu⟩ := hrel
    by_cases hlt : k < n
    · obtain ⟨b, off, b2, off2, x, rfl, rfl, hc⟩ := unhide HL k hlt
      have i0 : (0 : Int) ≤ (k : Int) := by omega
      have i1 : (k : Int) < (n : Int) := by omega
      have i3 : (k : Int).toNat = k := by omega
      have hwk : IntKind.i64.wrap ((k : Int) + 1) = (k : Int) + 1 := IntWalk.i64_in _ ⟨by omega, by omega⟩
      have Q0 : ∀ r : UpW wr, r.v.cell? ⟨b, off + k, none⟩ = some (.int .i64 x) := fun r => (hc _ (up_trans hu r.up)).1
      have Q2 : ∀ r : UpW wr, r.v.cell? ⟨b2, off2 + k, none⟩ = some (.int .i64 x) := fun r => (hc _ (up_trans hu r.up)).2
      have x1 : (x == x) = true := by simp
      clear hc
      go_upto_region 6 with fail
      refine wp_upq (by kernel_rfl) (by kernel_rfl) ?_; (repeat (go_big_quiet_step (fail))); refine wpQuiet_nil ?_; intro _ hw'; obtain ⟨pq, hw''⟩ := hw'; subst hw''; have hpq := pq.up
      generalize pq.v = W3 at hpq ⊢
      clear Q0 Q2
      go_wp2_with fail
      go_roundw
      case rel => exact ⟨k + 1, by omega, by go_num, up_trans hu hpq⟩
      case measure => simp [intOf]; omega
    · obtain rfl : k = n := by omega
      have i1 : ¬ (k : Int) < (k : Int) := by omega
      go_wp2_with fail
      go_ret
      exact ⟨rfl, hu⟩
theorem take_has {l : List Int} {x : Int} {k : Nat} (h : k < l.length) : (l.take (k + 1)).contains x = ((l.take k).contains x || x == l[k]) := by
  rw [List.take_succ_eq_append_getElem h, List.contains_append]
  congr 1
  simp only [List.contains_cons, List.contains_nil, Bool.or_false]
set_option maxRecDepth 100000 in
set_option maxHeartbeats 8000000 in
theorem l_within (A B : Option Addr) (l m : List Int) (cA cB : Nat) (w : World) (hA : Nms w A l) (hB : Nms w B m) (hn : l.length ≤ 9223372036854775807) (hm : m.length ≤ 9223372036854775807) (hs : ∀ x ∈ l, x ∈ m) :
    Calls Tryz.prog 49 #[.slice A l.length cA, .slice B m.length cB] w fun e w' => e = .returned (.bool true) ∧ Up w w' := by
  have HA := hide (fun k (hk : k < l.length) => nms_two hA k hk)
  have HB := hide (fun k (hk : k < m.length) => nms_two hB k hk)
  have HT := hide (fun x k (hk : k < m.length) => take_has (x := x) hk)
  have HE := hide (fun k (hk : k < l.length) => (show (m.take m.length).contains l[k] = true by rw [List.take_length]; simpa using hs _ (List.getElem_mem hk)))
  clear hA hB hs
  obtain ⟨n, hnn⟩ : ∃ n, l.length = n := ⟨_, rfl⟩
  have HNN := hide hnn
  obtain ⟨q, hqq⟩ : ∃ q, m.length = q := ⟨_, rfl⟩
  have HQQ := hide hqq
  rw [hnn] at hn ⊢
  rw [hqq] at hm HE ⊢
  clear hnn hqq
  go_enter Tryz.func49, Tryz.ntmps49
  go_upto_region 2 with fail
  go_loopw [5] (fun s5 wr => ∃ k : Nat, k ≤ n ∧ s5 = .int .i64 k ∧ Up w wr) (fun s5 _ => n - (intOf s5).toNat)
  case atStart => exact ⟨0, by omega, rfl, up_refl _⟩
  case round =>
    obtain ⟨k, hk, rfl, hu⟩ := hrel
    by_cases hlt : k < n
    · have hl : k < l.length := by rw [unhide HNN]; exact hlt
      obtain ⟨b, off, rfl, hc⟩ := unhide HA k hl
      have he := unhide HE k hl
      have HTx := hide (unhide HT l[k])
      generalize l[k] = x at *
      have HEx := hide he
      have HC := hide hc
      have i0 : (0 : Int) ≤ (k : Int) := by omega
      have i1 : (k : Int) < (n : Int) := by omega
      have i3 : (k : Int).toNat = k := by omega
      have hwk : IntKind.i64.wrap ((k : Int) + 1) = (k : Int) + 1 := IntWalk.i64_in _ ⟨by omega, by omega⟩
      clear he hc
      obtain ⟨wo, rfl⟩ : ∃ wo, wo = wr := ⟨_, rfl⟩
      go_upto_region 6 with fail
      go_loopw [6, 7] (fun s6 s7 wr => ∃ j : Nat, j ≤ q ∧ s7 = .int .i64 j ∧ s6 = .bool ((m.take j).contains x) ∧ Up w wr) (fun _ s7 _ => q - (intOf s7).toNat)
      case atStart => exact ⟨0, by omega, rfl, by simp, hu⟩
      case round =>
        clear hu
        obtain ⟨j, hj, rfl, rfl, hu⟩ := hrel
        by_cases hjq : j < q
        · have hl2 : j < m.length := by rw [unhide HQQ]; exact hjq
          obtain ⟨b2, off2, rfl, hc2⟩ := unhide HB j hl2
          have ht := unhide HTx j hl2
          generalize m[j] = y at *
          have Q0 : ∀ r : UpW wr, r.v.cell? ⟨b, off + k, none⟩ = some (.int .i64 x) := fun r => unhide HC _ (up_trans hu r.up)
          have Q2 : ∀ r : UpW wr, r.v.cell? ⟨b2, off2 + j, none⟩ = some (.int .i64 y) := fun r => hc2 _ (up_trans hu r.up)
          have k0 : (0 : Int) ≤ (j : Int) := by omega
          have k1 : (j : Int) < (q : Int) := by omega
          have k3 : (j : Int).toNat = j := by omega
          have hwj : IntKind.i64.wrap ((j : Int) + 1) = (j : Int) + 1 := IntWalk.i64_in _ ⟨by omega, by omega⟩
          have HTT := hide ht
          clear hc2 ht
          generalize (m.take j).contains x = F at *
          go_upto_region 8 with fail
          cases F with
          | true =>
            refine wp_upq (by kernel_rfl) (by kernel_rfl) ?_; (repeat (go_big_quiet_step (fail))); refine wpQuiet_nil ?_; intro _ hw'; obtain ⟨pq, hw''⟩ := hw'; subst hw''; have hpq := pq.up
            generalize pq.v = W3 at hpq ⊢
            clear Q0 Q2
            go_wp2_with fail
            go_roundw
            case rel => exact ⟨j + 1, by omega, by go_num, by rw [unhide HTT]; rfl, up_trans hu hpq⟩
            case measure => simp [intOf]; omega
          | false =>
            obtain ⟨E, hE⟩ : ∃ E, (x == y) = E := ⟨_, rfl⟩
            have HEE := hide hE
            refine wp_upq (by kernel_rfl) (by kernel_rfl) ?_; (repeat (go_big_quiet_step (fail))); refine wpQuiet_nil ?_; intro _ hw'; obtain ⟨pq, hw''⟩ := hw'; subst hw''; have hpq := pq.up
            generalize pq.v = W3 at hpq ⊢
            clear Q0 Q2
            go_wp2_with fail
            go_roundw
            case rel => exact ⟨j + 1, by omega, by go_num, by rw [unhide HTT, unhide HEE]; rfl, up_trans hu hpq⟩
            case measure => simp [intOf]; omega
        · obtain rfl : j = q := by omega
          have k1 : ¬ (j : Int) < (j : Int) := by omega
          have ht := unhide HEx
          rw [ht]
          go_wp2_with fail
          go_roundw
          case rel => exact ⟨k + 1, by omega, by go_num, hu⟩
          case measure => simp [intOf]; omega
    · obtain rfl : k = n := by omega
      have i1 : ¬ (k : Int) < (k : Int) := by omega
      go_wp2_with fail
      go_ret
      exact ⟨rfl, hu⟩
end Go.Proofs.YtdehnokcjnbjoaaGreat
namespace Go.Proofs.YtdehnokcjnbjoaaGreat
open Go.RowKit Go.Proofs.Gn Go.ChangeShapes Go.WideShapes Go.Deep Go.Joins Go.ChangeAt
instance : Inhabited Pce := ⟨⟨0, 0, 0, 0, 0, 0, 0⟩⟩
instance : Inhabited Eye := ⟨⟨0, 0, 0, 0⟩⟩
theorem Tryz.laidOutL : laidOutB Tryz.prog = true := by kernel_rfl
theorem Tryz.readLoad : Tryz.prog.readableRec 25 = true := by kernel_rfl
theorem Tryz.cellsPiece : Tryz.prog.cellsOf 75 = 7 := by kernel_rfl
theorem Tryz.cellsEye : Tryz.prog.cellsOf 86 = 4 := by kernel_rfl
theorem Tryz.cellsLoad : Tryz.prog.cellsOf 25 = 4 := by kernel_rfl
theorem Tryz.cellsI64L : Tryz.prog.cellsOf 2 = 1 := by kernel_rfl
theorem add_atL {a : Addr} (h : a.spot = none) (n : Nat) : a.add n = ⟨a.block, a.off + n, none⟩ := by
  obtain ⟨b, o, s⟩ := a
  subst h
  unfold Addr.add
  split
  · subst n; rfl
  · rfl
set_option maxRecDepth 100000 in
theorem pcs_open {H : Type} {enc : TypeId × Value → H} {W : World} {base fuel : Nat} {v : Value} {x : DataW H × List MemPlace} (hf : DataW.trod enc Tryz.prog W base (fun _ => true) true fuel 22 [v] = some x) :
    ∃ A ps cap, v = .slice A (List.length ps) cap ∧ Pcs W A ps ∧ ps.length ≤ 9223372036854775807 := by
  rcases open_slice Tryz.underlying22 hf with ⟨hc, _⟩ | ⟨a, len, cap, m, n, D, Pl, hc, hb, hl, hm, hmm, hx, hi⟩
  · simp only [List.cons.injEq, and_true] at hc
    exact ⟨none, [], 0, hc, .inl rfl, by simp⟩
  · simp only [List.cons.injEq, and_true] at hc
    have hlm : len ≤ m := by rw [hmm]; split <;> omega
    by_cases h0 : len = 0
    · subst h0
      exact ⟨some a, [], cap, by simpa using hc, .inl rfl, by simp⟩
    have hs : a.spot = none := by
      obtain ⟨cs', h1, h2⟩ := hi 0 (by omega)
      rw [Tryz.cellsPiece] at h1
      obtain ⟨_, hlen, hcell⟩ := World.cells?_some h1
      match cs', hlen with
      | [v0, v1, v2, v3, v4, v5, v6], _ =>
        have c0 := hcell 0 (by omega)
        simpa [Addr.add] using World.cell?_spot c0
    have each : ∀ i, i < len → ∃ s : Pce, PceAt W a.block (a.off + i * 7) s := by
      intro i hlt
      obtain ⟨cs', h1, h2⟩ := hi i (by omega)
      rw [Tryz.cellsPiece] at h1
      obtain ⟨_, hlen, hcell⟩ := World.cells?_some h1
      obtain ⟨xs, k, hk, hxy, _, hxl, hg⟩ := DataW.trod_struct Tryz.underlying75 h2
      match xs, hxl, cs', hlen with
      | [y0, y1, y2, y3, y4, y5, y6], _, [v0, v1, v2, v3, v4, v5, v6], _ =>
        have g0 := hg 0 _ rfl
        have g1 := hg 1 _ rfl
        have g2 := hg 2 _ rfl
        have g3 := hg 3 _ rfl
        have g4 := hg 4 _ rfl
        have g5 := hg 5 _ rfl
        have g6 := hg 6 _ rfl
        simp [Tryz.cellsI64L] at g0 g1 g2 g3 g4 g5 g6
        obtain ⟨x0, e0, _, _⟩ := DataW.trod_int Tryz.underlying2 g0
        obtain ⟨x1, e1, _, _⟩ := DataW.trod_int Tryz.underlying2 g1
        obtain ⟨x2, e2, _, _⟩ := DataW.trod_int Tryz.underlying2 g2
        obtain ⟨x3, e3, _, _⟩ := DataW.trod_int Tryz.underlying2 g3
        obtain ⟨x4, e4, _, _⟩ := DataW.trod_int Tryz.underlying2 g4
        obtain ⟨x5, e5, _, _⟩ := DataW.trod_int Tryz.underlying2 g5
        obtain ⟨x6, e6, _, _⟩ := DataW.trod_int Tryz.underlying2 g6
        simp only [List.cons.injEq, and_true] at e0 e1 e2 e3 e4 e5 e6
        subst e0 e1 e2 e3 e4 e5 e6
        have c0 := hcell 0 (by omega)
        have c1 := hcell 1 (by omega)
        have c2 := hcell 2 (by omega)
        have c3 := hcell 3 (by omega)
        have c4 := hcell 4 (by omega)
        have c5 := hcell 5 (by omega)
        have c6 := hcell 6 (by omega)
        rw [add_add, add_atL hs] at c0 c1 c2 c3 c4 c5 c6
        exact ⟨⟨x0, x1, x2, x3, x4, x5, x6⟩, by simpa using c0, by simpa [Nat.add_assoc] using c1, by simpa [Nat.add_assoc] using c2, by simpa [Nat.add_assoc] using c3, by simpa [Nat.add_assoc] using c4, by simpa [Nat.add_assoc] using c5, by simpa [Nat.add_assoc] using c6⟩
    obtain ⟨q, hq⟩ := choose_lt each
    refine ⟨some a, (List.range len).map q, cap, by simpa using hc, ?_, by simp [maxLen] at hm ⊢; omega⟩
    refine .inr ⟨a.block, a.off, by obtain ⟨_, _, _⟩ := a; subst hs; rfl, fun k hk => ?_⟩
    have hk2 : k < len := by simpa using hk
    have := hq k hk2
    simpa using this
set_option maxRecDepth 100000 in
theorem eyes_open {H : Type} {enc : TypeId × Value → H} {W : World} {base fuel : Nat} {v : Value} {x : DataW H × List MemPlace} (hf : DataW.trod enc Tryz.prog W base (fun _ => true) true fuel 23 [v] = some x) :
    ∃ A ps cap, v = .slice A (List.length ps) cap ∧ Eyes W A ps ∧ ps.length ≤ 9223372036854775807 := by
  rcases open_slice Tryz.underlying23 hf with ⟨hc, _⟩ | ⟨a, len, cap, m, n, D, Pl, hc, hb, hl, hm, hmm, hx, hi⟩
  · simp only [List.cons.injEq, and_true] at hc
    exact ⟨none, [], 0, hc, .inl rfl, by simp⟩
  · simp only [List.cons.injEq, and_true] at hc
    have hlm : len ≤ m := by rw [hmm]; split <;> omega
    by_cases h0 : len = 0
    · subst h0
      exact ⟨some a, [], cap, by simpa using hc, .inl rfl, by simp⟩
    have hs : a.spot = none := by
      obtain ⟨cs', h1, h2⟩ := hi 0 (by omega)
      rw [Tryz.cellsEye] at h1
      obtain ⟨_, hlen, hcell⟩ := World.cells?_some h1
      match cs', hlen with
      | [v0, v1, v2, v3], _ =>
        have c0 := hcell 0 (by omega)
        simpa [Addr.add] using World.cell?_spot c0
    have each : ∀ i, i < len → ∃ s : Eye, EyeAt W a.block (a.off + i * 4) s := by
      intro i hlt
      obtain ⟨cs', h1, h2⟩ := hi i (by omega)
      rw [Tryz.cellsEye] at h1
      obtain ⟨_, hlen, hcell⟩ := World.cells?_some h1
      obtain ⟨xs, k, hk, hxy, _, hxl, hg⟩ := DataW.trod_struct Tryz.underlying86 h2
      match xs, hxl, cs', hlen with
      | [y0, y1, y2, y3], _, [v0, v1, v2, v3], _ =>
        have g0 := hg 0 _ rfl
        have g1 := hg 1 _ rfl
        have g2 := hg 2 _ rfl
        have g3 := hg 3 _ rfl
        simp [Tryz.cellsI64L] at g0 g1 g2 g3
        obtain ⟨x0, e0, _, _⟩ := DataW.trod_int Tryz.underlying2 g0
        obtain ⟨x1, e1, _, _⟩ := DataW.trod_int Tryz.underlying2 g1
        obtain ⟨x2, e2, _, _⟩ := DataW.trod_int Tryz.underlying2 g2
        obtain ⟨x3, e3, _, _⟩ := DataW.trod_int Tryz.underlying2 g3
        simp only [List.cons.injEq, and_true] at e0 e1 e2 e3
        subst e0 e1 e2 e3
        have c0 := hcell 0 (by omega)
        have c1 := hcell 1 (by omega)
        have c2 := hcell 2 (by omega)
        have c3 := hcell 3 (by omega)
        rw [add_add, add_atL hs] at c0 c1 c2 c3
        exact ⟨⟨x0, x1, x2, x3⟩, by simpa using c0, by simpa [Nat.add_assoc] using c1, by simpa [Nat.add_assoc] using c2, by simpa [Nat.add_assoc] using c3⟩
    obtain ⟨q, hq⟩ := choose_lt each
    refine ⟨some a, (List.range len).map q, cap, by simpa using hc, ?_, by simp [maxLen] at hm ⊢; omega⟩
    refine .inr ⟨a.block, a.off, by obtain ⟨_, _, _⟩ := a; subst hs; rfl, fun k hk => ?_⟩
    have hk2 : k < len := by simpa using hk
    have := hq k hk2
    simpa using this
set_option maxRecDepth 100000 in
theorem load_open {H : Type} {enc : TypeId × Value → H} {W : World} {base b0 : Nat} {r : Reach} {v : Value} {d : DataW H} {p : List MemPlace} (hv : Value.okWide Tryz.prog W r b0 25 v) (h : DataW.Trod enc Tryz.prog W base (fun _ => true) true 25 v d p) :
    ∃ s A ps capA B ys capB f, v = loV s A (List.length ps) capA B (List.length ys) capB f ∧ Pcs W A ps ∧ Eyes W B ys ∧ ps.length ≤ 9223372036854775807 ∧ ys.length ≤ 9223372036854775807 ∧ s.size ≤ maxLen := by
  obtain ⟨v0, v1, v2, v3, y0, y1, y2, y3, n, rfl, rfl, rfl, h0, h1, h2, h3⟩ := open_agg4 Tryz.underlying25 (by kernel_rfl) Tryz.cellsLoad hv h
  obtain ⟨s, e0, _, hs⟩ := DataW.trod_string Tryz.underlying9 h0
  simp only [List.cons.injEq, and_true] at e0
  subst e0
  obtain ⟨A, ps, capA, rfl, hA, hn⟩ := pcs_open h1
  obtain ⟨B, ys, capB, rfl, hB, hm⟩ := eyes_open h2
  obtain ⟨f, e3, _, _⟩ := DataW.trod_int Tryz.underlying2 h3
  simp only [List.cons.injEq, and_true] at e3
  subst e3
  exact ⟨s, A, ps, capA, B, ys, capB, f, rfl, hA, hB, hn, hm, hs⟩
/-- A load reads as it did. -/
theorem load_shut {H : Type} {enc : TypeId × Value → H} {W W' : World} {sp : Nat → Bool} {v : Value} {d : DataW H} {p : List MemPlace} (h : DataW.Trod enc Tryz.prog W 0 (fun _ => true) true 25 v d p) (hb : Below W.heap.size W W') (hlt : ∀ x ∈ p, x.block < W.heap.size) (hsp : ∀ x ∈ p, sp x.block = true) :
    DataW.Trod enc Tryz.prog W' 0 sp true 25 v d p :=
  WideElems.Trod_stays Tryz.laidOutL Tryz.readLoad (of_decide_eq_true (by kernel_rfl)) h (fun x hx => hb.same (hlt x hx)) hsp
end Go.Proofs.YtdehnokcjnbjoaaGreat
