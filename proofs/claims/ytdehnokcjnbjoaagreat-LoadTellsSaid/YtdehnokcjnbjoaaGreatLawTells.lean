/- LoadTells: the law's function returns true. -/
import Derived.Test.YtdehnokcjnbjoaaGreatPkOpenLoad
import Derived.Test.YtdehnokcjnbjoaaGreatPkSaP
import Derived.Test.YtdehnokcjnbjoaaGreatEnvR
import Derived.Test.YtdehnokcjnbjoaaGreatLdQ
namespace Go.Proofs.YtdehnokcjnbjoaaGreat
open Go.RowKit Go.Proofs.Gn
attribute [local go_sem] Oper.semAt_some
set_option linter.unusedVariables false
theorem bx_two {w : World} (x y : List Value) (T : TypeId) : Bx ((w.alloc (.cells x.toArray T)).alloc (.cells y.toArray T)) w.heap.size x ∧ Bx ((w.alloc (.cells x.toArray T)).alloc (.cells y.toArray T)) (w.heap.size + 1) y := by
  refine ⟨bx_alloc (bx_new w _ _) _, ?_⟩
  have q := bx_new (w.alloc (.cells x.toArray T)) y T
  rw [World.size_alloc] at q
  exact q
set_option maxRecDepth 100000 in
set_option maxHeartbeats 16000000 in
theorem l_Tells1 (s : ByteArray) (A B : Option Addr) (n m cA cB : Nat) (f z : Int) (w : World) (hg : grL s n m = true) :
    Calls Tryz.prog 3 #[loV s A n cA B m cB f, .int .i64 z] w fun e w' => e = .returned (.bool true) ∧ Up w w' := by
  have HG1 := hide (fun W => p_greatL s A n cA B m cB f W)
  have HK := hide (fun W => p_knownL W)
  rw [hg] at HG1
  clear hg
  go_enter Tryz.func3, Tryz.ntmps3
  go_upto_region 1 with fail
  refine at_wpC (fun W0 hW0 => ?_)
  have b0 : Bx W0 w.heap.size [.string s, .slice A n cA, .slice B m cB, .int .i64 f] := by rw [hW0]; exact bx_new w _ _
  have U0 : Up w W0 := by rw [hW0]; exact (by repeat' (first | (with_reducible exact up_refl _) | (with_reducible assumption) | (with_reducible refine up_alloc ?_ _) | (with_reducible refine up_drewN ?_ _) | (with_reducible refine up_drew ?_) | (with_reducible refine up_set ?_ (by first | (simp; done) | (simp; omega) | omega) _) | (refine up_trans ?_ (by with_reducible assumption))))
  clear hW0
  have x0 := (b0 0 _ rfl).1
  have x1 := (b0 1 _ rfl).1
  have x2 := (b0 2 _ rfl).1
  have x3 := (b0 3 _ rfl).1
  go_wp2_with (first
    | (go_at_call 8; (with_reducible refine (unhide HG1 _).mono ?_); rintro e w1 ⟨rfl, v1⟩)
    | (go_at_call 9; (with_reducible refine (unhide HK _).mono ?_); rintro e w9 ⟨rfl, v9⟩))
  go_ret
  exact ⟨rfl, up_trans (up_trans U0 v1) v9⟩
set_option maxRecDepth 100000 in
set_option maxHeartbeats 16000000 in
theorem l_Tells2 (s : ByteArray) (A B : Option Addr) (n m cA cB : Nat) (f z : Int) (w : World) (hg : grL s n m = false) (M E X Y Z c1 c2 c3 l1 l2 l3 k1 k2 k3 E2 : Int) (n1 n2 : Nat) (L1 L2 : Pl) (HM : Hid (∀ W, Up w W → Calls Tryz.prog 10 #[loV s A n cA B m cB f] W fun e w' => e = .returned (.tuple #[.int .i64 M, .int .i64 E]) ∧ Up W w')) (HMr : Hid (∀ W, Up w W → Calls Tryz.prog 11 #[loV s A n cA B m cB f] W fun e w' => e = .returned (.tuple #[.int .i64 M, .int .i64 E]) ∧ Up W w')) (HO : Hid (∀ W, Up w W → Calls Tryz.prog 12 #[loV s A n cA B m cB f] W fun e w' => e = .returned (.tuple #[.agg #[.int .i64 X, .int .i64 Y, .int .i64 Z], .int .i64 E]) ∧ Up W w')) (HOr : Hid (∀ W, Up w W → Calls Tryz.prog 13 #[loV s A n cA B m cB f] W fun e w' => e = .returned (.tuple #[.agg #[.int .i64 X, .int .i64 Y, .int .i64 Z], .int .i64 E]) ∧ Up W w')) (HC : Hid (∀ W, Up w W → Calls Tryz.prog 14 #[loV s A n cA B m cB f] W fun e w' => e = .returned (.tuple #[.agg #[.int .i64 c1, .int .i64 c2, .int .i64 c3], .int .i64 E]) ∧ Up W w')) (HCr : Hid (∀ W, Up w W → Calls Tryz.prog 15 #[loV s A n cA B m cB f] W fun e w' => e = .returned (.tuple #[.agg #[.int .i64 c1, .int .i64 c2, .int .i64 c3], .int .i64 E]) ∧ Up W w')) (HK : Hid (∀ W, Up w W → Calls Tryz.prog 16 #[loV s A n cA B m cB f] W fun e w' => e = .returned (.int .i64 E) ∧ Up W w')) (HKr : Hid (∀ W, Up w W → Calls Tryz.prog 17 #[loV s A n cA B m cB f] W fun e w' => e = .returned (.int .i64 E) ∧ Up W w')) (HV : Hid (∀ W, Up w W → Calls Tryz.prog 18 #[loV s A n cA B m cB f] W fun e w' => e = .returned (.tuple #[.agg #[.int .i64 l1, .int .i64 l2, .int .i64 l3], .agg #[.int .i64 k1, .int .i64 k2, .int .i64 k3], .int .i64 E]) ∧ Up W w')) (HVr : Hid (∀ W, Up w W → Calls Tryz.prog 19 #[loV s A n cA B m cB f] W fun e w' => e = .returned (.tuple #[.agg #[.int .i64 l1, .int .i64 l2, .int .i64 l3], .agg #[.int .i64 k1, .int .i64 k2, .int .i64 k3], .int .i64 E]) ∧ Up W w')) (HL : Hid (∀ W, Up w W → Calls Tryz.prog 20 #[loV s A n cA B m cB f] W fun e w' => (∃ A' c', e = .returned (.tuple #[.slice A' n1 c', .int .i64 E]) ∧ Hid (∀ W2, Up w' W2 → Pts W2 A' L1)) ∧ Up W w')) (HLr : Hid (∀ W, Up w W → Calls Tryz.prog 21 #[loV s A n cA B m cB f] W fun e w' => (∃ A' c', e = .returned (.tuple #[.slice A' n1 c', .int .i64 E]) ∧ Hid (∀ W2, Up w' W2 → Pts W2 A' L1)) ∧ Up W w')) (HA : Hid (∀ W, Up w W → Calls Tryz.prog 22 #[loV s A n cA B m cB f, .int .i64 z] W fun e w' => (∃ A' c', e = .returned (.tuple #[.slice A' n2 c', .int .i64 E2]) ∧ Hid (∀ W2, Up w' W2 → Pts W2 A' L2)) ∧ Up W w')) (HAr : Hid (∀ W, Up w W → Calls Tryz.prog 23 #[loV s A n cA B m cB f, .int .i64 z] W fun e w' => (∃ A' c', e = .returned (.tuple #[.slice A' n2 c', .int .i64 E2]) ∧ Hid (∀ W2, Up w' W2 → Pts W2 A' L2)) ∧ Up W w')) (HS1 : Hid (∀ W A' B' c c', Pts W A' L1 → Pts W B' L1 → Calls Tryz.prog 24 #[.slice A' n1 c, .slice B' n1 c'] W fun e w' => e = .returned (.bool true) ∧ Up W w')) (HS2 : Hid (∀ W A' B' c c', Pts W A' L2 → Pts W B' L2 → Calls Tryz.prog 24 #[.slice A' n2 c, .slice B' n2 c'] W fun e w' => e = .returned (.bool true) ∧ Up W w')) :
    Calls Tryz.prog 3 #[loV s A n cA B m cB f, .int .i64 z] w fun e w' => e = .returned (.bool true) ∧ Up w w' := by
  have HG1 := hide (fun W => p_greatL s A n cA B m cB f W)
  have HKn := hide (fun W => p_knownL W)
  rw [hg] at HG1
  clear hg
  have e3 := fun a b c W => eqL3_same a b c W
  have t0 : (E == E) = true := by simp
  have t1 : (M == M) = true := by simp
  have t2 : (E2 == E2) = true := by simp
  have t3 : (E != E) = false := by simp
  have t4 : (M != M) = false := by simp
  go_enter Tryz.func3, Tryz.ntmps3
  go_upto_region 1 with fail
  refine at_wpC (fun W0 hW0 => ?_)
  have b0 : Bx W0 w.heap.size [.string s, .slice A n cA, .slice B m cB, .int .i64 f] := by rw [hW0]; exact bx_new w _ _
  have U0 : Up w W0 := by rw [hW0]; exact (by repeat' (first | (with_reducible exact up_refl _) | (with_reducible assumption) | (with_reducible refine up_alloc ?_ _) | (with_reducible refine up_drewN ?_ _) | (with_reducible refine up_drew ?_) | (with_reducible refine up_set ?_ (by first | (simp; done) | (simp; omega) | omega) _) | (refine up_trans ?_ (by with_reducible assumption))))
  clear hW0
  have x0 := (b0 0 _ rfl).1
  have x1 := (b0 1 _ rfl).1
  have x2 := (b0 2 _ rfl).1
  have x3 := (b0 3 _ rfl).1
  go_upto_region 3 with (go_at_call 8; (with_reducible refine (unhide HG1 _).mono ?_); rintro e w90 ⟨rfl, v90⟩)
  have b90 := bx_up b0 v90
  have U90 := up_trans U0 v90
  clear x0 x1 x2 x3 b0 U0 v90
  have x0 := (b90 0 _ rfl).1
  have x1 := (b90 1 _ rfl).1
  have x2 := (b90 2 _ rfl).1
  have x3 := (b90 3 _ rfl).1
  go_upto_region 4 with (go_at_call 10; (with_reducible refine (unhide HM _ U90).mono ?_); rintro e w1 ⟨rfl, v1⟩)
  have y1 := v1
  clear v1
  have b1 := bx_up b90 y1
  have U1 := up_trans U90 y1
  clear x0 x1 x2 x3 b90 U90 y1
  have x0 := (b1 0 _ rfl).1
  have x1 := (b1 1 _ rfl).1
  have x2 := (b1 2 _ rfl).1
  have x3 := (b1 3 _ rfl).1
  go_upto_region 5 with (go_at_call 11; (with_reducible refine (unhide HMr _ U1).mono ?_); rintro e w2 ⟨rfl, v2⟩)
  have y2 := v2
  clear v2
  have b2 := bx_up b1 y2
  have U2 := up_trans U1 y2
  clear x0 x1 x2 x3 b1 U1 y2
  have x0 := (b2 0 _ rfl).1
  have x1 := (b2 1 _ rfl).1
  have x2 := (b2 2 _ rfl).1
  have x3 := (b2 3 _ rfl).1
  go_upto_region 6 with (go_at_call 12; (with_reducible refine (unhide HO _ U2).mono ?_); rintro e w3 ⟨rfl, v3⟩)
  refine at_wpC (fun W3 hW3 => ?_)
  have y3 : Up w2 W3 := by rw [hW3]; exact (by repeat' (first | (with_reducible exact up_refl _) | (with_reducible assumption) | (with_reducible refine up_alloc ?_ _) | (with_reducible refine up_drewN ?_ _) | (with_reducible refine up_drew ?_) | (with_reducible refine up_set ?_ (by first | (simp; done) | (simp; omega) | omega) _) | (refine up_trans ?_ (by with_reducible assumption))))
  have bO : Bx W3 w3.heap.size [.int .i64 X, .int .i64 Y, .int .i64 Z] := by rw [hW3]; exact bx_new w3 _ _
  clear hW3 v3
  generalize w3.heap.size = g3 at *
  have b3 := bx_up b2 y3
  have U3 := up_trans U2 y3
  clear x0 x1 x2 x3 b2 U2 y3
  have x0 := (b3 0 _ rfl).1
  have x1 := (b3 1 _ rfl).1
  have x2 := (b3 2 _ rfl).1
  have x3 := (b3 3 _ rfl).1
  go_upto_region 7 with (go_at_call 13; (with_reducible refine (unhide HOr _ U3).mono ?_); rintro e w4 ⟨rfl, v4⟩)
  refine at_wpC (fun W4 hW4 => ?_)
  have y4 : Up W3 W4 := by rw [hW4]; exact (by repeat' (first | (with_reducible exact up_refl _) | (with_reducible assumption) | (with_reducible refine up_alloc ?_ _) | (with_reducible refine up_drewN ?_ _) | (with_reducible refine up_drew ?_) | (with_reducible refine up_set ?_ (by first | (simp; done) | (simp; omega) | omega) _) | (refine up_trans ?_ (by with_reducible assumption))))
  have bQ : Bx W4 w4.heap.size [.int .i64 X, .int .i64 Y, .int .i64 Z] := by rw [hW4]; exact bx_new w4 _ _
  clear hW4 v4
  generalize w4.heap.size = g4 at *
  have b4 := bx_up b3 y4
  have U4 := up_trans U3 y4
  replace bO := bx_up bO y4
  clear x0 x1 x2 x3 b3 U3 y4
  have x0 := (b4 0 _ rfl).1
  have x1 := (b4 1 _ rfl).1
  have x2 := (b4 2 _ rfl).1
  have x3 := (b4 3 _ rfl).1
  go_upto_region 8 with (go_at_call 14; (with_reducible refine (unhide HC _ U4).mono ?_); rintro e w5 ⟨rfl, v5⟩)
  refine at_wpC (fun W5 hW5 => ?_)
  have y5 : Up W4 W5 := by rw [hW5]; exact (by repeat' (first | (with_reducible exact up_refl _) | (with_reducible assumption) | (with_reducible refine up_alloc ?_ _) | (with_reducible refine up_drewN ?_ _) | (with_reducible refine up_drew ?_) | (with_reducible refine up_set ?_ (by first | (simp; done) | (simp; omega) | omega) _) | (refine up_trans ?_ (by with_reducible assumption))))
  have bC : Bx W5 w5.heap.size [.int .i64 c1, .int .i64 c2, .int .i64 c3] := by rw [hW5]; exact bx_new w5 _ _
  clear hW5 v5
  generalize w5.heap.size = g5 at *
  have b5 := bx_up b4 y5
  have U5 := up_trans U4 y5
  replace bO := bx_up bO y5
  replace bQ := bx_up bQ y5
  clear x0 x1 x2 x3 b4 U4 y5
  have x0 := (b5 0 _ rfl).1
  have x1 := (b5 1 _ rfl).1
  have x2 := (b5 2 _ rfl).1
  have x3 := (b5 3 _ rfl).1
  go_upto_region 9 with (go_at_call 15; (with_reducible refine (unhide HCr _ U5).mono ?_); rintro e w6 ⟨rfl, v6⟩)
  refine at_wpC (fun W6 hW6 => ?_)
  have y6 : Up W5 W6 := by rw [hW6]; exact (by repeat' (first | (with_reducible exact up_refl _) | (with_reducible assumption) | (with_reducible refine up_alloc ?_ _) | (with_reducible refine up_drewN ?_ _) | (with_reducible refine up_drew ?_) | (with_reducible refine up_set ?_ (by first | (simp; done) | (simp; omega) | omega) _) | (refine up_trans ?_ (by with_reducible assumption))))
  have bD : Bx W6 w6.heap.size [.int .i64 c1, .int .i64 c2, .int .i64 c3] := by rw [hW6]; exact bx_new w6 _ _
  clear hW6 v6
  generalize w6.heap.size = g6 at *
  have b6 := bx_up b5 y6
  have U6 := up_trans U5 y6
  replace bO := bx_up bO y6
  replace bQ := bx_up bQ y6
  replace bC := bx_up bC y6
  clear x0 x1 x2 x3 b5 U5 y6
  have x0 := (b6 0 _ rfl).1
  have x1 := (b6 1 _ rfl).1
  have x2 := (b6 2 _ rfl).1
  have x3 := (b6 3 _ rfl).1
  clear x0 x1 x2 x3
  have X0 : ∀ r : UpW W6, r.v.cell? ⟨w.heap.size, 0, none⟩ = some (.string s) := fun r => (bx_up b6 r.up 0 _ rfl).1
  have X1 : ∀ r : UpW W6, r.v.cell? ⟨w.heap.size, 1, none⟩ = some (.slice A n cA) := fun r => (bx_up b6 r.up 1 _ rfl).1
  have X2 : ∀ r : UpW W6, r.v.cell? ⟨w.heap.size, 2, none⟩ = some (.slice B m cB) := fun r => (bx_up b6 r.up 2 _ rfl).1
  have X3 : ∀ r : UpW W6, r.v.cell? ⟨w.heap.size, 3, none⟩ = some (.int .i64 f) := fun r => (bx_up b6 r.up 3 _ rfl).1
  have bO0 : ∀ r : UpW W6, r.v.cell? ⟨g3, 0, none⟩ = some (.int .i64 X) := fun r => (bx_up bO r.up 0 _ rfl).1
  have bO1 : ∀ r : UpW W6, r.v.cell? ⟨g3, 1, none⟩ = some (.int .i64 Y) := fun r => (bx_up bO r.up 1 _ rfl).1
  have bO2 : ∀ r : UpW W6, r.v.cell? ⟨g3, 2, none⟩ = some (.int .i64 Z) := fun r => (bx_up bO r.up 2 _ rfl).1
  have bQ0 : ∀ r : UpW W6, r.v.cell? ⟨g4, 0, none⟩ = some (.int .i64 X) := fun r => (bx_up bQ r.up 0 _ rfl).1
  have bQ1 : ∀ r : UpW W6, r.v.cell? ⟨g4, 1, none⟩ = some (.int .i64 Y) := fun r => (bx_up bQ r.up 1 _ rfl).1
  have bQ2 : ∀ r : UpW W6, r.v.cell? ⟨g4, 2, none⟩ = some (.int .i64 Z) := fun r => (bx_up bQ r.up 2 _ rfl).1
  have bC0 : ∀ r : UpW W6, r.v.cell? ⟨g5, 0, none⟩ = some (.int .i64 c1) := fun r => (bx_up bC r.up 0 _ rfl).1
  have bC1 : ∀ r : UpW W6, r.v.cell? ⟨g5, 1, none⟩ = some (.int .i64 c2) := fun r => (bx_up bC r.up 1 _ rfl).1
  have bC2 : ∀ r : UpW W6, r.v.cell? ⟨g5, 2, none⟩ = some (.int .i64 c3) := fun r => (bx_up bC r.up 2 _ rfl).1
  have bD0 : ∀ r : UpW W6, r.v.cell? ⟨g6, 0, none⟩ = some (.int .i64 c1) := fun r => (bx_up bD r.up 0 _ rfl).1
  have bD1 : ∀ r : UpW W6, r.v.cell? ⟨g6, 1, none⟩ = some (.int .i64 c2) := fun r => (bx_up bD r.up 1 _ rfl).1
  have bD2 : ∀ r : UpW W6, r.v.cell? ⟨g6, 2, none⟩ = some (.int .i64 c3) := fun r => (bx_up bD r.up 2 _ rfl).1
  have HKu := hide (fun r : UpW W6 => unhide HK r.v (up_trans U6 r.up))
  have HKru := hide (fun r : UpW W6 => unhide HKr r.v (up_trans U6 r.up))
  refine wp_upq (by kernel_rfl) (by kernel_rfl) ?_; (repeat (go_big_quiet_step ((first | (go_at_call 16; with_reducible exact upq (unhide HKu _)) | (go_at_call 17; with_reducible exact upq (unhide HKru _)))))); refine wpQuiet_nil ?_; intro _ hw'; obtain ⟨pq, hw''⟩ := hw'; subst hw''; have hpq := pq.up
  generalize pq.v = W50 at hpq ⊢
  have b50 := bx_up b6 hpq
  have U50 := up_trans U6 hpq
  clear X0 X1 X2 X3 bO0 bO1 bO2 bQ0 bQ1 bQ2 bC0 bC1 bC2 bD0 bD1 bD2 bO bQ bC bD b6 U6 hpq HKu HKru
  have x0 := (b50 0 _ rfl).1
  have x1 := (b50 1 _ rfl).1
  have x2 := (b50 2 _ rfl).1
  have x3 := (b50 3 _ rfl).1
  go_upto_region 12 with (go_at_call 18; (with_reducible refine (unhide HV _ U50).mono ?_); rintro e w7 ⟨rfl, v7⟩)
  refine at_wpC (fun W7 hW7 => ?_)
  have y7 : Up W50 W7 := by rw [hW7]; exact (by repeat' (first | (with_reducible exact up_refl _) | (with_reducible assumption) | (with_reducible refine up_alloc ?_ _) | (with_reducible refine up_drewN ?_ _) | (with_reducible refine up_drew ?_) | (with_reducible refine up_set ?_ (by first | (simp; done) | (simp; omega) | omega) _) | (refine up_trans ?_ (by with_reducible assumption))))
  obtain ⟨bL, bH⟩ : Bx W7 w7.heap.size [.int .i64 l1, .int .i64 l2, .int .i64 l3] ∧ Bx W7 (w7.heap.size + 1) [.int .i64 k1, .int .i64 k2, .int .i64 k3] := by rw [hW7]; exact bx_two _ _ _
  clear hW7 v7
  generalize w7.heap.size + 1 = g7' at *
  generalize w7.heap.size = g7 at *
  have b7 := bx_up b50 y7
  have U7 := up_trans U50 y7
  clear x0 x1 x2 x3 b50 U50 y7
  have x0 := (b7 0 _ rfl).1
  have x1 := (b7 1 _ rfl).1
  have x2 := (b7 2 _ rfl).1
  have x3 := (b7 3 _ rfl).1
  go_upto_region 13 with (go_at_call 19; (with_reducible refine (unhide HVr _ U7).mono ?_); rintro e w8 ⟨rfl, v8⟩)
  refine at_wpC (fun W8 hW8 => ?_)
  have y8 : Up W7 W8 := by rw [hW8]; exact (by repeat' (first | (with_reducible exact up_refl _) | (with_reducible assumption) | (with_reducible refine up_alloc ?_ _) | (with_reducible refine up_drewN ?_ _) | (with_reducible refine up_drew ?_) | (with_reducible refine up_set ?_ (by first | (simp; done) | (simp; omega) | omega) _) | (refine up_trans ?_ (by with_reducible assumption))))
  obtain ⟨bM, bN⟩ : Bx W8 w8.heap.size [.int .i64 l1, .int .i64 l2, .int .i64 l3] ∧ Bx W8 (w8.heap.size + 1) [.int .i64 k1, .int .i64 k2, .int .i64 k3] := by rw [hW8]; exact bx_two _ _ _
  clear hW8 v8
  generalize w8.heap.size + 1 = g8' at *
  generalize w8.heap.size = g8 at *
  have b8 := bx_up b7 y8
  have U8 := up_trans U7 y8
  replace bL := bx_up bL y8
  replace bH := bx_up bH y8
  clear x0 x1 x2 x3 b7 U7 y8
  have x0 := (b8 0 _ rfl).1
  have x1 := (b8 1 _ rfl).1
  have x2 := (b8 2 _ rfl).1
  have x3 := (b8 3 _ rfl).1
  go_upto_region 14 with (go_at_call 20; (with_reducible refine (unhide HL _ U8).mono ?_); rintro e w9 ⟨⟨A1, a1, rfl, hp1⟩, v9⟩)
  have b9 := bx_up b8 v9
  have U9 := up_trans U8 v9
  replace bL := bx_up bL v9
  replace bH := bx_up bH v9
  replace bM := bx_up bM v9
  replace bN := bx_up bN v9
  clear x0 x1 x2 x3 b8 U8 v9
  have x0 := (b9 0 _ rfl).1
  have x1 := (b9 1 _ rfl).1
  have x2 := (b9 2 _ rfl).1
  have x3 := (b9 3 _ rfl).1
  go_upto_region 15 with (go_at_call 21; (with_reducible refine (unhide HLr _ U9).mono ?_); rintro e w10 ⟨⟨A2, a2, rfl, hp2⟩, v10⟩)
  have b10 := bx_up b9 v10
  have U10 := up_trans U9 v10
  replace bL := bx_up bL v10
  replace bH := bx_up bH v10
  replace bM := bx_up bM v10
  replace bN := bx_up bN v10
  have hp1' := hide (fun W2 (hW : Up w10 W2) => unhide hp1 W2 (up_trans v10 hW))
  clear hp1
  have hp1 := hp1'
  clear hp1'
  clear x0 x1 x2 x3 b9 U9 v10
  have x0 := (b10 0 _ rfl).1
  have x1 := (b10 1 _ rfl).1
  have x2 := (b10 2 _ rfl).1
  have x3 := (b10 3 _ rfl).1
  go_upto_region 16 with (go_at_call 22; (with_reducible refine (unhide HA _ U10).mono ?_); rintro e w11 ⟨⟨A3, a3, rfl, hp3⟩, v11⟩)
  have b11 := bx_up b10 v11
  have U11 := up_trans U10 v11
  replace bL := bx_up bL v11
  replace bH := bx_up bH v11
  replace bM := bx_up bM v11
  replace bN := bx_up bN v11
  have hp1' := hide (fun W2 (hW : Up w11 W2) => unhide hp1 W2 (up_trans v11 hW))
  clear hp1
  have hp1 := hp1'
  clear hp1'
  have hp2' := hide (fun W2 (hW : Up w11 W2) => unhide hp2 W2 (up_trans v11 hW))
  clear hp2
  have hp2 := hp2'
  clear hp2'
  clear x0 x1 x2 x3 b10 U10 v11
  have x0 := (b11 0 _ rfl).1
  have x1 := (b11 1 _ rfl).1
  have x2 := (b11 2 _ rfl).1
  have x3 := (b11 3 _ rfl).1
  go_upto_region 17 with (go_at_call 23; (with_reducible refine (unhide HAr _ U11).mono ?_); rintro e w12 ⟨⟨A4, a4, rfl, hp4⟩, v12⟩)
  have b12 := bx_up b11 v12
  have U12 := up_trans U11 v12
  replace bL := bx_up bL v12
  replace bH := bx_up bH v12
  replace bM := bx_up bM v12
  replace bN := bx_up bN v12
  have hp1' := hide (fun W2 (hW : Up w12 W2) => unhide hp1 W2 (up_trans v12 hW))
  clear hp1
  have hp1 := hp1'
  clear hp1'
  have hp2' := hide (fun W2 (hW : Up w12 W2) => unhide hp2 W2 (up_trans v12 hW))
  clear hp2
  have hp2 := hp2'
  clear hp2'
  have hp3' := hide (fun W2 (hW : Up w12 W2) => unhide hp3 W2 (up_trans v12 hW))
  clear hp3
  have hp3 := hp3'
  clear hp3'
  clear x0 x1 x2 x3 b11 U11 v12
  have x0 := (b12 0 _ rfl).1
  have x1 := (b12 1 _ rfl).1
  have x2 := (b12 2 _ rfl).1
  have x3 := (b12 3 _ rfl).1
  clear x0 x1 x2 x3
  have bL0 := (bL 0 _ rfl).1
  have bL1 := (bL 1 _ rfl).1
  have bL2 := (bL 2 _ rfl).1
  have bH0 := (bH 0 _ rfl).1
  have bH1 := (bH 1 _ rfl).1
  have bH2 := (bH 2 _ rfl).1
  have bM0 := (bM 0 _ rfl).1
  have bM1 := (bM 1 _ rfl).1
  have bM2 := (bM 2 _ rfl).1
  have bN0 := (bN 0 _ rfl).1
  have bN1 := (bN 1 _ rfl).1
  have bN2 := (bN 2 _ rfl).1
  go_wp2_with (first
    | (go_at_call 24; (with_reducible refine (unhide HS1 _ A1 A2 a1 a2 (unhide hp1 _ (up_refl _)) (unhide hp2 _ (up_refl _))).mono ?_); rintro e w60 ⟨rfl, v60⟩)
    | (go_at_call 24; (with_reducible refine (unhide HS2 _ A3 A4 a3 a4 (unhide hp3 _ v60) (unhide hp4 _ v60)).mono ?_); rintro e w61 ⟨rfl, v61⟩)
    | (go_at_call 9; (with_reducible refine (unhide HKn _).mono ?_); rintro e w62 ⟨rfl, v62⟩))
  go_ret
  exact ⟨rfl, up_trans U12 (up_trans v60 (up_trans v61 v62))⟩
theorem pl_pts {E : Int} {L : Pl} {w : World} {e : Ending} {w' : World} (h : PlBack E L w e w') : (∃ A' c', e = .returned (.tuple #[.slice A' L.length c', .int .i64 E]) ∧ Hid (∀ W2, Up w' W2 → Pts W2 A' L)) ∧ Up w w' := by
  obtain ⟨⟨v, he, ho⟩, hu⟩ := h
  obtain ⟨A', c', rfl, hp⟩ := own_pts ho
  exact ⟨⟨A', c', he, hide fun W2 hW => pts_up hp hW⟩, hu⟩
theorem l_Tells (s : ByteArray) (A : Option Addr) (ps : List Pce) (cA : Nat) (B : Option Addr) (ys : List Eye) (cB : Nat) (f z : Int) (w : World) (hA : Pcs w A ps) (hB : Eyes w B ys) (hn : ps.length ≤ 9223372036854775807) (hm : ys.length ≤ 9223372036854775807) :
    Calls Tryz.prog 3 #[loV s A ps.length cA B ys.length cB f, .int .i64 z] w fun e w' => e = .returned (.bool true) ∧ Up w w' := by
  cases hg : grL s ps.length ys.length
  · have hb : ps.length ≤ 40 := by
      unfold grL at hg
      simp only [Bool.or_eq_false_iff, decide_eq_false_iff_not] at hg
      omega
    have hlL : ∀ (E zz : Int), (ouL E (cnL zz ps)).length ≤ 9223372036854775807 := fun E zz => by
      have q := cnL_len zz ps
      have r := hullF_len (cnL zz ps)
      unfold ouL hlL
      split
      · split
        · simp
        · omega
      · simp
    exact l_Tells2 s A B ps.length ys.length cA cB f z w hg (loM s ps ys f) (loE s ps ys f) (loO s ps ys f fX) (loO s ps ys f fY) (loO s ps ys f fZ) (loC s ps ys f fX) (loC s ps ys f fY) (loC s ps ys f fZ) (loN s ps ys f gX) (loN s ps ys f gY) (loN s ps ys f gZ) (loX s ps ys f hX) (loX s ps ys f hY) (loX s ps ys f hZ) (ouE (loE s ps ys f) (cnL z ps)) _ _ (ouL (loE s ps ys f) (cnL (-1) ps)) (ouL (loE s ps ys f) (cnL z ps))
      (hide fun W hW => p_MassL s A ps cA B ys cB f W (pcs_up hA hW) (eyes_up hB hW) hn hm) (hide fun W hW => r_MassL s A ps cA B ys cB f W (pcs_up hA hW) (eyes_up hB hW) hn hm) (hide fun W hW => p_MomentsL s A ps cA B ys cB f W (pcs_up hA hW) (eyes_up hB hW) hn hm) (hide fun W hW => r_MomentsL s A ps cA B ys cB f W (pcs_up hA hW) (eyes_up hB hW) hn hm) (hide fun W hW => p_CentreL s A ps cA B ys cB f W (pcs_up hA hW) (eyes_up hB hW) hn hm) (hide fun W hW => r_CentreL s A ps cA B ys cB f W (pcs_up hA hW) (eyes_up hB hW) hn hm) (hide fun W hW => p_CheckL s A ps cA B ys cB f W (pcs_up hA hW) (eyes_up hB hW) hn hm) (hide fun W hW => r_CheckL s A ps cA B ys cB f W (pcs_up hA hW) (eyes_up hB hW) hn hm) (hide fun W hW => p_EnvelopeA s A ps cA B ys cB f W (pcs_up hA hW) (eyes_up hB hW) hn hm) (hide fun W hW => r_EnvelopeA s A ps cA B ys cB f W (pcs_up hA hW) (eyes_up hB hW) hn hm)
      (hide fun W hW => (p_OutlineL s A ps cA B ys cB f W (pcs_up hA hW) (eyes_up hB hW) hn hm).mono fun _ _ h => pl_pts h) (hide fun W hW => (r_OutlineG s A ps cA B ys cB f W (pcs_up hA hW) (eyes_up hB hW) hn hm).mono fun _ _ h => pl_pts h) (hide fun W hW => (p_AboveL s A ps cA B ys cB f z W (pcs_up hA hW) (eyes_up hB hW) hn hm).mono fun _ _ h => pl_pts h) (hide fun W hW => (r_AboveG s A ps cA B ys cB f z W (pcs_up hA hW) (eyes_up hB hW) hn hm).mono fun _ _ h => pl_pts h)
      (hide fun W A' B' c c' h1 h2 => l_samePts A' B' _ c c' W h1 h2 (hlL _ _)) (hide fun W A' B' c c' h1 h2 => l_samePts A' B' _ c c' W h1 h2 (hlL _ _))
  · exact l_Tells1 s A B ps.length ys.length cA cB f z w hg
end Go.Proofs.YtdehnokcjnbjoaaGreat
