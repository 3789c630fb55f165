/- The works of the layers up to 6. The examples of the layers up to 5, with which the laws of the top begin or end, are right. -/
import Derived.Test.YthifcalemhpmoaaGreatPkCarP
import Derived.Test.YthifcalemhpmoaaGreatPkBrS
import Derived.Test.YthifcalemhpmoaaGreatPkLever
import Derived.Test.YthifcalemhpmoaaGreatPkPlatf
import Derived.Test.YthifcalemhpmoaaGreatPkBrMm
import Derived.Test.YthifcalemhpmoaaGreatPkTip
namespace Go.Proofs.YthifcalemhpmoaaGreat
open Go.RowKit Go.Proofs.Gn
attribute [local go_sem] Oper.semAt_some
set_option linter.unusedVariables false
theorem wk_hull : Gx.hullF [(1, 0), (3, 0), (2, 0)] = [(1, 0), (3, 0)] := by decide +kernel
theorem wk_lo : loE cgN [⟨0, -1280, 0, 1, 1, 1, 5⟩] [] 300 = 0 := by
  have h1 : nmS cgN = true := by decide +kernel
  unfold loE
  rw [if_pos (by simp), if_pos ⟨h1, by decide, by decide, by decide⟩]
theorem wk_lm : loM cgN [⟨0, -1280, 0, 1, 1, 1, 5⟩] [] 300 = 5 := by
  unfold loM
  rw [wk_lo]
  rfl
theorem wk_lev : leM 1000 0 3 1 = 667 ∧ leN 1000 0 3 1 = 334 ∧ leE 1000 0 3 1 = 0 := by decide +kernel
theorem p_cargo1 (w : World) (g : Nat) (h : Bx w g [.int .u8 0, .int .u8 0, .int .u8 0, .int .u8 0, .int .u8 0, .int .u8 0, .int .u16 4]) :
    Calls Tryz.prog 5 #[.slice (some ⟨g, 0, none⟩) 1 1] w fun e w' => (∃ P cp, e = .returned (loV cgN P 1 cp none 0 0 300) ∧ Pcs w' P [⟨0, -1280, 0, 1, 1, 1, 5⟩]) ∧ Up w w' := by
  refine (p_cargo (some ⟨g, 0, none⟩) [⟨0, 0, 0, 0, 0, 0, 4⟩] 1 w (.inr ⟨g, 0, rfl, fun k hk => ?_⟩) (fun k hk => ?_) (by simp)).mono fun e w' h => h
  · obtain rfl : k = 0 := by simp at hk; omega
    exact ⟨(h 0 _ rfl).1, (h 1 _ rfl).1, (h 2 _ rfl).1, (h 3 _ rfl).1, (h 4 _ rfl).1, (h 5 _ rfl).1, (h 6 _ rfl).1⟩
  · obtain rfl : k = 0 := by simp at hk; omega
    simp [okBxe]
theorem p_mass1 (P : Option Addr) (cp : Nat) (w : World) (h : Pcs w P [⟨0, -1280, 0, 1, 1, 1, 5⟩]) :
    Calls Tryz.prog 10 #[loV cgN P 1 cp none 0 0 300] w fun e w' => e = .returned (.tuple #[.int .i64 5, .int .i64 0]) ∧ Up w w' := by
  have q := p_MassL cgN P [⟨0, -1280, 0, 1, 1, 1, 5⟩] cp none [] 0 300 w h (.inl rfl) (by simp) (by simp)
  rw [wk_lm, wk_lo] at q
  exact q
theorem p_lever1 (w : World) :
    Calls Tryz.prog 21 #[.int .i64 1000, .int .i64 0, .int .i64 3, .int .i64 1] w fun e w' => e = .returned (.tuple #[.int .i64 667, .int .i64 334, .int .i64 0]) ∧ Up w w' := by
  have q := p_Lever 1000 0 3 1 w
  rw [wk_lev.1, wk_lev.2.1, wk_lev.2.2] at q
  exact q
theorem p_hull3 (w : World) (g : Nat) (h : Bx w g [.int .i64 1, .int .i64 0, .int .i64 3, .int .i64 0, .int .i64 2, .int .i64 0]) :
    Calls Tryz.prog 22 #[.slice (some ⟨g, 0, none⟩) 3 3] w fun e w' => (∃ A c, e = .returned (.tuple #[.slice A 2 c, .int .i64 0])) ∧ Up w w' := by
  have hp : Pts w (some ⟨g, 0, none⟩) [(1, 0), (3, 0), (2, 0)] := .inr ⟨g, 0, rfl, fun k hk => by
    match k, hk with
    | 0, _ => exact ⟨(h 0 _ rfl).1, (h 1 _ rfl).1⟩
    | 1, _ => exact ⟨(h 2 _ rfl).1, (h 3 _ rfl).1⟩
    | 2, _ => exact ⟨(h 4 _ rfl).1, (h 5 _ rfl).1⟩⟩
  refine (p_Hull (some ⟨g, 0, none⟩) [(1, 0), (3, 0), (2, 0)] 3 w hp (by simp) (by simp) (by decide)).mono ?_
  rintro e w' ⟨v, rfl, ho, hb⟩
  rw [wk_hull] at ho
  obtain ⟨A, c, rfl, _⟩ := own_pts ho
  exact ⟨⟨A, c, rfl⟩, hb⟩
set_option maxRecDepth 100000 in
set_option maxHeartbeats 8000000 in
theorem p_works05 (w : World) :
    Calls Tryz.prog 7 #[] w fun e w' => e = .returned (.bool true) ∧ Up w w' := by
  go_enter Tryz.func7, Tryz.ntmps7
  go_upto_region 2 with (first
    | (go_at_call 20; (with_reducible refine (p_carrier _).mono ?_); rintro e w1 ⟨⟨C, A, B, rfl, hU⟩, u1⟩)
    | (go_at_call 19; (with_reducible refine (p_crStraight C A B _ hU).mono ?_); rintro e w2 ⟨⟨A', ca, rfl, hP⟩, u2⟩))
  refine at_wpC (fun W2 hW2 => ?_)
  have U2 : Up w W2 := by rw [hW2]; exact (by repeat' (first | (with_reducible exact up_refl _) | (with_reducible assumption) | (with_reducible refine up_alloc ?_ _) | (with_reducible refine up_drewN ?_ _) | (with_reducible refine up_drew ?_) | (with_reducible refine up_set ?_ (by first | (simp; done) | (simp; omega) | omega) _) | (refine up_trans ?_ (by with_reducible assumption))))
  obtain ⟨bP, hlt⟩ : Bx W2 w2.heap.size [.int .i64 0, .int .i64 0, .slice A' 2 ca] ∧ w2.heap.size < W2.heap.size := by rw [hW2]; exact ⟨bx_new w2 _ _, by simp⟩
  obtain ⟨g, hg⟩ : ∃ g, w2.heap.size = g := ⟨_, rfl⟩
  rw [hg] at bP hlt ⊢
  clear hW2 hU hP u1 u2 hg
  go_upto_region 3 with (first
    | (go_at_call 5; (with_reducible refine (p_cargo1 _ _ (bx_new W2 [.int .u8 0, .int .u8 0, .int .u8 0, .int .u8 0, .int .u8 0, .int .u8 0, .int .u16 4] _)).mono ?_); rintro e w3 ⟨⟨P, cp, rfl, hP⟩, u3⟩)
    | (go_at_call 10; (with_reducible refine (p_mass1 P cp _ hP).mono ?_); rintro e w4 ⟨rfl, u4⟩))
  have U4 : Up W2 w4 := up_trans (up_trans (up_alloc (up_refl _) _) u3) u4
  have bP4 := bx_up bP U4
  have U4' := up_trans U2 U4
  clear hP u3 u4 U4 bP hlt U2
  go_upto_region 4 with (go_at_call 21; (with_reducible refine (p_lever1 _).mono ?_); rintro e w5 ⟨rfl, u5⟩)
  have bP5 := bx_up bP4 u5
  have U5 := up_trans U4' u5
  clear bP4 u5 U4'
  go_upto_region 5 with (go_at_call 22; (with_reducible refine (p_hull3 _ _ (bx_new w5 [.int .i64 1, .int .i64 0, .int .i64 3, .int .i64 0, .int .i64 2, .int .i64 0] _)).mono ?_); rintro e w6 ⟨⟨A6, c6, rfl⟩, u6⟩)
  have U6 : Up w5 w6 := up_trans (up_alloc (up_refl _) _) u6
  have bP6 := bx_up bP5 U6
  have U7 := up_trans U5 U6
  obtain ⟨c0, c1, c2⟩ := bx3 bP6
  clear bP5 bP6 u6 U6 U5
  go_wp2
  go_ret
  exact ⟨rfl, U7⟩
end Go.Proofs.YthifcalemhpmoaaGreat
namespace Go.Proofs.YthifcalemhpmoaaGreat
open Go.RowKit Go.Proofs.Gn
attribute [local go_sem] Oper.semAt_some
set_option linter.unusedVariables false
/-- The bridge of the example. -/
abbrev bgEx (A B C : Option Addr) : Brg := { sp := [1000], mo := [9], sh := [9], A0 := A, A1 := B, A2 := C, k0 := 1, k1 := 1, k2 := 1, dy := 0, la := 1, tr := 0 }
theorem i6_one {W : World} {b : Nat} {x : Int} (h : Bx W b [.int .i64 x]) : I6 W (some ⟨b, 0, none⟩) [x] := .inr ⟨b, 0, rfl, fun k hk => by
  match k, hk with
  | 0, _ => exact (h 0 _ rfl).1⟩
set_option maxRecDepth 100000 in
set_option maxHeartbeats 8000000 in
theorem p_works06 (w : World) : Calls Tryz.prog 12 #[] w fun e w' => e = .returned (.bool true) ∧ Up w w' := by
  have HW := hide (fun W => p_works05 W)
  have HL := hide (fun A B C W (hA : BgAt W (bgEx A B C)) => (show Calls Tryz.prog 30 #[.agg #[.slice A 1 1, .slice B 1 1, .slice C 1 1, .int .i64 0, .int .i64 1, .int .i64 0], .int .i64 0, .int .i64 500, .int .i64 400] W fun e w' => e = .returned (.tuple #[.int .i64 200000, .int .i64 0]) ∧ Up W w' from by
    have q := p_Line (bgEx A B C) 0 500 400 W hA (by simp) (by simp)
    have e1 : liE (bgEx A B C) 0 500 400 = 0 := by kernel_rfl
    have e2 : liV (bgEx A B C) 0 500 400 = 200000 := by kernel_rfl
    rw [e1, e2] at q
    exact q))
  have hB : BgAt (((w.alloc (.cells #[.int .i64 1000] 2)).alloc (.cells #[.int .i64 9] 2)).alloc (.cells #[.int .i64 9] 2)) (bgEx (some ⟨w.heap.size, 0, none⟩) (some ⟨w.heap.size + 1, 0, none⟩) (some ⟨w.heap.size + 1 + 1, 0, none⟩)) := by
    obtain ⟨x, y, z⟩ := bx_three w [.int .i64 1000] [.int .i64 9] [.int .i64 9] 2 2 2
    exact ⟨i6_one x, i6_one y, i6_one z⟩
  go_enter Tryz.func12, Tryz.ntmps12
  go_wp2_with (first
    | (go_at_call 30; (with_reducible refine (unhide HL _ _ _ _ hB).mono ?_); rintro e w1 ⟨rfl, u1⟩)
    | (go_at_call 7; (with_reducible refine (unhide HW _).mono ?_); rintro e w2 ⟨rfl, u2⟩))
  go_ret
  exact ⟨rfl, up_trans (by repeat' (first | (with_reducible exact up_refl _) | (with_reducible assumption) | (with_reducible refine up_alloc ?_ _) | (with_reducible refine up_drewN ?_ _) | (with_reducible refine up_drew ?_) | (with_reducible refine up_set ?_ (by first | (simp; done) | (simp; omega) | omega) _) | (refine up_trans ?_ (by with_reducible assumption)))) (up_trans u1 u2)⟩
end Go.Proofs.YthifcalemhpmoaaGreat
