/- bridge.Train of the carrier. -/
import Derived.Test.YthifcalemhpmoaaGreatTrn
import Derived.Test.YthifcalemhpmoaaGreatPkBrS
import Derived.Test.YthifcalemhpmoaaGreatTopM
namespace Go.Proofs.YthifcalemhpmoaaGreat
open Go.RowKit Go.Proofs.Gn
attribute [local go_sem] Oper.semAt_some
set_option linter.unusedVariables false
theorem ints_i6 {w : World} {A : Option Addr} {l : List Int} (h : Ints w A l) : I6 w A l := h
theorem tr_ct {a b : Int} (ha : 0 ≤ a ∧ a ≤ 1048576) (hb : 0 ≤ b ∧ b ≤ 1048576) : ctE (trF a b) = 0 := by
  have w1 : ∀ {n lo hi : Int}, lo ≤ n ∧ n ≤ hi → win6 n lo hi = true := fun h => decide_eq_true h
  have t : tok 0 (trF a b) = true := by
    unfold trF
    simp only [tok, Bool.and_eq_true]
    exact ⟨w1 (by omega), w1 (by omega), w1 (by omega), w1 (by omega), w1 (by omega), w1 (by omega), w1 (by omega), w1 (by omega), w1 (by omega), w1 (by omega), trivial⟩
  unfold ctE
  rw [if_pos (w1 (by simp [trF])), if_pos (by rw [t]; rfl)]
set_option maxRecDepth 100000 in
set_option maxHeartbeats 8000000 in
theorem p_Train (C A B D : Option Addr) (a b : Int) (cD : Nat) (w : World) (h : Unts w C (crU A B)) (hD : Ints w D [a, b]) (ha : 0 ≤ a ∧ a ≤ 1048576) (hb : 0 ≤ b ∧ b ≤ 1048576) :
    Calls Tryz.prog 29 #[veV crN C 2 2 1 1, .slice D 2 cD] w fun e w' => (∃ T c, e = .returned (.tuple #[.slice T 5 c, .int .i64 0]) ∧ Frs w' T (trF a b)) ∧ Up w w' := by
  have H1 := hide (fun W (hW : Up w W) => (show Calls Tryz.prog 43 #[veV crN C 2 2 1 1] W fun e w' => e = .returned (.int .i64 0) ∧ Up W w' from by
    have q := p_CheckV crN C (crU A B) 2 1 1 W (unts_up h hW) (by show 2 ≤ _; omega)
    rw [cr_ok A B] at q
    exact q))
  have H2 := hide (fun W (hW : Up w W) => (show Calls Tryz.prog 65 #[.slice D 2 cD, .int .i64 0, .int .i64 1048576] W fun e w' => e = .returned (.bool true) ∧ Up W w' from by
    have q := p_are 0 1048576 D [a, b] cD W (ints_i6 (ints_up hD hW)) (by simp)
    rw [show arW 0 1048576 [a, b] = true by
      unfold arW arW arW
      rw [show win6 a 0 1048576 = true from decide_eq_true ha, show win6 b 0 1048576 = true from decide_eq_true hb]
      rfl] at q
    exact q))
  have H3 := hide (fun W (hW : Up w W) => p_train C A B D a b cD W (unts_up h hW) (ints_up hD hW))
  have H4 := hide (fun T c W (hF : Frs W T (trF a b)) => (show Calls Tryz.prog 33 #[.slice T 5 c] W fun e w' => e = .returned (.int .i64 0) ∧ Up W w' from by
    have q := p_CheckTrain T (trF a b) c W hF (by simp [trF])
    rw [tr_ct ha hb] at q
    exact q))
  generalize trF a b = F at *
  clear h hD ha hb
  go_enter Tryz.func29, Tryz.ntmps29
  go_upto_region 1 with fail
  refine at_wpC (fun W0 hW0 => ?_)
  have U0 : Up w W0 := by rw [hW0]; exact (by repeat' (first | (with_reducible exact up_refl _) | (with_reducible assumption) | (with_reducible refine up_alloc ?_ _) | (with_reducible refine up_drewN ?_ _) | (with_reducible refine up_drew ?_) | (with_reducible refine up_set ?_ (by first | (simp; done) | (simp; omega) | omega) _) | (refine up_trans ?_ (by with_reducible assumption))))
  have bV : Bx W0 w.heap.size [.string crN, .slice C 2 2, .int .i64 1, .int .i64 1] := by rw [hW0]; exact bx_new w _ _
  clear hW0
  have c0 := (bV 0 _ rfl).1
  have c1 := (bV 1 _ rfl).1
  have c2 := (bV 2 _ rfl).1
  have c3 := (bV 3 _ rfl).1
  go_upto_region 4 with (go_at_call 43; (with_reducible refine (unhide H1 _ U0).mono ?_); rintro e w1 ⟨rfl, u1⟩)
  have b1 := bx_up bV u1
  have U1 := up_trans U0 u1
  clear c0 c1 c2 c3 bV U0 u1
  have c1 := (b1 1 _ rfl).1
  go_upto_region 8 with (go_at_call 65; (with_reducible refine (unhide H2 _ U1).mono ?_); rintro e w2 ⟨rfl, u2⟩)
  have b2 := bx_up b1 u2
  have U2 := up_trans U1 u2
  clear c1 b1 U1 u2
  have c0 := (b2 0 _ rfl).1
  have c1 := (b2 1 _ rfl).1
  have c2 := (b2 2 _ rfl).1
  have c3 := (b2 3 _ rfl).1
  go_upto_region 9 with (go_at_call 66; (with_reducible refine (unhide H3 _ U2).mono ?_); rintro e w3 ⟨⟨T, c, rfl, hF⟩, u3⟩)
  clear c0 c1 c2 c3 b2
  go_wp2_with (go_at_call 33; (with_reducible refine (unhide H4 _ _ _ hF).mono ?_); rintro e w4 ⟨rfl, u4⟩)
  go_ret2
  exact ⟨⟨T, c, rfl, frs_up hF u4⟩, up_trans (up_trans U2 u3) u4⟩
end Go.Proofs.YthifcalemhpmoaaGreat
