/- BridgeGround: the law's function returns true. -/
import Derived.Test.YtdignnmhiifpgaaBrPr
import Derived.Test.YtdignnmhiifpgaaBrRf
import Derived.Test.YtdignnmhiifpgaaBrZ
import Derived.OwnWalk
import Derived.Deep.Cut
import Derived.Deep.DeepCutAuto
namespace Go.Proofs.Ytdignnmhiifpgaa
open Go.RowKit Go.Proofs.Gn
set_option linter.unusedVariables false
set_option maxRecDepth 100000 in
set_option maxHeartbeats 8000000 in
theorem l_Ground6 (A : Option Addr) (ts : List (Int × Int)) (cap : Nat) (cv wd ld lf pw n d : Int) (w : World) (hF : Frs w A ts) (hnt : ts.length ≤ 9223372036854775807) (hcap : ts.length ≤ cap) :
    Calls Try.prog 4 #[.slice A ts.length cap, .int .i64 cv, .int .i64 wd, .agg #[.int .i64 ld, .int .i64 lf, .int .i64 pw], .int .i64 n, .int .i64 d] w fun e w' => e = .returned (.bool true) ∧ Below w.heap.size w w' := by
  obtain ⟨P, hP⟩ : ∃ P : Pav, P = ⟨ld, lf, pw⟩ := ⟨_, rfl⟩
  have hPV : pvV P = .agg #[.int .i64 ld, .int .i64 lf, .int .i64 pw] := by rw [hP]; rfl
  have H1 := fun W (hU : Up w W) => p_Pressure A ts cap cv wd W (frs_up hF hU) hnt hcap
  have H2 := fun W (hU : Up w W) => r_Pressure6 A ts cap cv wd W (frs_up hF hU) hnt
  have H3 := fun W (hU : Up w W) => p_Damage P A ts cap n W (frs_up hF hU) hnt
  have H4 := fun W (hU : Up w W) => r_Damage6 P A ts cap n W (frs_up hF hU) hnt
  have H5 := fun W (hU : Up w W) => p_Left P A ts cap d W (frs_up hF hU) hnt
  have H6 := fun W (hU : Up w W) => r_Left6 P A ts cap d W (frs_up hF hU) hnt
  have H7 := fun W => p_CheckPav P W
  have H8 := fun W => r_CheckPav P W
  rw [hPV] at H3 H4 H5 H6 H7 H8
  obtain ⟨v1, hv1⟩ : ∃ v, prV ((gsI (wtL (2 * (cv + 150)) ts)).getD 0) ts cv wd = v := ⟨_, rfl⟩
  obtain ⟨e1, he1⟩ : ∃ v, prE ts cv wd = v := ⟨_, rfl⟩
  obtain ⟨v2, hv2⟩ : ∃ v, daV P ts n = v := ⟨_, rfl⟩
  obtain ⟨e2, he2⟩ : ∃ v, daE P ts n = v := ⟨_, rfl⟩
  obtain ⟨v3, hv3⟩ : ∃ v, lfV P ts d = v := ⟨_, rfl⟩
  obtain ⟨e3, he3⟩ : ∃ v, lfE P ts d = v := ⟨_, rfl⟩
  obtain ⟨e4, he4⟩ : ∃ v, pvE P = v := ⟨_, rfl⟩
  rw [hv1, he1] at H1 H2
  rw [hv2, he2] at H3 H4
  rw [hv3, he3] at H5 H6
  rw [he4] at H7 H8
  have h1 := hide H1
  have h2 := hide H2
  have h3 := hide H3
  have h4 := hide H4
  have h5 := hide H5
  have h6 := hide H6
  have h7 := hide H7
  have h8 := hide H8
  clear H1 H2 H3 H4 H5 H6 H7 H8 hv1 he1 hv2 he2 hv3 he3 he4 hPV hP hF hnt hcap
  generalize ts.length = m at *
  by_cases hb : 70 < m
  · have g1 : decide ((m : Int) > 70) = true := decide_eq_true (by omega)
    have g2 : decide (70 < (m : Int)) = true := decide_eq_true (by omega)
    go_enter Try.func4, Try.ntmps4
    go_wp2_with (go_at_call 8; refine (l_known _).mono ?_; rintro e w1 ⟨rfl, hu⟩)
    go_ret
    exact ⟨rfl, (by repeat' (first | (with_reducible exact up_refl _) | (with_reducible assumption) | (with_reducible refine up_alloc ?_ _) | (with_reducible refine up_drewN ?_ _) | (with_reducible refine up_drew ?_) | (with_reducible refine up_set ?_ (by first | (simp; done) | (simp; omega) | omega) _) | (refine up_trans ?_ (by with_reducible assumption))))⟩
  · have g1 : decide ((m : Int) > 70) = false := decide_eq_false (by omega)
    have g2 : decide (70 < (m : Int)) = false := decide_eq_false (by omega)
    go_enter Try.func4, Try.ntmps4
    go_upto_region 1 with fail
    refine at_wpB (fun W hW => ?_)
    have hB : Bx W w.heap.size [.int .i64 ld, .int .i64 lf, .int .i64 pw] := by rw [hW]; exact bx_new w _ _
    have U : Up w W := by rw [hW]; exact (by repeat' (first | (with_reducible exact up_refl _) | (with_reducible assumption) | (with_reducible refine up_alloc ?_ _) | (with_reducible refine up_drewN ?_ _) | (with_reducible refine up_drew ?_) | (with_reducible refine up_set ?_ (by first | (simp; done) | (simp; omega) | omega) _) | (refine up_trans ?_ (by with_reducible assumption))))
    obtain ⟨c0, c1, c2⟩ := bx3 hB
    clear hW
    go_upto_region 4 with (go_at_call 12; (with_reducible refine (unhide h1 _ U).mono ?_); rintro e w1 ⟨rfl, hu⟩)
    replace hB := bx_up hB hu
    replace U := up_trans U hu
    clear c0 c1 c2 hu h1
    obtain ⟨c0, c1, c2⟩ := bx3 hB
    go_upto_region 5 with (go_at_call 13; (with_reducible refine (unhide h2 _ U).mono ?_); rintro e w2 ⟨rfl, hu⟩)
    replace hB := bx_up hB hu
    replace U := up_trans U hu
    clear c0 c1 c2 hu h2
    obtain ⟨c0, c1, c2⟩ := bx3 hB
    go_upto_region 6 with (go_at_call 14; (with_reducible refine (unhide h3 _ U).mono ?_); rintro e w3 ⟨rfl, hu⟩)
    replace hB := bx_up hB hu
    replace U := up_trans U hu
    clear c0 c1 c2 hu h3
    obtain ⟨c0, c1, c2⟩ := bx3 hB
    go_upto_region 7 with (go_at_call 15; (with_reducible refine (unhide h4 _ U).mono ?_); rintro e w4 ⟨rfl, hu⟩)
    replace hB := bx_up hB hu
    replace U := up_trans U hu
    clear c0 c1 c2 hu h4
    obtain ⟨c0, c1, c2⟩ := bx3 hB
    go_upto_region 8 with (go_at_call 16; (with_reducible refine (unhide h5 _ U).mono ?_); rintro e w5 ⟨rfl, hu⟩)
    replace hB := bx_up hB hu
    replace U := up_trans U hu
    clear c0 c1 c2 hu h5
    obtain ⟨c0, c1, c2⟩ := bx3 hB
    go_upto_region 9 with (go_at_call 17; (with_reducible refine (unhide h6 _ U).mono ?_); rintro e w6 ⟨rfl, hu⟩)
    replace hB := bx_up hB hu
    replace U := up_trans U hu
    clear c0 c1 c2 hu h6 g1 g2
    have n0q : ∀ q : UpW w6, q.v.cell? ⟨w.heap.size, 0, none⟩ = some (.int .i64 ld) := fun q => (bx_up hB q.up 0 _ rfl).1
    have n1q : ∀ q : UpW w6, q.v.cell? ⟨w.heap.size, 1, none⟩ = some (.int .i64 lf) := fun q => (bx_up hB q.up 1 _ rfl).1
    have n2q : ∀ q : UpW w6, q.v.cell? ⟨w.heap.size, 2, none⟩ = some (.int .i64 pw) := fun q => (bx_up hB q.up 2 _ rfl).1
    have x1 : (v1 == v1) = true := by simp
    have x2 : (v2 == v2) = true := by simp
    have x3 : (v3 == v3) = true := by simp
    have x4 : (e1 == e1) = true := by simp
    have x5 : (e2 == e2) = true := by simp
    have x6 : (e3 == e3) = true := by simp
    have x7 : (e4 == e4) = true := by simp
    have hk := hide (fun W => l_known W)
    refine wp_upq (by kernel_rfl) (by kernel_rfl) ?_; (repeat (go_big_quiet_step (first | (go_at_call 18; exact upq (unhide h7 _)) | (go_at_call 19; exact upq (unhide h8 _)) | (go_at_call 8; exact upq (unhide hk _))))); refine wpQuiet_nil ?_; intro _ hw'; obtain ⟨pq, hw''⟩ := hw'; subst hw''; have hpq := pq.up
    go_wp2_with fail
    go_ret
    exact ⟨rfl, up_trans U hpq⟩
end Go.Proofs.Ytdignnmhiifpgaa
