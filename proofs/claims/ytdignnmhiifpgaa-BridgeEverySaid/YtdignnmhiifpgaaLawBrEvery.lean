/- BridgeEvery: the law's function returns true. -/
import Derived.Test.YtdignnmhiifpgaaBrEv
import Derived.Test.YtdignnmhiifpgaaBrGr
import Derived.Test.YtdignnmhiifpgaaBrZ
import Derived.OwnWalk
import Derived.Deep.Cut
import Derived.Deep.DeepCutAuto
namespace Go.Proofs.Ytdignnmhiifpgaa
open Go.RowKit Go.Proofs.Gn
attribute [local go_sem] Oper.semAt_some
set_option linter.unusedVariables false
/-- What a worst effect tells: a value, and where it is; or nothing. -/
structure EvF (V : Value) (E s x : Int) (hasPoint : Bool) (v bb1 bb2 a : Int) (eff err : Int → Int) : Prop where
  va : V = .agg #[.int .i64 v, .int .i64 bb1, .int .i64 bb2, .int .i64 a]
  ok : E = 0 → err a = 0 ∧ eff a = v ∧ (∀ p, err p = 0 → eff p ≤ v) ∧ (hasPoint = true → bb1 = s ∧ bb2 = x)
theorem evF_mom (b : Brg) (ts : List (Int × Int)) (s x : Int) : ∃ v bb1 bb2 a, EvF (wmV b ts s x) (wmE b ts s x) s x true v bb1 bb2 a (moV b ts s x) (moE b ts s x) := by
  by_cases hE : wmE b ts s x = 0
  · obtain ⟨v, a, q1, q2, q3, q4⟩ := ev_mom hE
    exact ⟨v, s, x, a, q1, fun _ => ⟨q2, q3, q4, fun _ => ⟨rfl, rfl⟩⟩⟩
  · exact ⟨0, 0, 0, 0, wmV_no hE, fun h => absurd h hE⟩
theorem evF_end (right : Bool) (b : Brg) (ts : List (Int × Int)) (s : Int) : ∃ v bb1 bb2 a, EvF (weV right b ts s) (weE b ts s) 0 0 false v bb1 bb2 a (eeV right b ts s) (eeE b ts s) := by
  by_cases hE : weE b ts s = 0
  · obtain ⟨v, bb1, bb2, a, q1, q2, q3, q4⟩ := ev_end right hE
    exact ⟨v, bb1, bb2, a, q1, fun _ => ⟨q2, q3, q4, fun h => by cases h⟩⟩
  · exact ⟨0, 0, 0, 0, weV_no hE, fun h => absurd h hE⟩
theorem evF_pier (b : Brg) (ts : List (Int × Int)) (s : Int) : ∃ v bb1 bb2 a, EvF (wpV b ts s) (wpE b ts s) 0 0 false v bb1 bb2 a (ppV b ts s) (ppE b ts s) := by
  by_cases hE : wpE b ts s = 0
  · obtain ⟨v, bb1, bb2, a, q1, q2, q3, q4⟩ := ev_pier hE
    exact ⟨v, bb1, bb2, a, q1, fun _ => ⟨q2, q3, q4, fun h => by cases h⟩⟩
  · exact ⟨0, 0, 0, 0, wpV_no hE, fun h => absurd h hE⟩
set_option maxRecDepth 100000 in
set_option maxHeartbeats 40000000 in
theorem l_Every (b : Brg) (A : Option Addr) (ts : List (Int × Int)) (cap : Nat) (s x p : Int) (right : Bool) (w : World) (h : BgAt w b) (hn : b.sp.length ≤ 9223372036854775807 ∧ b.mo.length ≤ 9223372036854775807 ∧ b.sh.length ≤ 9223372036854775807) (hcap : b.sp.length ≤ b.k0) (hF : Frs w A ts) (hnt : ts.length ≤ 9223372036854775807) :
    Calls Try.prog 5 #[bgV b, .slice A ts.length cap, .int .i64 s, .int .i64 x, .int .i64 p, .bool right] w fun e w' => e = .returned (.bool true) ∧ Below w.heap.size w w' := by
  have HG := hide (fun W => l_great6 b A ts.length cap W)
  cases hgr : grB b.sp.length b.mo.length b.sh.length ts.length with
  | true =>
    rw [hgr] at HG
    unfold bgV at HG ⊢
    obtain ⟨sp, mo, sh, A0, A1, A2, k0, k1, k2, dy, la, tr⟩ := b
    dsimp only at *
    generalize sp.length = n0 at *
    generalize mo.length = n1 at *
    generalize sh.length = n2 at *
    generalize ts.length = m at *
    clear h hn hcap hF hnt hgr
    go_enter Try.func5, Try.ntmps5
    go_wp2_with (first | (go_at_call 20; (with_reducible refine (unhide HG _).mono ?_); rintro e w1 ⟨rfl, hu1⟩) | (go_at_call 8; refine (l_known _).mono ?_; rintro e w2 ⟨rfl, hu2⟩))
    go_ret
    exact ⟨rfl, (by repeat' (first | (with_reducible exact up_refl _) | (with_reducible assumption) | (with_reducible refine up_alloc ?_ _) | (with_reducible refine up_drewN ?_ _) | (with_reducible refine up_drew ?_) | (with_reducible refine up_set ?_ (by first | (simp; done) | (simp; omega) | omega) _) | (refine up_trans ?_ (by with_reducible assumption))))⟩
  | false =>
  rw [hgr] at HG
  have HM := fun q W (hU : Up w W) => p_Moment b A ts cap s x q W (bgAt_up h hU) hn hcap (frs_up hF hU) hnt
  have HN := fun q W (hU : Up w W) => p_End b A ts cap right s q W (bgAt_up h hU) hn hcap (frs_up hF hU) hnt
  have HP := fun q W (hU : Up w W) => p_Pier b A ts cap s q W (bgAt_up h hU) hn hcap (frs_up hF hU) hnt
  have HWm := fun W (hU : Up w W) => p_WorstMoment b A ts cap s x W (bgAt_up h hU) hn hcap (frs_up hF hU) hnt
  have HWe := fun W (hU : Up w W) => p_WorstEnd b A ts cap right s W (bgAt_up h hU) hn hcap (frs_up hF hU) hnt
  have HWp := fun W (hU : Up w W) => p_WorstPier b A ts cap s W (bgAt_up h hU) hn hcap (frs_up hF hU) hnt
  obtain ⟨v, bb1, bb2, a, f1, f2⟩ := evF_mom b ts s x
  obtain ⟨v', bb1', bb2', a', f1', f2'⟩ := evF_end right b ts s
  obtain ⟨v2, pp1, pp2, a2, f12, f22⟩ := evF_pier b ts s
  rw [f1] at HWm
  rw [f1'] at HWe
  rw [f12] at HWp
  obtain ⟨mV, hmV⟩ : ∃ V, moV b ts s x = V := ⟨_, rfl⟩
  obtain ⟨mE, hmE⟩ : ∃ V, moE b ts s x = V := ⟨_, rfl⟩
  obtain ⟨eV, heV⟩ : ∃ V, eeV right b ts s = V := ⟨_, rfl⟩
  obtain ⟨eE, heE⟩ : ∃ V, eeE b ts s = V := ⟨_, rfl⟩
  obtain ⟨pV, hpV⟩ : ∃ V, ppV b ts s = V := ⟨_, rfl⟩
  obtain ⟨pE, hpE⟩ : ∃ V, ppE b ts s = V := ⟨_, rfl⟩
  obtain ⟨E, hE⟩ : ∃ V, wmE b ts s x = V := ⟨_, rfl⟩
  obtain ⟨E', hE'⟩ : ∃ V, weE b ts s = V := ⟨_, rfl⟩
  obtain ⟨E2, hE2⟩ : ∃ V, wpE b ts s = V := ⟨_, rfl⟩
  simp only [hmV, hmE] at HM
  simp only [heV, heE] at HN
  simp only [hpV, hpE] at HP
  rw [hmV, hmE, hE] at f2
  rw [heV, heE, hE'] at f2'
  rw [hpV, hpE, hE2] at f22
  rw [hE] at HWm
  rw [hE'] at HWe
  rw [hE2] at HWp
  have HM1 := hide (fun W hU => HM a W hU)
  have HM2 := hide (fun W hU => HM p W hU)
  have HN1 := hide (fun W hU => HN a' W hU)
  have HN2 := hide (fun W hU => HN p W hU)
  have HP1 := hide (fun W hU => HP a2 W hU)
  have HP2 := hide (fun W hU => HP p W hU)
  have HWM := hide HWm
  have HWE := hide HWe
  have HWP := hide HWp
  have HF1 := hide f2
  have HF2 := hide f2'
  have HF3 := hide f22
  unfold bgV at HG HM1 HM2 HN1 HN2 HP1 HP2 HWM HWE HWP ⊢
  clear h hn hcap hF hnt hgr HM HN HP HWm HWe HWp f1 f1' f12 f2 f2' f22 hmV hmE heV heE hpV hpE hE hE' hE2
  obtain ⟨sp, mo, sh, A0, A1, A2, k0, k1, k2, dy, la, tr⟩ := b
  dsimp only at *
  generalize sp.length = n0 at *
  generalize mo.length = n1 at *
  generalize sh.length = n2 at *
  generalize ts.length = m at *
  go_enter Try.func5, Try.ntmps5
  go_upto_region 1 with fail
  refine at_wpB (fun W hW => ?_)
  have hB : Bx W w.heap.size [.slice A0 n0 k0, .slice A1 n1 k1, .slice A2 n2 k2, .int .i64 dy, .int .i64 la, .int .i64 tr] := by rw [hW]; exact bx_new w _ _
  have U : Up w W := by rw [hW]; exact (by repeat' (first | (with_reducible exact up_refl _) | (with_reducible assumption) | (with_reducible refine up_alloc ?_ _) | (with_reducible refine up_drewN ?_ _) | (with_reducible refine up_drew ?_) | (with_reducible refine up_set ?_ (by first | (simp; done) | (simp; omega) | omega) _) | (refine up_trans ?_ (by with_reducible assumption))))
  obtain ⟨d0, d1, d2, d3, d4, d5⟩ := bgc hB
  clear hW
  go_upto_region 3 with (go_at_call 20; (with_reducible refine (unhide HG _).mono ?_); rintro e w1 ⟨rfl, hu1⟩)
  replace hB := bx_up hB hu1
  replace U := up_trans U hu1
  clear d0 d1 d2 d3 d4 d5 hu1 HG
  obtain ⟨d0, d1, d2, d3, d4, d5⟩ := bgc hB
  go_upto_region 4 with (go_at_call 21; (with_reducible refine (unhide HWM _ U).mono ?_); rintro e w2 ⟨rfl, hu2⟩)
  refine at_wpB (fun W3 hW3 => ?_)
  have hC : Bx W3 w2.heap.size [.int .i64 v, .int .i64 bb1, .int .i64 bb2, .int .i64 a] := by rw [hW3]; exact bx_new w2 _ _
  replace hB : Bx W3 w.heap.size [.slice A0 n0 k0, .slice A1 n1 k1, .slice A2 n2 k2, .int .i64 dy, .int .i64 la, .int .i64 tr] := by rw [hW3]; exact bx_alloc (bx_up hB hu2) _
  have hz : w.heap.size < w2.heap.size := by have := hu2.size; have := U.size; have := bx_lt hB (by simp); have h0 := World.block_lt_of_cell? _ _ d0; simp only at h0; omega
  have hz2 : w.heap.size ≤ w2.heap.size := by omega
  replace U : Up w W3 := by rw [hW3]; exact up_alloc (up_trans U hu2) _
  clear hW3 d0 d1 d2 d3 d4 d5 hu2 HWM
  obtain ⟨d0, d1, d2, d3, d4, d5⟩ := bgc hB
  obtain ⟨⟨c0, g0⟩, ⟨c1, g1⟩, ⟨c2, g2⟩, ⟨c3, g3⟩⟩ := bx4 hC
  go_upto_if 40 with fail
  go_cut [12] (fun s wx => s = .bool false ∧ Up W3 wx)
  case first => as_aux_lemma =>
    have f := unhide HF1
    by_cases hE : E = 0
    · obtain ⟨q1, q2, q3, q4⟩ := f hE
      have q3 := q3 p
      rw [q1, q2] at HM1
      obtain ⟨y, hy⟩ : ∃ y, mV p = y := ⟨_, rfl⟩
      obtain ⟨z, hz⟩ : ∃ y, mE p = y := ⟨_, rfl⟩
      rw [hy, hz] at HM2 q3
      have q4 := q4 (by first | rfl | trivial)
      rw [q4.1, q4.2] at hC
      rw [q4.1] at c1
      rw [q4.2] at c2
      subst hE
      have x1 : (v != v) = false := by simp
      have x2 : (s != s) = false := by simp
      have x3 : (x != x) = false := by simp
      clear f hy hz
      go_upto_region 6 with (go_at_call 22; (with_reducible refine (unhide HM1 _ U).mono ?_); rintro e w5 ⟨rfl, hu5⟩)
      replace hB := bx_up hB hu5
      replace U := up_trans U hu5
      replace hC := bx_up hC hu5
      clear d0 d1 d2 d3 d4 d5 c0 g0 c1 g1 c2 g2 c3 g3
      obtain ⟨d0, d1, d2, d3, d4, d5⟩ := bgc hB
      obtain ⟨⟨c0, g0⟩, ⟨c1, g1⟩, ⟨c2, g2⟩, ⟨c3, g3⟩⟩ := bx4 hC
      go_upto_region 7 with (go_at_call 22; (with_reducible refine (unhide HM2 _ U).mono ?_); rintro e w6 ⟨rfl, hu6⟩)
      replace hC := bx_up hC hu6
      clear d0 d1 d2 d3 d4 d5 c0 g0 c1 g1 c2 g2 c3 g3
      obtain ⟨⟨c0, g0⟩, ⟨c1, g1⟩, ⟨c2, g2⟩, ⟨c3, g3⟩⟩ := bx4 hC
      have U6 := up_trans hu5 hu6
      by_cases hz0 : z = 0
      · have q5 := q3 hz0
        subst hz0
        have x4 : decide (y > v) = false := decide_eq_false (by omega)
        have x5 : decide (v < y) = false := decide_eq_false (by omega)
        go_wp2_with fail
        go_meet
        exact ⟨rfl, U6⟩
      · have x4 : (z == 0) = false := by simp; exact hz0
        go_wp2_with fail
        go_meet
        exact ⟨rfl, U6⟩
    · have e0 : (E == 0) = false := by simp; exact hE
      clear f
      go_wp2_with fail
      go_meet
      exact ⟨rfl, up_refl _⟩
  case rest =>
  obtain ⟨rfl, hu4⟩ := hcut
  replace hB := bx_up hB hu4
  replace U := up_trans U hu4
  replace hC := bx_up hC hu4
  clear d0 d1 d2 d3 d4 d5 c0 g0 c1 g1 c2 g2 c3 g3 hu4 HF1 HM1 HM2
  obtain ⟨d0, d1, d2, d3, d4, d5⟩ := bgc hB
  obtain ⟨⟨c0, g0⟩, ⟨c1, g1⟩, ⟨c2, g2⟩, ⟨c3, g3⟩⟩ := bx4 hC
  go_upto_region 10 with (go_at_call 23; (with_reducible refine (unhide HWE _ U).mono ?_); rintro e w7 ⟨rfl, huw7⟩; obtain ⟨⟨r0, y0⟩, ⟨r1, y1⟩, ⟨r2, y2⟩, ⟨r3, y3⟩⟩ := bx4 (bx_up hC huw7))
  refine at_wpB (fun W8 hW8 => ?_)
  replace hC : Bx W8 w2.heap.size [.int .i64 v', .int .i64 bb1', .int .i64 bb2', .int .i64 a'] := by rw [hW8]; exact bx_set4 (bx_up hC huw7)
  replace hB : Bx W8 w.heap.size [.slice A0 n0 k0, .slice A1 n1 k1, .slice A2 n2 k2, .int .i64 dy, .int .i64 la, .int .i64 tr] := by rw [hW8]; exact bx_far (bx_far (bx_far (bx_far (bx_up hB huw7) (p := ⟨w2.heap.size, 0, none⟩) (by simp only; omega) _) (p := ⟨w2.heap.size, 1, none⟩) (by simp only; omega) _) (p := ⟨w2.heap.size, 2, none⟩) (by simp only; omega) _) (p := ⟨w2.heap.size, 3, none⟩) (by simp only; omega) _
  replace U : Up w W8 := by rw [hW8]; exact up_set (up_set (up_set (up_set (up_trans U huw7) (by simp only; omega) _) (by simp only; omega) _) (by simp only; omega) _) (by simp only; omega) _
  clear hW8 d0 d1 d2 d3 d4 d5 c0 g0 c1 g1 c2 g2 c3 g3 huw7 HWE r0 y0 r1 y1 r2 y2 r3 y3
  obtain ⟨d0, d1, d2, d3, d4, d5⟩ := bgc hB
  obtain ⟨⟨c0, g0⟩, ⟨c1, g1⟩, ⟨c2, g2⟩, ⟨c3, g3⟩⟩ := bx4 hC
  go_upto_if 99 with fail
  go_cut [12] (fun s wx => s = .bool false ∧ Up W8 wx)
  case first => as_aux_lemma =>
    have f := unhide HF2
    by_cases hE : E' = 0
    · obtain ⟨q1, q2, q3, q4⟩ := f hE
      have q3 := q3 p
      rw [q1, q2] at HN1
      obtain ⟨y, hy⟩ : ∃ y, eV p = y := ⟨_, rfl⟩
      obtain ⟨z, hz⟩ : ∃ y, eE p = y := ⟨_, rfl⟩
      rw [hy, hz] at HN2 q3
      subst hE
      have x1 : (v' != v') = false := by simp
      have x2 : (s != s) = false := by simp
      have x3 : (x != x) = false := by simp
      clear f hy hz
      go_upto_region 12 with (go_at_call 24; (with_reducible refine (unhide HN1 _ U).mono ?_); rintro e w5 ⟨rfl, hu5⟩)
      replace hB := bx_up hB hu5
      replace U := up_trans U hu5
      replace hC := bx_up hC hu5
      clear d0 d1 d2 d3 d4 d5 c0 g0 c1 g1 c2 g2 c3 g3
      obtain ⟨d0, d1, d2, d3, d4, d5⟩ := bgc hB
      obtain ⟨⟨c0, g0⟩, ⟨c1, g1⟩, ⟨c2, g2⟩, ⟨c3, g3⟩⟩ := bx4 hC
      go_upto_region 13 with (go_at_call 24; (with_reducible refine (unhide HN2 _ U).mono ?_); rintro e w6 ⟨rfl, hu6⟩)
      replace hC := bx_up hC hu6
      clear d0 d1 d2 d3 d4 d5 c0 g0 c1 g1 c2 g2 c3 g3
      obtain ⟨⟨c0, g0⟩, ⟨c1, g1⟩, ⟨c2, g2⟩, ⟨c3, g3⟩⟩ := bx4 hC
      have U6 := up_trans hu5 hu6
      by_cases hz0 : z = 0
      · have q5 := q3 hz0
        subst hz0
        have x4 : decide (y > v') = false := decide_eq_false (by omega)
        have x5 : decide (v' < y) = false := decide_eq_false (by omega)
        go_wp2_with fail
        go_meet
        exact ⟨rfl, U6⟩
      · have x4 : (z == 0) = false := by simp; exact hz0
        go_wp2_with fail
        go_meet
        exact ⟨rfl, U6⟩
    · have e0 : (E' == 0) = false := by simp; exact hE
      clear f
      go_wp2_with fail
      go_meet
      exact ⟨rfl, up_refl _⟩
  case rest =>
  obtain ⟨rfl, hu9⟩ := hcut
  replace hB := bx_up hB hu9
  replace U := up_trans U hu9
  replace hC := bx_up hC hu9
  clear d0 d1 d2 d3 d4 d5 c0 g0 c1 g1 c2 g2 c3 g3 hu9 HF2 HN1 HN2
  obtain ⟨d0, d1, d2, d3, d4, d5⟩ := bgc hB
  obtain ⟨⟨c0, g0⟩, ⟨c1, g1⟩, ⟨c2, g2⟩, ⟨c3, g3⟩⟩ := bx4 hC
  go_upto_region 16 with (go_at_call 25; (with_reducible refine (unhide HWP _ U).mono ?_); rintro e w10 ⟨rfl, huw10⟩; obtain ⟨⟨r0, y0⟩, ⟨r1, y1⟩, ⟨r2, y2⟩, ⟨r3, y3⟩⟩ := bx4 (bx_up hC huw10))
  refine at_wpB (fun W11 hW11 => ?_)
  replace hC : Bx W11 w2.heap.size [.int .i64 v2, .int .i64 pp1, .int .i64 pp2, .int .i64 a2] := by rw [hW11]; exact bx_set4 (bx_up hC huw10)
  replace hB : Bx W11 w.heap.size [.slice A0 n0 k0, .slice A1 n1 k1, .slice A2 n2 k2, .int .i64 dy, .int .i64 la, .int .i64 tr] := by rw [hW11]; exact bx_far (bx_far (bx_far (bx_far (bx_up hB huw10) (p := ⟨w2.heap.size, 0, none⟩) (by simp only; omega) _) (p := ⟨w2.heap.size, 1, none⟩) (by simp only; omega) _) (p := ⟨w2.heap.size, 2, none⟩) (by simp only; omega) _) (p := ⟨w2.heap.size, 3, none⟩) (by simp only; omega) _
  replace U : Up w W11 := by rw [hW11]; exact up_set (up_set (up_set (up_set (up_trans U huw10) (by simp only; omega) _) (by simp only; omega) _) (by simp only; omega) _) (by simp only; omega) _
  clear hW11 d0 d1 d2 d3 d4 d5 c0 g0 c1 g1 c2 g2 c3 g3 huw10 HWP r0 y0 r1 y1 r2 y2 r3 y3
  obtain ⟨d0, d1, d2, d3, d4, d5⟩ := bgc hB
  obtain ⟨⟨c0, g0⟩, ⟨c1, g1⟩, ⟨c2, g2⟩, ⟨c3, g3⟩⟩ := bx4 hC
  go_upto_if 145 with fail
  go_cut [12] (fun s wx => s = .bool false ∧ Up W11 wx)
  case first => as_aux_lemma =>
    have f := unhide HF3
    by_cases hE : E2 = 0
    · obtain ⟨q1, q2, q3, q4⟩ := f hE
      have q3 := q3 p
      rw [q1, q2] at HP1
      obtain ⟨y, hy⟩ : ∃ y, pV p = y := ⟨_, rfl⟩
      obtain ⟨z, hz⟩ : ∃ y, pE p = y := ⟨_, rfl⟩
      rw [hy, hz] at HP2 q3
      subst hE
      have x1 : (v2 != v2) = false := by simp
      have x2 : (s != s) = false := by simp
      have x3 : (x != x) = false := by simp
      clear f hy hz
      go_upto_region 18 with (go_at_call 26; (with_reducible refine (unhide HP1 _ U).mono ?_); rintro e w5 ⟨rfl, hu5⟩)
      replace hB := bx_up hB hu5
      replace U := up_trans U hu5
      replace hC := bx_up hC hu5
      clear d0 d1 d2 d3 d4 d5 c0 g0 c1 g1 c2 g2 c3 g3
      obtain ⟨d0, d1, d2, d3, d4, d5⟩ := bgc hB
      obtain ⟨⟨c0, g0⟩, ⟨c1, g1⟩, ⟨c2, g2⟩, ⟨c3, g3⟩⟩ := bx4 hC
      go_upto_region 19 with (go_at_call 26; (with_reducible refine (unhide HP2 _ U).mono ?_); rintro e w6 ⟨rfl, hu6⟩)
      replace hC := bx_up hC hu6
      clear d0 d1 d2 d3 d4 d5 c0 g0 c1 g1 c2 g2 c3 g3
      obtain ⟨⟨c0, g0⟩, ⟨c1, g1⟩, ⟨c2, g2⟩, ⟨c3, g3⟩⟩ := bx4 hC
      have U6 := up_trans hu5 hu6
      by_cases hz0 : z = 0
      · have q5 := q3 hz0
        subst hz0
        have x4 : decide (y > v2) = false := decide_eq_false (by omega)
        have x5 : decide (v2 < y) = false := decide_eq_false (by omega)
        go_wp2_with fail
        go_meet
        exact ⟨rfl, U6⟩
      · have x4 : (z == 0) = false := by simp; exact hz0
        go_wp2_with fail
        go_meet
        exact ⟨rfl, U6⟩
    · have e0 : (E2 == 0) = false := by simp; exact hE
      clear f
      go_wp2_with fail
      go_meet
      exact ⟨rfl, up_refl _⟩
  case rest =>
  obtain ⟨rfl, hu12⟩ := hcut
  replace hB := bx_up hB hu12
  replace U := up_trans U hu12
  replace hC := bx_up hC hu12
  clear d0 d1 d2 d3 d4 d5 c0 g0 c1 g1 c2 g2 c3 g3 hu12 HF3 HP1 HP2
  obtain ⟨d0, d1, d2, d3, d4, d5⟩ := bgc hB
  obtain ⟨⟨c0, g0⟩, ⟨c1, g1⟩, ⟨c2, g2⟩, ⟨c3, g3⟩⟩ := bx4 hC
  go_wp2_with (go_at_call 8; refine (l_known _).mono ?_; rintro e w13 ⟨rfl, hu13⟩)
  go_ret
  exact ⟨rfl, up_trans U hu13⟩
end Go.Proofs.Ytdignnmhiifpgaa
