/- TopWeighed: the law's function returns true. -/
import Derived.Test.YtooochbfnmmnkaaTopM
import Derived.Test.YtooochbfnmmnkaaWk5
import Derived.Test.YtooochbfnmmnkaaPkHulls
import Derived.Test.YtooochbfnmmnkaaUpQ
namespace Go.Proofs.Ytooochbfnmmnkaa
open Go.RowKit Go.Proofs.Gn
attribute [local go_sem] Oper.semAt_some
set_option linter.unusedVariables false
/-- What the loop over the units has added up. -/
def Wgh (a0 a1 : Int) (s15 s16 s17 : Value) : Prop := (s17 = .int .i64 0 ∧ s15 = .int .i64 0 ∧ s16 = .int .i64 0) ∨ (s17 = .int .i64 1 ∧ s15 = .int .i64 (a0 * 2) ∧ s16 = .int .i64 2) ∨ (s17 = .int .i64 2 ∧ s15 = .int .i64 (a0 * 2 + a1 * 3) ∧ s16 = .int .i64 5)
set_option maxRecDepth 100000 in
set_option maxHeartbeats 32000000 in
theorem l_Weighed (A : Option Addr) (bs : List Bxe) (cap : Nat) (u : Int) (both : Bool) (w : World) (h : BxsOk w A bs) (hn : bs.length ≤ 9223372036854775807) (hu : 0 ≤ u ∧ u ≤ 65535) :
    Calls Try.prog 4 #[.slice A bs.length cap, .int .u16 u, .bool both] w fun e w' => e = .returned (.bool true) ∧ Up w w' := by
  have HCg := hide (fun W (hW : Up w W) => p_cargo A bs cap W (bxes_up h.1 hW) h.2 hn)
  have HW := hide (fun W => p_works05 W)
  have HM1 := hide (fun (x : bs ≠ []) P cp W (hP : Pcs W P (cgL bs)) => p_massC bs h.2 x P cp W hP)
  have HM0 := hide (fun P cp W => p_massC0 P cp W)
  have HL := hide (cgL_mas h.2)
  have HLn := hide (cgL_len bs)
  have hmod : u % 6001 = u.tmod 6001 := (Int.tmod_eq_emod_of_nonneg hu.1).symm
  have hwu : IntKind.i64.wrap u = u := IntWalk.i64_in _ ⟨by omega, by omega⟩
  have hum : 0 ≤ u % 6001 ∧ u % 6001 ≤ 6000 := by omega
  have hwm : IntKind.i64.wrap (u % 6001) = u % 6001 := IntWalk.i64_in _ ⟨by omega, by omega⟩
  obtain ⟨v, hv⟩ : ∃ v, u % 6001 = v := ⟨_, rfl⟩
  rw [hv] at hum hwm
  have HV := hide hv
  obtain ⟨N, hN⟩ : ∃ N, bs.length = N := ⟨_, rfl⟩
  rw [hN] at HCg hn ⊢
  obtain ⟨n, hnn⟩ : ∃ n, (cgL bs).length = n := ⟨_, rfl⟩
  rw [hnn] at HCg HM1 HL HLn
  have hn4 := (unhide HLn).1
  by_cases h0 : bs = []
  · have hn0 : n = 0 := by rw [← hnn, h0]; rfl
    subst hn0
    clear h hn hN hnn HM1 HL HLn h0 hmod hv
    cases both
    all_goals
      go_enter Try.func4, Try.ntmps4
      go_upto_region 4 with (go_at_call 6; (with_reducible refine (p_carrier _).mono ?_); rintro e w1 ⟨⟨C, A1, B1, rfl, hU⟩, u1⟩)
      refine at_wpC (fun W1 hW1 => ?_)
      have U1 : Up w W1 := by rw [hW1]; exact (by repeat' (first | (with_reducible exact up_refl _) | (with_reducible assumption) | (with_reducible refine up_alloc ?_ _) | (with_reducible refine up_drewN ?_ _) | (with_reducible refine up_drew ?_) | (with_reducible refine up_set ?_ (by first | (simp; done) | (simp; omega) | omega) _) | (refine up_trans ?_ (by with_reducible assumption))))
      obtain ⟨f, hf, bV⟩ : ∃ f, (f = 0 ∨ f = 1) ∧ Bx W1 w1.heap.size [.string crN, .slice C 2 2, .int .i64 f, .int .i64 1] := by
        rw [hW1]
        first
          | exact ⟨1, .inr rfl, bx_new w1 _ _⟩
          | exact ⟨0, .inl rfl, bx_new w1 _ _⟩
          | exact ⟨0, .inl rfl, bx_set (bx_new w1 _ _) 2 (.int .i64 0)⟩
      have hU1 := unts_up hU (show Up w1 W1 by rw [hW1]; exact (by repeat' (first | (with_reducible exact up_refl _) | (with_reducible assumption) | (with_reducible refine up_alloc ?_ _) | (with_reducible refine up_drewN ?_ _) | (with_reducible refine up_drew ?_) | (with_reducible refine up_set ?_ (by first | (simp; done) | (simp; omega) | omega) _) | (refine up_trans ?_ (by with_reducible assumption)))))
      obtain ⟨g, hg⟩ : ∃ g, w1.heap.size = g := ⟨_, rfl⟩
      rw [hg] at bV ⊢
      clear hW1 hU u1 hg
      go_upto_region 5 with (go_at_call 8; (with_reducible refine (unhide HCg _ U1).mono ?_); rintro e w2 ⟨⟨P, cp, rfl, hP⟩, u2⟩)
      refine at_wpC (fun W2 hW2 => ?_)
      have U2 : Up W1 W2 := by rw [hW2]; exact (by repeat' (first | (with_reducible exact up_refl _) | (with_reducible assumption) | (with_reducible refine up_alloc ?_ _) | (with_reducible refine up_drewN ?_ _) | (with_reducible refine up_drew ?_) | (with_reducible refine up_set ?_ (by first | (simp; done) | (simp; omega) | omega) _) | (refine up_trans ?_ (by with_reducible assumption))))
      have bX : Bx W2 w2.heap.size [.string cgN, .slice P 0 cp, .slice none 0 0, .int .i64 300] := by rw [hW2]; exact bx_new w2 _ _
      obtain ⟨gx, hgx⟩ : ∃ gx, w2.heap.size = gx := ⟨_, rfl⟩
      rw [hgx] at bX ⊢
      clear hW2 u2 hgx hP
      have x0 := (bX 0 _ rfl).1
      have x1 := (bX 1 _ rfl).1
      have x2 := (bX 2 _ rfl).1
      have x3 := (bX 3 _ rfl).1
      go_upto_region 6 with (go_at_call 7; (with_reducible refine (unhide HM0 _ _ _).mono ?_); rintro e w3 ⟨rfl, u3⟩)
      have U3 := up_trans U2 u3
      have bV3 := bx_up bV U3
      have hU3 := unts_up hU1 U3
      have U3' := up_trans U1 U3
      clear bV hU1 U1 U2 u3 U3 bX x0 x1 x2 x3
      have c0 := (bV3 0 _ rfl).1
      have c1 := (bV3 1 _ rfl).1
      have c2 := (bV3 2 _ rfl).1
      have c3 := (bV3 3 _ rfl).1
      have HM := hide (p_crMass C A1 B1 f hf w3 hU3)
      clear hU3 hf
      go_wp2_with (first
        | (go_at_call 9; (with_reducible refine (unhide HM).mono ?_); rintro e w4 ⟨rfl, u4⟩; have U4 := up_trans U3' u4)
        | (go_at_call 10; (with_reducible refine (unhide HW _).mono ?_); rintro e w5 ⟨rfl, u5⟩))
      go_ret
      exact ⟨rfl, up_trans U4 u5⟩
  · have HM := hide (unhide HM1 h0)
    have hm : 1 ≤ mas (cgL bs) ∧ mas (cgL bs) ≤ 32000 := by
      have a := (unhide HLn).2 h0
      have b := unhide HL
      omega
    obtain ⟨m, hmm⟩ : ∃ m, mas (cgL bs) = m := ⟨_, rfl⟩
    rw [hmm] at HM hm
    clear h hn hN hnn HM1 HM0 HL HLn h0 hmod hv hmm hn4
    have hw1 : IntKind.i64.wrap (16000 + m) = 16000 + m := IntWalk.i64_in _ ⟨by omega, by omega⟩
    have hw2 : IntKind.i64.wrap (16000 + m + 5) = 16000 + m + 5 := IntWalk.i64_in _ ⟨by omega, by omega⟩
    have hw3 : IntKind.i64.wrap (16000 + m + 5 + 1) = 16000 + m + 5 + 1 := IntWalk.i64_in _ ⟨by omega, by omega⟩
    have hw4 : IntKind.i64.wrap (m + 1) = m + 1 := IntWalk.i64_in _ ⟨by omega, by omega⟩
    have hq : (m + 1).tdiv 2 = (m + 1) / 2 := Int.tdiv_eq_ediv_of_nonneg (by omega)
    have hm2 : 1 ≤ (m + 1) / 2 ∧ (m + 1) / 2 ≤ m := by omega
    obtain ⟨m2, hmm2⟩ : ∃ m2, (m + 1) / 2 = m2 := ⟨_, rfl⟩
    rw [hmm2] at hm2 hq
    have hw5 : IntKind.i64.wrap m2 = m2 := IntWalk.i64_in _ ⟨by omega, by omega⟩
    have HQ2 := hide hmm2
    have HQ := hide hq
    clear hmm2 hq
    cases both
    all_goals
      go_enter Try.func4, Try.ntmps4
      go_upto_region 4 with (go_at_call 6; (with_reducible refine (p_carrier _).mono ?_); rintro e w1 ⟨⟨C, A1, B1, rfl, hU⟩, u1⟩)
      refine at_wpC (fun W1 hW1 => ?_)
      have U1 : Up w W1 := by rw [hW1]; exact (by repeat' (first | (with_reducible exact up_refl _) | (with_reducible assumption) | (with_reducible refine up_alloc ?_ _) | (with_reducible refine up_drewN ?_ _) | (with_reducible refine up_drew ?_) | (with_reducible refine up_set ?_ (by first | (simp; done) | (simp; omega) | omega) _) | (refine up_trans ?_ (by with_reducible assumption))))
      obtain ⟨f, hf, bV⟩ : ∃ f, (f = 0 ∨ f = 1) ∧ Bx W1 w1.heap.size [.string crN, .slice C 2 2, .int .i64 f, .int .i64 1] := by
        rw [hW1]
        first
          | exact ⟨1, .inr rfl, bx_new w1 _ _⟩
          | exact ⟨0, .inl rfl, bx_new w1 _ _⟩
          | exact ⟨0, .inl rfl, bx_set (bx_new w1 _ _) 2 (.int .i64 0)⟩
      have hU1 := unts_up hU (show Up w1 W1 by rw [hW1]; exact (by repeat' (first | (with_reducible exact up_refl _) | (with_reducible assumption) | (with_reducible refine up_alloc ?_ _) | (with_reducible refine up_drewN ?_ _) | (with_reducible refine up_drew ?_) | (with_reducible refine up_set ?_ (by first | (simp; done) | (simp; omega) | omega) _) | (refine up_trans ?_ (by with_reducible assumption)))))
      obtain ⟨g, hg⟩ : ∃ g, w1.heap.size = g := ⟨_, rfl⟩
      rw [hg] at bV ⊢
      clear hW1 hU u1 hg
      go_upto_region 5 with (go_at_call 8; (with_reducible refine (unhide HCg _ U1).mono ?_); rintro e w2 ⟨⟨P, cp, rfl, hP⟩, u2⟩)
      refine at_wpC (fun W2 hW2 => ?_)
      have U2 : Up W1 W2 := by rw [hW2]; exact (by repeat' (first | (with_reducible exact up_refl _) | (with_reducible assumption) | (with_reducible refine up_alloc ?_ _) | (with_reducible refine up_drewN ?_ _) | (with_reducible refine up_drew ?_) | (with_reducible refine up_set ?_ (by first | (simp; done) | (simp; omega) | omega) _) | (refine up_trans ?_ (by with_reducible assumption))))
      have bX : Bx W2 w2.heap.size [.string cgN, .slice P n cp, .slice none 0 0, .int .i64 300] := by rw [hW2]; exact bx_new w2 _ _
      have hP2 := pcs_up hP (show Up w2 W2 by rw [hW2]; exact (by repeat' (first | (with_reducible exact up_refl _) | (with_reducible assumption) | (with_reducible refine up_alloc ?_ _) | (with_reducible refine up_drewN ?_ _) | (with_reducible refine up_drew ?_) | (with_reducible refine up_set ?_ (by first | (simp; done) | (simp; omega) | omega) _) | (refine up_trans ?_ (by with_reducible assumption)))))
      obtain ⟨gx, hgx⟩ : ∃ gx, w2.heap.size = gx := ⟨_, rfl⟩
      rw [hgx] at bX ⊢
      clear hW2 u2 hgx hP
      have x0 := (bX 0 _ rfl).1
      have x1 := (bX 1 _ rfl).1
      have x2 := (bX 2 _ rfl).1
      have x3 := (bX 3 _ rfl).1
      go_upto_region 6 with (go_at_call 7; (with_reducible refine (unhide HM _ _ _ hP2).mono ?_); rintro e w3 ⟨rfl, u3⟩)
      have U3 := up_trans U2 u3
      have bV3 := bx_up bV U3
      have hU3 := unts_up hU1 U3
      have U3' := up_trans U1 U3
      clear bV hU1 U1 U2 u3 U3 bX x0 x1 x2 x3 hP2 HM HCg
      have c0 := (bV3 0 _ rfl).1
      have c1 := (bV3 1 _ rfl).1
      have c2 := (bV3 2 _ rfl).1
      have c3 := (bV3 3 _ rfl).1
      have HMa := hide (p_crMass C A1 B1 f hf w3 hU3)
      go_upto_region 12 with (go_at_call 9; (with_reducible refine (unhide HMa).mono ?_); rintro e w4 ⟨rfl, u4⟩)
      have bV4 := bx_up bV3 u4
      have hU4 := unts_up hU3 u4
      have U4 := up_trans U3' u4
      clear c0 c1 c2 c3 bV3 hU3 U3' u4 HMa
      have c0 := (bV4 0 _ rfl).1
      have c1 := (bV4 1 _ rfl).1
      have c2 := (bV4 2 _ rfl).1
      have c3 := (bV4 3 _ rfl).1
      by_cases hb : cra0 f m v ≤ 8000 ∧ cra1 f m v ≤ 12000
      · have HA := hide (p_crAx C A1 B1 f m v hf hm hum hb w4 hU4)
        have hs := cra_sum hf hm hum
        have hmo := cra_mono hf hm2.2 hum
        have hs2 := cra_sum hf ⟨hm2.1, by omega⟩ hum
        have HA2 := hide (fun W (hW : Up w4 W) => p_crAx C A1 B1 f m2 v hf ⟨hm2.1, by omega⟩ hum ⟨by omega, by omega⟩ W (unts_up hU4 hW))
        generalize cra0 f m v = X0 at *
        generalize cra1 f m v = X1 at *
        generalize cra0 f m2 v = Y0 at *
        generalize cra1 f m2 v = Y1 at *
        obtain ⟨⟨s1, s2⟩, s3, s4⟩ := hs
        obtain ⟨_, s5, s6⟩ := hs2
        go_upto_region 13 with (go_at_call 11; (try rw [show u % 6001 = v from unhide HV]); (with_reducible refine (unhide HA).mono ?_); rintro e w5 ⟨⟨A5, c5, rfl, hI⟩, u5⟩)
        have U5 := up_trans U4 u5
        have bV5 := bx_up bV4 u5
        have hU5 := unts_up hU4 u5
        obtain ⟨b, off, rfl, hc⟩ := hI.resolve_left (by simp)
        have x0 := hc 0 (by simp)
        have x1 := hc 1 (by simp)
        obtain ⟨bu, ou, rfl, hcu⟩ := hU5.resolve_left (by simp [crU])
        have z0 := (hcu 0 (by show 0 < 2; omega)).2.2.2.2.2.2.2.2.2.2.1
        have z1 := (hcu 1 (by show 1 < 2; omega)).2.2.2.2.2.2.2.2.2.2.1
        replace z0 : w5.cell? ⟨bu, ou + 10, none⟩ = some (.slice A1 2 2) := z0
        replace z1 : w5.cell? ⟨bu, ou + 11 + 10, none⟩ = some (.slice B1 3 3) := z1
        simp only [Nat.add_zero, List.getElem_cons_zero, List.getElem_cons_succ] at x0 x1
        clear c0 c1 c2 c3 bV4 hU4 U4 HA hc hI hcu hU5
        have c1 := (bV5 1 _ rfl).1
        have HZ := hide (⟨x0, x1, z0, z1, c1⟩ : w5.cell? ⟨b, off, none⟩ = some (.int .i64 X0) ∧ w5.cell? ⟨b, off + 1, none⟩ = some (.int .i64 X1) ∧ w5.cell? ⟨bu, ou + 10, none⟩ = some (.slice A1 2 2) ∧ w5.cell? ⟨bu, ou + 11 + 10, none⟩ = some (.slice B1 3 3) ∧ w5.cell? ⟨g, 1, none⟩ = some (.slice (some ⟨bu, ou, none⟩) 2 2))
        clear x0 x1 z0 z1
        go_upto_region 19 with fail
        clear c1
        go_loopw [15, 16, 17] (fun s15 s16 s17 wr => Wgh X0 X1 s15 s16 s17 ∧ Up w5 wr) (fun _ _ s17 _ => 2 - (intOf s17).toNat)
        case atStart => exact ⟨.inl ⟨rfl, rfl, rfl⟩, up_refl _⟩
        case round =>
          obtain ⟨hg, hup⟩ := hrel
          have y0 := up_cell hup (unhide HZ).1
          have y1 := up_cell hup (unhide HZ).2.1
          have y2 := up_cell hup (unhide HZ).2.2.1
          have y3 := up_cell hup (unhide HZ).2.2.2.1
          have y4 := up_cell hup (unhide HZ).2.2.2.2
          rcases hg with ⟨rfl, rfl, rfl⟩ | ⟨rfl, rfl, rfl⟩ | ⟨rfl, rfl, rfl⟩
          · go_wp2_with fail
            go_roundw
            case rel => exact ⟨.inr (.inl ⟨rfl, by first | rfl | go_num, rfl⟩), (by repeat' (first | (with_reducible exact up_refl _) | (with_reducible assumption) | (with_reducible refine up_alloc ?_ _) | (with_reducible refine up_drewN ?_ _) | (with_reducible refine up_drew ?_) | (with_reducible refine up_set ?_ (by first | (simp; done) | (simp; omega) | omega) _) | (refine up_trans ?_ (by with_reducible assumption))))⟩
            case measure => simp [intOf]
          · go_wp2_with fail
            go_roundw
            case rel => exact ⟨.inr (.inr ⟨rfl, by first | rfl | go_num, rfl⟩), (by repeat' (first | (with_reducible exact up_refl _) | (with_reducible assumption) | (with_reducible refine up_alloc ?_ _) | (with_reducible refine up_drewN ?_ _) | (with_reducible refine up_drew ?_) | (with_reducible refine up_set ?_ (by first | (simp; done) | (simp; omega) | omega) _) | (refine up_trans ?_ (by with_reducible assumption))))⟩
            case measure => simp [intOf]
          · have U6 := up_trans U5 hup
            have bV6 := bx_up bV5 hup
            have v0 := (bV6 0 _ rfl).1
            have v1 := (bV6 1 _ rfl).1
            have v2 := (bV6 2 _ rfl).1
            have v3 := (bV6 3 _ rfl).1
            clear y2 y3 y4 bV5 U5
            have t1 : ¬ X0 * 2 + X1 * 3 < 16000 + m := by omega
            have t2 : ¬ 16000 + m + 5 + 1 < X0 * 2 + X1 * 3 := by omega
            go_wp2_with (go_at_call 11; (try rw [show u % 6001 = v from unhide HV]); (try rw [show (m + 1).tdiv 2 = m2 from unhide HQ]); (try rw [show (m + 1) / 2 = m2 from unhide HQ2]); (with_reducible refine (unhide HA2 _ (up_trans u5 hup)).mono ?_); rintro e w7 ⟨⟨A7, c7, rfl, hI7⟩, u7⟩)
            obtain ⟨b7, off7, rfl, hc7⟩ := hI7.resolve_left (by simp)
            have x0 := hc7 0 (by simp)
            have x1 := hc7 1 (by simp)
            simp only [Nat.add_zero, List.getElem_cons_zero, List.getElem_cons_succ] at x0 x1
            have y0 := up_cell u7 y0
            have y1 := up_cell u7 y1
            have U7 := up_trans U6 u7
            have p0 : ∀ p : UpW w7, p.v.cell? ⟨b, off, none⟩ = some (.int .i64 X0) := fun p => up_cell p.up y0
            have p1 : ∀ p : UpW w7, p.v.cell? ⟨b, off + 1, none⟩ = some (.int .i64 X1) := fun p => up_cell p.up y1
            have p2 : ∀ p : UpW w7, p.v.cell? ⟨b7, off7, none⟩ = some (.int .i64 Y0) := fun p => up_cell p.up x0
            have p3 : ∀ p : UpW w7, p.v.cell? ⟨b7, off7 + 1, none⟩ = some (.int .i64 Y1) := fun p => up_cell p.up x1
            have q0 : decide (Y0 ≤ X0) = true := decide_eq_true hmo.1
            have q1 : decide (Y1 ≤ X1) = true := decide_eq_true hmo.2
            clear hc7 hI7 x0 x1 y0 y1 v0 v1 v2 v3 bV6 hup
            refine wp_upq (by kernel_rfl) (by kernel_rfl) ?_; (repeat (go_big_quiet_step ((go_at_call 10; exact upq (unhide HW _))))); refine wpQuiet_nil ?_; intro _ hw'; obtain ⟨pq, hw''⟩ := hw'; subst hw''; have hpq := pq.up
            go_wp2_with fail
            go_ret
            exact ⟨rfl, up_trans U7 hpq⟩
      · have HA := hide (p_crAxN C A1 B1 f m v hf hm hum hb w4 hU4)
        clear hb
        go_upto_region 13 with (go_at_call 11; (try rw [show u % 6001 = v from unhide HV]); (with_reducible refine (unhide HA).mono ?_); rintro e w5 ⟨⟨A5, c5, rfl⟩, u5⟩)
        have U5 := up_trans U4 u5
        clear c0 c1 c2 c3 bV4 hU4 U4 u5 HA
        go_wp2_with (go_at_call 10; (with_reducible refine (unhide HW _).mono ?_); rintro e w7 ⟨rfl, u7⟩)
        go_ret
        exact ⟨rfl, up_trans U5 u7⟩
end Go.Proofs.Ytooochbfnmmnkaa
