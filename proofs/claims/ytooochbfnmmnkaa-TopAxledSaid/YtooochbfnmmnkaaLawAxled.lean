/- TopAxled: the law's function returns true. -/
import Derived.Test.YtooochbfnmmnkaaTopM
import Derived.Test.YtooochbfnmmnkaaWk5
import Derived.Test.YtooochbfnmmnkaaPkHulls
import Derived.Test.YtooochbfnmmnkaaUpQ
namespace Go.Proofs.Ytooochbfnmmnkaa
open Go.RowKit Go.Proofs.Gn
attribute [local go_sem] Oper.semAt_some
set_option linter.unusedVariables false
set_option maxRecDepth 100000 in
set_option maxHeartbeats 16000000 in
theorem l_Axled (A : Option Addr) (bs : List Bxe) (cap : Nat) (u : Int) (w : World) (h : BxsOk w A bs) (hn : bs.length ≤ 9223372036854775807) (hu : 0 ≤ u ∧ u ≤ 65535) :
    Calls Try.prog 3 #[.slice A bs.length cap, .int .u16 u] w fun e w' => e = .returned (.bool true) ∧ Up w w' := by
  have HCg := hide (fun W (hW : Up w W) => p_cargo A bs cap W (bxes_up h.1 hW) h.2 hn)
  have HW := hide (fun W => p_works05 W)
  have HM1 := hide (fun (x : bs ≠ []) P cp W (hP : Pcs W P (cgL bs)) => p_massC bs h.2 x P cp W hP)
  have HM0 := hide (fun P cp W => p_massC0 P cp W)
  have HL := hide (cgL_mas h.2)
  have HLn := hide (cgL_len bs)
  have hmod : u % 6001 = u.tmod 6001 := (Int.tmod_eq_emod_of_nonneg hu.1).symm
  have hwu : IntKind.i64.wrap u = u := IntWalk.i64_in _ ⟨by omega, by omega⟩
  have hum : 0 ≤ u % 6001 ∧ u % 6001 ≤ 6000 := by omega
  have hwm : IntKind.i64.wrap (u % 6001) = u % 6001 := IntWalk.i64_in _ ⟨by omega, by omega⟩
  have HU := hide hmod
  obtain ⟨v, hv⟩ : ∃ v, u % 6001 = v := ⟨_, rfl⟩
  rw [hv] at hum hwm
  have HV := hide hv
  obtain ⟨N, hN⟩ : ∃ N, bs.length = N := ⟨_, rfl⟩
  rw [hN] at HCg hn ⊢
  obtain ⟨n, hnn⟩ : ∃ n, (cgL bs).length = n := ⟨_, rfl⟩
  rw [hnn] at HCg HM1 HL HLn
  have hn4 := (unhide HLn).1
  by_cases h0 : bs = []
  · have hn0 : n = 0 := by rw [← hnn, h0]; rfl
    subst hn0
    clear h hn hN hnn HM1 HL HLn h0 hmod hv
    go_enter Try.func3, Try.ntmps3
    go_upto_region 2 with (go_at_call 6; (with_reducible refine (p_carrier _).mono ?_); rintro e w1 ⟨⟨C, A1, B1, rfl, hU⟩, u1⟩)
    refine at_wpC (fun W1 hW1 => ?_)
    have U1 : Up w W1 := by rw [hW1]; exact (by repeat' (first | (with_reducible exact up_refl _) | (with_reducible assumption) | (with_reducible refine up_alloc ?_ _) | (with_reducible refine up_drewN ?_ _) | (with_reducible refine up_drew ?_) | (with_reducible refine up_set ?_ (by first | (simp; done) | (simp; omega) | omega) _) | (refine up_trans ?_ (by with_reducible assumption))))
    have bV : Bx W1 w1.heap.size [.string crN, .slice C 2 2, .int .i64 1, .int .i64 1] := by rw [hW1]; exact bx_new w1 _ _
    have hU1 := unts_up hU (show Up w1 W1 by rw [hW1]; exact (by repeat' (first | (with_reducible exact up_refl _) | (with_reducible assumption) | (with_reducible refine up_alloc ?_ _) | (with_reducible refine up_drewN ?_ _) | (with_reducible refine up_drew ?_) | (with_reducible refine up_set ?_ (by first | (simp; done) | (simp; omega) | omega) _) | (refine up_trans ?_ (by with_reducible assumption)))))
    obtain ⟨g, hg⟩ : ∃ g, w1.heap.size = g := ⟨_, rfl⟩
    rw [hg] at bV ⊢
    clear hW1 hU u1 hg
    go_upto_region 3 with (first
      | (go_at_call 8; (with_reducible refine (unhide HCg _ U1).mono ?_); rintro e w2 ⟨⟨P, cp, rfl, hP⟩, u2⟩)
      | (go_at_call 7; (with_reducible refine (unhide HM0 _ _ _).mono ?_); rintro e w3 ⟨rfl, u3⟩))
    have U3 := up_trans u2 u3
    have bV3 := bx_up bV U3
    have hU3 := unts_up hU1 U3
    have U3' := up_trans U1 U3
    clear bV hU1 U1 u2 u3 U3 hP
    have c0 := (bV3 0 _ rfl).1
    have c1 := (bV3 1 _ rfl).1
    have c2 := (bV3 2 _ rfl).1
    have c3 := (bV3 3 _ rfl).1
    have HM := hide (p_crMass C A1 B1 1 (.inr rfl) w3 hU3)
    clear hU3
    go_wp2_with (first
      | (go_at_call 9; (with_reducible refine (unhide HM).mono ?_); rintro e w4 ⟨rfl, u4⟩; have U4 := up_trans U3' u4)
      | (go_at_call 10; (with_reducible refine (unhide HW _).mono ?_); rintro e w5 ⟨rfl, u5⟩))
    go_ret
    exact ⟨rfl, up_trans U4 u5⟩
  · have HM := hide (unhide HM1 h0)
    have hm : 1 ≤ mas (cgL bs) ∧ mas (cgL bs) ≤ 32000 := by
      have a := (unhide HLn).2 h0
      have b := unhide HL
      omega
    obtain ⟨m, hmm⟩ : ∃ m, mas (cgL bs) = m := ⟨_, rfl⟩
    rw [hmm] at HM hm
    clear h hn hN hnn HM1 HM0 HL HLn h0 hmod hv hmm
    have hw1 : IntKind.i64.wrap (16000 + m) = 16000 + m := IntWalk.i64_in _ ⟨by omega, by omega⟩
    have hw2 : IntKind.i64.wrap (16000 + m + 2) = 16000 + m + 2 := IntWalk.i64_in _ ⟨by omega, by omega⟩
    go_enter Try.func3, Try.ntmps3
    go_upto_region 2 with (go_at_call 6; (with_reducible refine (p_carrier _).mono ?_); rintro e w1 ⟨⟨C, A1, B1, rfl, hU⟩, u1⟩)
    refine at_wpC (fun W1 hW1 => ?_)
    have U1 : Up w W1 := by rw [hW1]; exact (by repeat' (first | (with_reducible exact up_refl _) | (with_reducible assumption) | (with_reducible refine up_alloc ?_ _) | (with_reducible refine up_drewN ?_ _) | (with_reducible refine up_drew ?_) | (with_reducible refine up_set ?_ (by first | (simp; done) | (simp; omega) | omega) _) | (refine up_trans ?_ (by with_reducible assumption))))
    have bV : Bx W1 w1.heap.size [.string crN, .slice C 2 2, .int .i64 1, .int .i64 1] := by rw [hW1]; exact bx_new w1 _ _
    have hU1 := unts_up hU (show Up w1 W1 by rw [hW1]; exact (by repeat' (first | (with_reducible exact up_refl _) | (with_reducible assumption) | (with_reducible refine up_alloc ?_ _) | (with_reducible refine up_drewN ?_ _) | (with_reducible refine up_drew ?_) | (with_reducible refine up_set ?_ (by first | (simp; done) | (simp; omega) | omega) _) | (refine up_trans ?_ (by with_reducible assumption)))))
    obtain ⟨g, hg⟩ : ∃ g, w1.heap.size = g := ⟨_, rfl⟩
    rw [hg] at bV ⊢
    clear hW1 hU u1 hg
    go_upto_region 3 with (first
      | (go_at_call 8; (with_reducible refine (unhide HCg _ U1).mono ?_); rintro e w2 ⟨⟨P, cp, rfl, hP⟩, u2⟩)
      | (go_at_call 7; (with_reducible refine (unhide HM _ _ _ hP).mono ?_); rintro e w3 ⟨rfl, u3⟩))
    have U3 := up_trans u2 u3
    have bV3 := bx_up bV U3
    have hU3 := unts_up hU1 U3
    have U3' := up_trans U1 U3
    clear bV hU1 U1 u2 u3 U3 hP HM HCg
    have c0 := (bV3 0 _ rfl).1
    have c1 := (bV3 1 _ rfl).1
    have c2 := (bV3 2 _ rfl).1
    have c3 := (bV3 3 _ rfl).1
    have HMa := hide (p_crMass C A1 B1 1 (.inr rfl) w3 hU3)
    go_upto_region 6 with (go_at_call 9; (with_reducible refine (unhide HMa).mono ?_); rintro e w4 ⟨rfl, u4⟩)
    have bV4 := bx_up bV3 u4
    have hU4 := unts_up hU3 u4
    have U4 := up_trans U3' u4
    clear c0 c1 c2 c3 bV3 hU3 U3' u4 HMa
    have c0 := (bV4 0 _ rfl).1
    have c1 := (bV4 1 _ rfl).1
    have c2 := (bV4 2 _ rfl).1
    have c3 := (bV4 3 _ rfl).1
    by_cases hb : m ≤ 29000
    · have hb' : ¬ 29000 < m := by omega
      have HA := hide (p_crAxles C A1 B1 m v ⟨hm.1, hb⟩ hum w4 hU4)
      have hX : 3 * cei (7000 + m) 3 ≥ 7000 + m ∧ 3 * cei (7000 + m) 3 ≤ 7000 + m + 2 := by unfold cei; omega
      generalize cei (7000 + m) 3 = X at *
      go_upto_region 7 with (go_at_call 11; (rw [show u % 6001 = v from unhide HV]); (with_reducible refine (unhide HA).mono ?_); rintro e w5 ⟨⟨A5, c5, rfl, hI⟩, u5⟩)
      have U5 := up_trans U4 u5
      obtain ⟨b, off, rfl, hc⟩ := hI.resolve_left (by simp)
      have x0 := hc 0 (by simp)
      have x1 := hc 1 (by simp)
      clear c0 c1 c2 c3 bV4 hU4 U4 u5 HA hc hI
      simp only [Nat.add_zero, List.getElem_cons_zero, List.getElem_cons_succ] at x0 x1
      have y0 : ∀ p : UpW w5, p.v.cell? ⟨b, off, none⟩ = some (.int .i64 4500) := fun p => up_cell p.up x0
      have y1 : ∀ p : UpW w5, p.v.cell? ⟨b, off + 1, none⟩ = some (.int .i64 X) := fun p => up_cell p.up x1
      have hw3 : IntKind.i64.wrap (3 * X) = 3 * X := IntWalk.i64_in _ ⟨by omega, by omega⟩
      have hw4 : IntKind.i64.wrap (9000 + 3 * X) = 9000 + 3 * X := IntWalk.i64_in _ ⟨by omega, by omega⟩
      go_upto_region 13 with fail
      refine wp_upq (by kernel_rfl) (by kernel_rfl) ?_; (repeat (go_big_quiet_step (fail))); refine wpQuiet_nil ?_; intro _ hw'; obtain ⟨pq, hw''⟩ := hw'; subst hw''; have hpq := pq.up
      generalize pq.v = W6 at hpq ⊢
      have U6 := up_trans U5 hpq
      clear y0 y1 x0 x1 U5 hpq
      have t1 : 16000 + m ≤ 9000 + 3 * X := by omega
      have t2 : 9000 + 3 * X ≤ 16000 + m + 2 := by omega
      go_wp2_with (go_at_call 10; (with_reducible refine (unhide HW _).mono ?_); rintro e w7 ⟨rfl, u7⟩)
      go_ret
      exact ⟨rfl, up_trans U6 u7⟩
    · have hb' : 29000 < m := by omega
      have HA := hide (p_crAxles14 C A1 B1 m v ⟨hb', hm.2⟩ hum w4 hU4)
      go_upto_region 7 with (go_at_call 11; (rw [show u % 6001 = v from unhide HV]); (with_reducible refine (unhide HA).mono ?_); rintro e w5 ⟨⟨A5, c5, rfl⟩, u5⟩)
      have U5 := up_trans U4 u5
      clear c0 c1 c2 c3 bV4 hU4 U4 u5 HA
      go_wp2_with (go_at_call 10; (with_reducible refine (unhide HW _).mono ?_); rintro e w7 ⟨rfl, u7⟩)
      go_ret
      exact ⟨rfl, up_trans U5 u7⟩
end Go.Proofs.Ytooochbfnmmnkaa
