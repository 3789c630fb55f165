/- Two lists of numbers: the law's sameInts. -/
import Derived.Test.YtepblnnebeglbaaOwnI
import Derived.Test.YtepblnnebeglbaaUpQ
import Derived.BigRegion
namespace Go.Proofs.Ytepblnnebeglbaa
open Go.RowKit Go.Proofs.Gn
set_option maxRecDepth 100000 in
set_option maxHeartbeats 4000000 in
theorem l_sameI (A B : Option Addr) (xs ys : List Int) (ca cb : Nat) (w : World) (hx : Ints w A xs) (hy : Ints w B ys) (hn : xs.length ≤ 9223372036854775807) (hm : ys.length ≤ 9223372036854775807) :
    Calls Try.prog 8 #[.slice A xs.length ca, .slice B ys.length cb] w fun e w' => e = .returned (.bool (decide (xs = ys))) ∧ Up w w' := by
  have HX := hide hx
  have HY := hide hy
  clear hx hy
  by_cases hl : xs.length = ys.length
  · have HD : Hid (∀ k (h1 : k < xs.length) (h2 : k < ys.length), xs.take k = ys.take k → (xs[k] = ys[k] → xs.take (k + 1) = ys.take (k + 1)) ∧ (xs[k] ≠ ys[k] → decide (xs = ys) = false)) := hide (fun k h1 h2 hk => ⟨fun e => by rw [List.take_succ_eq_append_getElem h1, List.take_succ_eq_append_getElem h2, hk, e], fun e => by rw [decide_eq_false_iff_not]; intro x; apply e; subst x; rfl⟩)
    have HF : Hid (xs.take xs.length = ys.take xs.length → decide (xs = ys) = true) := hide (fun h => by rw [List.take_length, hl, List.take_length] at h; simp [h])
    obtain ⟨D, hD⟩ : ∃ D, decide (xs = ys) = D := ⟨_, rfl⟩
    rw [hD] at HD HF ⊢
    clear hD
    obtain ⟨n, hN⟩ : ∃ n, xs.length = n := ⟨_, rfl⟩
    have hM := hl.symm.trans hN
    have HN := hide hN
    have HM := hide hM
    rw [hM, hN]
    rw [hN] at hn
    have HF2 : Hid (xs.take n = ys.take n → D = true) := hide (fun h => unhide HF (by rw [hN]; exact h))
    clear hl hN hM hm HF
    go_enter Try.func8, Try.ntmps8
    go_wp2_with fail
    go_loopw [5] (fun s5 wr => ∃ k : Nat, k ≤ n ∧ s5 = .int .i64 k ∧ Up w wr ∧ Hid (xs.take k = ys.take k)) (fun s5 _ => n - (intOf s5).toNat)
    case atStart => exact ⟨0, by omega, rfl, (by repeat' (first | (with_reducible exact up_refl _) | (with_reducible assumption) | (with_reducible refine up_alloc ?_ _) | (with_reducible refine up_drewN ?_ _) | (with_reducible refine up_drew ?_) | (with_reducible refine up_set ?_ (by first | (simp; done) | (simp; omega) | omega) _) | (refine up_trans ?_ (by with_reducible assumption)))), hide rfl⟩
    case round =>
      obtain ⟨k, hk, rfl, hu, hT⟩ := hrel
      by_cases hlt : k < n
      · have h1 : k < xs.length := by rw [unhide HN]; exact hlt
        have h2 : k < ys.length := by rw [unhide HM]; exact hlt
        obtain ⟨D1, D2⟩ := unhide HD k h1 h2 (unhide hT)
        rcases ints_up (unhide HX) hu with hnil | ⟨b, o, rfl, hc⟩
        · rw [hnil] at h1; simp at h1
        rcases ints_up (unhide HY) hu with hnil | ⟨b2, o2, rfl, hc2⟩
        · rw [hnil] at h2; simp at h2
        have c1 := hc k h1
        have c2 := hc2 k h2
        clear hc hc2
        generalize xs[k] = x at *
        generalize ys[k] = y at *
        have i0 : (0 : Int) ≤ (k : Int) := by omega
        have i1 : (k : Int) < (n : Int) := by omega
        have hwk : IntKind.i64.wrap ((k : Int) + 1) = (k : Int) + 1 := IntWalk.i64_in _ ⟨by omega, by omega⟩
        by_cases e : x = y
        · subst e
          have D3 := hide (D1 rfl)
          clear D1 D2 hT
          obtain ⟨wx, rfl⟩ : ∃ wx, wx = wr := ⟨_, rfl⟩
          go_upto_region 6 with fail
          go_cut [25] (fun s wy => s = .bool false ∧ Up wx wy)
          case first => as_aux_lemma =>
            have n0 : ∀ p : UpW wx, p.v.cell? ⟨b, o + k, none⟩ = some (.int .i64 x) := fun p => up_cell p.up c1
            have n1 : ∀ p : UpW wx, p.v.cell? ⟨b2, o2 + k, none⟩ = some (.int .i64 x) := fun p => up_cell p.up c2
            refine wp_upq (by kernel_rfl) (by kernel_rfl) ?_; (repeat (go_big_quiet_step (fail))); refine wpQuiet_nil ?_; intro _ hw'; obtain ⟨pq, hw''⟩ := hw'; subst hw''; have hpq := pq.up
            go_wp2_with fail
            go_meet
            exact ⟨by first | rfl | (simp [bne, e1]; done) | (simp [bne]; done), hpq⟩
          case rest =>
          obtain ⟨rfl, hy⟩ := hcut
          have hu2 := up_trans hu hy
          clear c1 c2 hu hy
          go_wp2_with fail
          go_roundw
          case rel => exact ⟨k + 1, by omega, by first | rfl | trivial | go_num, hu2, D3⟩
          case measure => simp [intOf]; omega
        · have D3 := D2 e
          have e1 : (x == y) = false := beq_false_of_ne e
          subst D3
          clear D1 D2 hT
          obtain ⟨wx, rfl⟩ : ∃ wx, wx = wr := ⟨_, rfl⟩
          go_upto_region 6 with fail
          go_cut [25] (fun s wy => s = .bool true ∧ Up wx wy)
          case first => as_aux_lemma =>
            have n0 : ∀ p : UpW wx, p.v.cell? ⟨b, o + k, none⟩ = some (.int .i64 x) := fun p => up_cell p.up c1
            have n1 : ∀ p : UpW wx, p.v.cell? ⟨b2, o2 + k, none⟩ = some (.int .i64 y) := fun p => up_cell p.up c2
            refine wp_upq (by kernel_rfl) (by kernel_rfl) ?_; (repeat (go_big_quiet_step (fail))); refine wpQuiet_nil ?_; intro _ hw'; obtain ⟨pq, hw''⟩ := hw'; subst hw''; have hpq := pq.up
            go_wp2_with fail
            go_meet
            exact ⟨by first | rfl | (simp [bne, e1]; done) | (simp [bne]; done), hpq⟩
          case rest =>
          obtain ⟨rfl, hy⟩ := hcut
          have hu2 := up_trans hu hy
          clear c1 c2 hu hy
          go_wp2_with fail
          go_ret
          exact ⟨rfl, (by repeat' (first | (with_reducible exact up_refl _) | (with_reducible assumption) | (with_reducible refine up_alloc ?_ _) | (with_reducible refine up_drewN ?_ _) | (with_reducible refine up_drew ?_) | (with_reducible refine up_set ?_ (by first | (simp; done) | (simp; omega) | omega) _) | (refine up_trans ?_ (by with_reducible assumption))))⟩
      · obtain rfl : k = n := by omega
        have D3 := unhide HF2 (unhide hT)
        subst D3
        clear hT HF2
        go_wp2_with fail
        go_ret
        exact ⟨rfl, (by repeat' (first | (with_reducible exact up_refl _) | (with_reducible assumption) | (with_reducible refine up_alloc ?_ _) | (with_reducible refine up_drewN ?_ _) | (with_reducible refine up_drew ?_) | (with_reducible refine up_set ?_ (by first | (simp; done) | (simp; omega) | omega) _) | (refine up_trans ?_ (by with_reducible assumption))))⟩
  · have e0 : decide (xs = ys) = false := by rw [decide_eq_false_iff_not]; intro x; exact hl (by rw [x])
    rw [e0]
    have e1 : ((xs.length : Int) == (ys.length : Int)) = false := beq_false_of_ne (by omega)
    generalize xs.length = n at *
    generalize ys.length = m at *
    go_enter Try.func8, Try.ntmps8
    go_wp2_with fail
    go_ret
    exact ⟨rfl, (by repeat' (first | (with_reducible exact up_refl _) | (with_reducible assumption) | (with_reducible refine up_alloc ?_ _) | (with_reducible refine up_drewN ?_ _) | (with_reducible refine up_drew ?_) | (with_reducible refine up_set ?_ (by first | (simp; done) | (simp; omega) | omega) _) | (refine up_trans ?_ (by with_reducible assumption))))⟩
end Go.Proofs.Ytepblnnebeglbaa
