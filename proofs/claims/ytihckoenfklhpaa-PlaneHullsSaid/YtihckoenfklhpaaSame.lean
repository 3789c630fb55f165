/- The law's sign, and whether two lists are the same. -/
import Derived.Test.YtihckoenfklhpaaDrop
namespace Go.Proofs.Ytihckoenfklhpaa
open Go.RowKit Go.Proofs.Gn
theorem l_sign (ax ay bx b_y cx cy : Int) (w : World) (h1 : Bd ax) (h2 : Bd ay) (h3 : Bd bx) (h4 : Bd b_y) (h5 : Bd cx) (h6 : Bd cy) :
    Calls Try.prog 29 #[pt ax ay, pt bx b_y, pt cx cy] w fun e w' => e = .returned (.int .i64 (Gx.dt (ax, ay) (bx, b_y) (cx, cy))) ∧ Up w w' := by
  unfold Bd at *
  have m1 := mul_bd (u := bx - ax) (v := cy - ay) (by omega) (by omega) (by omega) (by omega)
  have m2 := mul_bd (u := b_y - ay) (v := cx - ax) (by omega) (by omega) (by omega) (by omega)
  have e1 : IntKind.i64.wrap (bx - ax) = bx - ax := IntWalk.i64_in _ ⟨by omega, by omega⟩
  have e2 : IntKind.i64.wrap (cy - ay) = cy - ay := IntWalk.i64_in _ ⟨by omega, by omega⟩
  have e3 : IntKind.i64.wrap (b_y - ay) = b_y - ay := IntWalk.i64_in _ ⟨by omega, by omega⟩
  have e4 : IntKind.i64.wrap (cx - ax) = cx - ax := IntWalk.i64_in _ ⟨by omega, by omega⟩
  have e5 : IntKind.i64.wrap ((bx - ax) * (cy - ay)) = (bx - ax) * (cy - ay) := IntWalk.i64_in _ ⟨by omega, by omega⟩
  have e6 : IntKind.i64.wrap ((b_y - ay) * (cx - ax)) = (b_y - ay) * (cx - ax) := IntWalk.i64_in _ ⟨by omega, by omega⟩
  have e7 : IntKind.i64.wrap ((bx - ax) * (cy - ay) - (b_y - ay) * (cx - ax)) = (bx - ax) * (cy - ay) - (b_y - ay) * (cx - ax) := IntWalk.i64_in _ ⟨by omega, by omega⟩
  have e8 : Gx.dt (ax, ay) (bx, b_y) (cx, cy) = (bx - ax) * (cy - ay) - (b_y - ay) * (cx - ax) := rfl
  rw [e8]
  clear e8
  go_enter Try.func29, Try.ntmps29
  go_wp2_with fail
  go_ret
  exact ⟨rfl, (by repeat' (first | (with_reducible exact up_refl _) | (with_reducible assumption) | (with_reducible refine up_alloc ?_ _) | (with_reducible refine up_drewN ?_ _) | (with_reducible refine up_drew ?_) | (with_reducible refine up_set ?_ (by first | (simp; done) | (simp; omega) | omega) _) | (refine up_trans ?_ (by with_reducible assumption))))⟩
theorem take_same {a b : Pl} (h : a.length = b.length) {k : Nat} (hk : k < a.length) (ht : a.take k = b.take k) (e : Gx.g a k = Gx.g b k) : a.take (k + 1) = b.take (k + 1) := by
  rw [List.take_succ_eq_append_getElem hk, List.take_succ_eq_append_getElem (by omega), ht]
  rw [Gx.g_eq hk, Gx.g_eq (by omega)] at e
  rw [e]
set_option maxHeartbeats 1000000 in
theorem r_Same (A B : Option Addr) (a b : Pl) (ca cb : Nat) (w : World) (ha : Pts w A a) (hb : Pts w B b) (hn : a.length ≤ 9223372036854775807) :
    Calls Try.prog 11 #[.slice A a.length ca, .slice B b.length cb] w fun e w' => e = .returned (.bool (decide (a = b))) ∧ Up w w' := by
  have HA := hide ha
  have HB := hide hb
  clear ha hb
  obtain ⟨r, hr⟩ : ∃ r, decide (a = b) = r := ⟨_, rfl⟩
  rw [hr]
  have HR := hide hr
  clear hr
  obtain ⟨n, hN⟩ : ∃ n, a.length = n := ⟨_, rfl⟩
  obtain ⟨m, hM⟩ : ∃ n, b.length = n := ⟨_, rfl⟩
  rw [hN, hM]
  rw [hN] at hn
  have HN := hide hN
  have HM := hide hM
  clear hN hM
  by_cases hmn : n = m
  · subst hmn
    have g1 : ((n : Int) == (n : Int)) = true := by simp
    go_enter Try.func11, Try.ntmps11
    go_wp2_with fail
    go_loopw [5] (fun i wr => ∃ k : Nat, k ≤ n ∧ i = .int .i64 k ∧ Up w wr ∧ a.take k = b.take k) (fun i _ => n - (intOf i).toNat)
    case atStart => exact ⟨0, by omega, rfl, up_refl _, rfl⟩
    case round =>
      obtain ⟨k, hk, rfl, hu, ht⟩ := hrel
      have HT := hide ht
      clear ht
      by_cases hlt : k < n
      · have la : k < a.length := by rw [unhide HN]; exact hlt
        have lb : k < b.length := by rw [unhide HM]; exact hlt
        have hst := take_same (by rw [unhide HN, unhide HM]) la (unhide HT)
        obtain ⟨x, X, rfl, hca⟩ := (pts_up (unhide HA) hu).resolve_left (by intro e; rw [e] at la; simp at la)
        obtain ⟨y, Y, rfl, hcb⟩ := (pts_up (unhide HB) hu).resolve_left (by intro e; rw [e] at lb; simp at lb)
        obtain ⟨a0, a1⟩ := pts_g hca la
        obtain ⟨b0, b1⟩ := pts_g hcb lb
        have hne : Gx.g a k ≠ Gx.g b k → a ≠ b := fun h e => h (by rw [e])
        obtain ⟨P, hP⟩ : ∃ P, Gx.g a k = P := ⟨_, rfl⟩
        obtain ⟨Q, hQ⟩ : ∃ P, Gx.g b k = P := ⟨_, rfl⟩
        rw [hP] at a0 a1 hst hne
        rw [hQ] at b0 b1 hst hne
        obtain ⟨p1, p2⟩ := P
        obtain ⟨q1, q2⟩ := Q
        simp only at a0 a1 b0 b1
        have HST := hide hst
        have HNE := hide hne
        have k1 : (k : Int) < (n : Int) := by omega
        clear hst hne hca hcb hP hQ
        by_cases hpq : (p1, p2) = (q1, q2)
        · have hs := unhide HST hpq
          have HS := hide hs
          simp only [Prod.mk.injEq] at hpq
          obtain ⟨rfl, rfl⟩ := hpq
          clear HST HNE hs
          go_wp2_with fail
          go_quiet (fail)
          go_wp2_with fail
          go_roundw
          case rel => exact ⟨k + 1, by omega, by go_num, (by repeat' (first | (with_reducible exact up_refl _) | (with_reducible assumption) | (with_reducible refine up_alloc ?_ _) | (with_reducible refine up_drewN ?_ _) | (with_reducible refine up_drew ?_) | (with_reducible refine up_set ?_ (by first | (simp; done) | (simp; omega) | omega) _) | (refine up_trans ?_ (by with_reducible assumption)))), unhide HS⟩
          case measure => simp [intOf]; omega
        · have hz := unhide HNE hpq
          have HZ := hide hz
          clear hz HST HNE
          by_cases hp1 : p1 = q1
          · have hf : (p2 == q2) = false := by simp; intro e; exact hpq (by rw [hp1, e])
            subst hp1
            clear hpq
            go_wp2_with fail
            go_quiet (fail)
            go_wp2_with fail
            go_ret
            refine ⟨?_, (by repeat' (first | (with_reducible exact up_refl _) | (with_reducible assumption) | (with_reducible refine up_alloc ?_ _) | (with_reducible refine up_drewN ?_ _) | (with_reducible refine up_drew ?_) | (with_reducible refine up_set ?_ (by first | (simp; done) | (simp; omega) | omega) _) | (refine up_trans ?_ (by with_reducible assumption))))⟩
            rw [← unhide HR, decide_eq_false (unhide HZ)]
            rfl
          · have hf : (p1 == q1) = false := by simp; exact hp1
            clear hpq hp1
            go_wp2_with fail
            go_quiet (fail)
            go_wp2_with fail
            go_ret
            refine ⟨?_, (by repeat' (first | (with_reducible exact up_refl _) | (with_reducible assumption) | (with_reducible refine up_alloc ?_ _) | (with_reducible refine up_drewN ?_ _) | (with_reducible refine up_drew ?_) | (with_reducible refine up_set ?_ (by first | (simp; done) | (simp; omega) | omega) _) | (refine up_trans ?_ (by with_reducible assumption))))⟩
            rw [← unhide HR, decide_eq_false (unhide HZ)]
            rfl
      · obtain rfl : k = n := by omega
        have hz : a = b := by
          have := unhide HT
          rwa [List.take_of_length_le (by rw [unhide HN]; omega), List.take_of_length_le (by rw [unhide HM]; omega)] at this
        have HZ := hide hz
        clear hz
        go_wp2_with fail
        go_ret
        refine ⟨?_, (by repeat' (first | (with_reducible exact up_refl _) | (with_reducible assumption) | (with_reducible refine up_alloc ?_ _) | (with_reducible refine up_drewN ?_ _) | (with_reducible refine up_drew ?_) | (with_reducible refine up_set ?_ (by first | (simp; done) | (simp; omega) | omega) _) | (refine up_trans ?_ (by with_reducible assumption))))⟩
        rw [← unhide HR, decide_eq_true (unhide HZ)]
        rfl
  · have g1 : ((n : Int) == (m : Int)) = false := by simp; omega
    have hz : a ≠ b := fun e => hmn (by rw [← unhide HN, ← unhide HM, e])
    have HZ := hide hz
    clear hz hmn
    go_enter Try.func11, Try.ntmps11
    go_wp2_with fail
    go_ret
    refine ⟨?_, (by repeat' (first | (with_reducible exact up_refl _) | (with_reducible assumption) | (with_reducible refine up_alloc ?_ _) | (with_reducible refine up_drewN ?_ _) | (with_reducible refine up_drew ?_) | (with_reducible refine up_set ?_ (by first | (simp; done) | (simp; omega) | omega) _) | (refine up_trans ?_ (by with_reducible assumption))))⟩
    rw [← unhide HR, decide_eq_false (unhide HZ)]
    rfl
end Go.Proofs.Ytihckoenfklhpaa
