/- PlaneAlong: the law's function returns true. -/
import Derived.Test.YtcheojkjcncfkaaScale
import Derived.Test.YtcheojkjcncfkaaAlongM
import Derived.Test.YtcheojkjcncfkaaWorks
namespace Go.Proofs.Ytcheojkjcncfkaa
open Go.RowKit Go.Proofs.Gn
def mx (x y : Int) : Int := if y > x then y else x
theorem mx_le {x y c : Int} (h1 : x ≤ c) (h2 : y ≤ c) : mx x y ≤ c := by unfold mx; split <;> assumption
theorem run_max4 {P : Program} (ts : Array TypeId) (t : TypeId) (x y z u : Int) (w : World) : (Builtin.max_ ts t #[.int .i64 x, .int .i64 y, .int .i64 z, .int .i64 u]).run P w = .ok (.int .i64 (mx (mx (mx x y) z) u)) w := by
  simp only [Builtin.max_, List.foldlM_cons, List.foldlM_nil, Builtin.max2, Sem.run_bind, Sem.run_pure, Result.andThen_ok]
  rfl
theorem own_nil {W : World} {base : Nat} {v : Value} {e : TypeId} {xs : List Value} (h : W.ownsRow base e 2 v 0 xs) : ∃ A cap, v = .slice A 0 cap := by
  rcases h.2 with ⟨h1, _⟩ | ⟨g, cap, cur, h1, _⟩
  · exact ⟨_, _, h1⟩
  · exact ⟨_, _, h1⟩
set_option maxRecDepth 100000 in
set_option maxHeartbeats 2000000 in
theorem l_Along_none (A : Option Addr) (ps : Pl) (cap : Nat) (at' by' : Int) (w : World) (h : Smalls w A ps) (hn : ps.length ≤ 9223372036854775807) (h0 : (ps.take 12).length = 0) :
    Calls Try.prog 8 #[.slice A ps.length cap, .int .u16 at', .int .u8 by'] w fun e w' => e = .returned (.bool true) ∧ Below w.heap.size w w' := by
  have HS := hide h
  have HZ := hide h0
  clear h h0
  go_enter Try.func8, Try.ntmps8
  go_wp2_with (go_at_call 29; refine (l_few _ _ _ _ (unhide HS) hn).mono ?_; rintro e w1 ⟨v, rfl, hown, hb⟩; rw [unhide HZ] at hown; obtain ⟨A1, c1, rfl⟩ := own_nil hown; clear hown)
  have PL : ∀ W : World, Calls Try.prog 31 #[.slice A1 0 c1] W fun e w' => e = .returned (.tuple #[.int .i64 0, .int .i64 5]) ∧ Up W w' := fun W => p_Length A1 [] c1 W (.inl rfl) (by simp)
  have HPL := hide PL
  clear PL
  go_loopw [8] (fun i wr => i = .int .i64 0 ∧ wr = w1) (fun _ _ => 0)
  case atStart => exact ⟨rfl, rfl⟩
  case round =>
    obtain ⟨rfl, rfl⟩ := hrel
    go_wp2_with (first | (go_at_call 31; (with_reducible refine (unhide HPL _).mono ?_); rintro e w2 ⟨rfl, hb2⟩) | (go_at_call 9; refine (l_works _).mono ?_; rintro e w5 ⟨rfl, hb5⟩))
    exact bodyPost_ret (v := .bool true) (by simp [results, Try.results8, go_sem]) rfl ⟨rfl, up_trans (up_trans hb hb2) hb5⟩
set_option maxRecDepth 100000 in
set_option maxHeartbeats 4000000 in
theorem l_Along_some (A : Option Addr) (ps : Pl) (cap : Nat) (at' by' : Int) (w : World) (h : Smalls w A ps) (hn : ps.length ≤ 9223372036854775807) (qs : Pl) (hq : ps.take 12 = qs) (h0 : 0 < qs.length) (hq12 : qs.length ≤ 12)
    (hqb : ∀ p ∈ qs, (-128 ≤ p.1 ∧ p.1 ≤ 127) ∧ (-128 ≤ p.2 ∧ p.2 ≤ 127)) (a1 : 0 ≤ at') (a2 : at' ≤ 65535) (b1 : 0 ≤ by') (b2 : by' ≤ 255) :
    Calls Try.prog 8 #[.slice A ps.length cap, .int .u16 at', .int .u8 by'] w fun e w' => e = .returned (.bool true) ∧ Below w.heap.size w w' := by
  have HS := hide h
  have HQB := hide hqb
  have HQ := hide hq
  obtain ⟨n, hN⟩ : ∃ n, qs.length = n := ⟨_, rfl⟩
  rw [hN] at h0 hq12
  have HN := hide hN
  clear h hqb hq hN
  go_enter Try.func8, Try.ntmps8
  go_wp2_with (go_at_call 29; refine (l_few _ _ _ _ (unhide HS) hn).mono ?_; rintro e w1 ⟨v, rfl, hown, hb⟩; rw [unhide HQ, unhide HN] at hown; obtain ⟨g, c1, rfl, hg, hbx⟩ := bx_own hown h0; clear hown)
  have HB := hide hb
  have HX := hide hbx
  have e1 : (IntKind.i64.wrap by' = by') := IntWalk.i64_in _ ⟨by omega, by omega⟩
  have e2 : (IntKind.i64.wrap at' = at') := IntWalk.i64_in _ ⟨by omega, by omega⟩
  have E1 := hide e1
  have E2 := hide e2
  clear hb hbx e1 e2
  go_loopw [8] (fun i wr => ∃ k : Nat, k ≤ n ∧ i = .int .i64 k ∧ Below w.heap.size w wr ∧ Bx wr g (cellsPl (scl (1 + by') k qs))) (fun i _ => n - (intOf i).toNat)
  case atStart => exact ⟨0, Nat.zero_le _, rfl, unhide HB, by rw [scl_zero]; exact unhide HX⟩
  case round =>
    obtain ⟨k, hk, rfl, hb, hbx⟩ := hrel
    clear HX HB
    by_cases h1 : k < n
    · have h1' : (k : Int) < (n : Int) := by omega
      have hl : k < qs.length := by rw [unhide HN]; exact h1
      obtain ⟨q0, q1⟩ := bx_scl_at hl hbx
      have hstep := bx_scl hl hbx
      have xb := (unhide HQB qs[k] (List.getElem_mem hl)).1
      obtain ⟨x, hx⟩ : ∃ x, qs[k].1 = x := ⟨_, rfl⟩
      rw [hx] at q0 hstep xb
      have HST := hide hstep
      have HB := hide hb
      have mb := mul_bd (u := x) (v := 1 + by') (by omega) (by omega) (by omega) (by omega)
      have e1 := unhide E1
      have W1 : IntKind.i64.wrap (x * (1 + by')) = x * (1 + by') := IntWalk.i64_in _ ⟨by omega, by omega⟩
      clear hx hstep hbx hb
      go_wp2_with fail
      exact ⟨⟨k + 1, by omega, by go_num, up_set (unhide HB) hg _, unhide HST⟩, by simp [intOf]; omega⟩
    · obtain rfl : k = n := by omega
      have hlen : (scl (1 + by') k qs).length = k := by rw [scl_length, unhide HN]
      have hok : okL (scl (1 + by') k qs) = true := by
        have := okL_scl (c := 1 + by') (ps := qs) (by omega) (by omega) (unhide HQB)
        rwa [unhide HN] at this
      obtain ⟨rs, hrs⟩ : ∃ rs, scl (1 + by') k qs = rs := ⟨_, rfl⟩
      rw [hrs] at hlen hok hbx
      have hP := pts_bx hbx
      have hE : wayE rs = 0 := by unfold wayE; rw [if_pos (by omega), if_pos hok, if_pos (by omega)]
      obtain ⟨_, _, _, wV, wl, wh⟩ := way_ok hE
      rw [hlen] at wV
      obtain ⟨L, hL⟩ : ∃ L, wayV rs = L := ⟨_, rfl⟩
      have PL : ∀ W : World, Pts W (some ⟨g, 0, none⟩) rs → Calls Try.prog 31 #[.slice (some ⟨g, 0, none⟩) k c1] W fun e w' => e = .returned (.tuple #[.int .i64 L, .int .i64 0]) ∧ Up W w' := fun W hW => by
        have q := p_Length (some ⟨g, 0, none⟩) rs c1 W hW (by omega)
        rwa [hlen, hE, hL] at q
      have PI : ∀ s, 0 ≤ s → s ≤ L → ∀ W : World, Pts W (some ⟨g, 0, none⟩) rs → Calls Try.prog 32 #[.slice (some ⟨g, 0, none⟩) k c1, .int .i64 s] W fun e w' => e = .returned (.tuple #[pt (atT rs (k - 1) 0 s).1 (atT rs (k - 1) 0 s).2.1, .int .i64 (atT rs (k - 1) 0 s).2.2, .int .i64 0]) ∧ Up W w' := fun s s0 s1 W hW => by
        have q := p_Along (some ⟨g, 0, none⟩) rs c1 s W hW (by omega)
        unfold alT alE at q
        rwa [if_pos hE, if_pos (by omega), if_pos hE, if_pos (by omega), hlen] at q
      have PO : ∀ W : World, Pts W (some ⟨g, 0, none⟩) rs → Calls Try.prog 32 #[.slice (some ⟨g, 0, none⟩) k c1, .int .i64 (L + 1)] W fun e w' => e = .returned (.tuple #[pt 0 0, .int .i64 0, .int .i64 3]) ∧ Up W w' := fun W hW => by
        have q := p_Along (some ⟨g, 0, none⟩) rs c1 (L + 1) W hW (by omega)
        unfold alT alE at q
        rwa [if_pos hE, if_neg (by omega), if_pos hE, if_neg (by omega), hlen] at q
      have f1 := at_first rs (k - 1)
      have f2 := at_last rs (k - 1)
      rw [← wV, hL] at f2
      have P0 := PI 0 (by omega) (by omega)
      have P1 := PI L (by omega) (by omega)
      rw [f1.1, f1.2] at P0
      rw [f2.1, f2.2] at P1
      have g0 := cellsPl_at (ps := rs) (k := 0) (by omega)
      have g1 := cellsPl_at (ps := rs) (k := k - 1) (by omega)
      have x00 : rs[0].1 = px rs 0 := by simp [px, List.getD_eq_getElem?_getD, List.getElem?_eq_getElem (show 0 < rs.length by omega)]
      have y00 : rs[0].2 = py rs 0 := by simp [py, List.getD_eq_getElem?_getD, List.getElem?_eq_getElem (show 0 < rs.length by omega)]
      have x01 : rs[k - 1].1 = px rs (k - 1) := by simp [px, List.getD_eq_getElem?_getD, List.getElem?_eq_getElem (show k - 1 < rs.length by omega)]
      have y01 : rs[k - 1].2 = py rs (k - 1) := by simp [py, List.getD_eq_getElem?_getD, List.getElem?_eq_getElem (show k - 1 < rs.length by omega)]
      rw [x00, y00] at g0
      rw [x01, y01] at g1
      have c0 := (hbx _ _ g0.1).1
      have c1' := (hbx _ _ g0.2).1
      have c2 := (hbx _ _ g1.1).1
      have c3 := (hbx _ _ g1.2).1
      simp only [Nat.zero_mul, Nat.zero_add] at c0 c1'
      rw [hL] at wl wh
      have HP := hide hP
      have HB := hide hb
      by_cases hz : L = 0
      · subst hz
        obtain ⟨T3, hT3⟩ : ∃ T, (atT rs (k - 1) 0 0).2.2 = T := ⟨_, rfl⟩
        rw [hT3] at P0 P1
        obtain ⟨x0, hx0⟩ : ∃ x, px rs 0 = x := ⟨_, rfl⟩
        obtain ⟨y0, hy0⟩ : ∃ x, py rs 0 = x := ⟨_, rfl⟩
        obtain ⟨xn, hxn⟩ : ∃ x, px rs (k - 1) = x := ⟨_, rfl⟩
        obtain ⟨yn, hyn⟩ : ∃ x, py rs (k - 1) = x := ⟨_, rfl⟩
        rw [hx0] at P0 c0
        rw [hy0] at P0 c1'
        rw [hxn] at P1 c2
        rw [hyn] at P1 c3
        rw [Int.zero_add] at PO
        have hxe : xn = x0 := by rw [← hxn, ← hx0, ← f2.1, ← f1.1]
        have hye : yn = y0 := by rw [← hyn, ← hy0, ← f2.2, ← f1.2]
        subst hxe hye
        have HPL := hide PL
        have HP0 := hide P0
        have HPO := hide PO
        have k1 : (0 : Int) < (k : Int) := by omega
        have k2 : IntKind.i64.wrap ((k : Int) - 1) = (k : Int) - 1 := IntWalk.i64_in _ ⟨by omega, by omega⟩
        have k3 : (0 : Int) ≤ (k : Int) - 1 := by omega
        have k4 : (k : Int) - 1 < (k : Int) := by omega
        have e3 : ((k : Int) - 1).toNat = k - 1 := by omega
        have k6 : (1 : Int) ≤ (k : Int) := by omega
        have k7 : k - 1 < k := by omega
        have k8 : ¬ (k : Int) ≤ 0 := by omega
        clear PL PI PO P0 P1 f1 f2 g0 g1 x00 y00 x01 y01 hx0 hy0 hxn hyn hT3 hbx hP hb hE wV hL hok
        go_wp2_with (first
          | (go_at_call 31; (with_reducible refine (unhide HPL _ (pts_up (unhide HP) (by repeat' (first | (with_reducible exact up_refl _) | (with_reducible assumption) | (with_reducible refine up_alloc ?_ _) | (with_reducible refine up_drewN ?_ _) | (with_reducible refine up_drew ?_) | (with_reducible refine up_set ?_ (by first | (simp; done) | (simp; omega) | omega) _) | (refine up_trans ?_ (by with_reducible assumption)))))).mono ?_); rintro e w2 ⟨rfl, hb2⟩; have tok1 : True := trivial)
          | (go_at_call 32; (with_reducible refine (unhide HPO _ (pts_up (unhide HP) (by repeat' (first | (with_reducible exact up_refl _) | (with_reducible assumption) | (with_reducible refine up_alloc ?_ _) | (with_reducible refine up_drewN ?_ _) | (with_reducible refine up_drew ?_) | (with_reducible refine up_set ?_ (by first | (simp; done) | (simp; omega) | omega) _) | (refine up_trans ?_ (by with_reducible assumption)))))).mono ?_); rintro e w5 ⟨rfl, hb5⟩; have hU : Up wr w5 := (by repeat' (first | (with_reducible exact up_refl _) | (with_reducible assumption) | (with_reducible refine up_alloc ?_ _) | (with_reducible refine up_drewN ?_ _) | (with_reducible refine up_drew ?_) | (with_reducible refine up_set ?_ (by first | (simp; done) | (simp; omega) | omega) _) | (refine up_trans ?_ (by with_reducible assumption)))); have j0 := up_cell hb5 (alloc_cell _ i0); have j1 := up_cell hb5 (alloc_cell _ i1); have j2 : w5.cell? ⟨w4.heap.size, 0, none⟩ = some (.int .i64 xn) := up_cell hb5 (by go_cell); have j3 : w5.cell? ⟨w4.heap.size, 1, none⟩ = some (.int .i64 yn) := up_cell hb5 (by go_cell); have m0 := fun o => alloc_cell o (up_cell hU c0); have m1 := fun o => alloc_cell o (up_cell hU c1'); have m2 := fun o => alloc_cell o (up_cell hU c2); have m3 := fun o => alloc_cell o (up_cell hU c3); have r0 := fun o => alloc_cell o j0; have r1 := fun o => alloc_cell o j1; have r2 := fun o => alloc_cell o j2; have r3 := fun o => alloc_cell o j3)
          | (go_at_call 32; clear tok1; (with_reducible refine (unhide HP0 _ (pts_up (unhide HP) (by repeat' (first | (with_reducible exact up_refl _) | (with_reducible assumption) | (with_reducible refine up_alloc ?_ _) | (with_reducible refine up_drewN ?_ _) | (with_reducible refine up_drew ?_) | (with_reducible refine up_set ?_ (by first | (simp; done) | (simp; omega) | omega) _) | (refine up_trans ?_ (by with_reducible assumption)))))).mono ?_); rintro e w3 ⟨rfl, hb3⟩; have tok2 : True := trivial)
          | (go_at_call 32; clear tok2; (with_reducible refine (unhide HP0 _ (pts_up (unhide HP) (by repeat' (first | (with_reducible exact up_refl _) | (with_reducible assumption) | (with_reducible refine up_alloc ?_ _) | (with_reducible refine up_drewN ?_ _) | (with_reducible refine up_drew ?_) | (with_reducible refine up_set ?_ (by first | (simp; done) | (simp; omega) | omega) _) | (refine up_trans ?_ (by with_reducible assumption)))))).mono ?_); rintro e w4 ⟨rfl, hb4⟩; have i0 : w4.cell? ⟨w3.heap.size, 0, none⟩ = some (.int .i64 xn) := up_cell hb4 (by go_cell); have i1 : w4.cell? ⟨w3.heap.size, 1, none⟩ = some (.int .i64 yn) := up_cell hb4 (by go_cell)))
        go_quiet (fail)
        all_goals go_wp2_with (first
          | (go_at_call 9; refine (l_works _).mono ?_; rintro e w9 ⟨rfl, hb9⟩))
        all_goals exact bodyPost_ret (v := .bool true) (by simp [results, Try.results8, go_sem]) rfl ⟨rfl, up_trans (unhide HB) (by repeat' (first | (with_reducible exact up_refl _) | (with_reducible assumption) | (with_reducible refine up_alloc ?_ _) | (with_reducible refine up_drewN ?_ _) | (with_reducible refine up_drew ?_) | (with_reducible refine up_set ?_ (by first | (simp; done) | (simp; omega) | omega) _) | (refine up_trans ?_ (by with_reducible assumption))))⟩
      · obtain ⟨S, hS⟩ : ∃ S, at'.tmod L = S := ⟨_, rfl⟩
        have s0 : 0 ≤ S := by rw [← hS]; exact Int.tmod_nonneg _ a1
        have s1 : S + 1 ≤ L := by
          have := Int.tmod_lt_of_pos at' (b := L) (by omega)
          omega
        have PS := PI S s0 (by omega)
        have PT := PI (S + 1) (by omega) (by omega)
        have nx := at_next rs (k - 1) S s0 (by rw [← wV, hL]; exact s1)
        obtain ⟨T1, hT1⟩ : ∃ T, atT rs (k - 1) 0 S = T := ⟨_, rfl⟩
        obtain ⟨T2, hT2⟩ : ∃ T, atT rs (k - 1) 0 (S + 1) = T := ⟨_, rfl⟩
        obtain ⟨T3, hT3⟩ : ∃ T, (atT rs (k - 1) 0 0).2.2 = T := ⟨_, rfl⟩
        obtain ⟨T4, hT4⟩ : ∃ T, (atT rs (k - 1) 0 L).2.2 = T := ⟨_, rfl⟩
        rw [hT1] at PS nx
        rw [hT2] at PT nx
        rw [hT3] at P0
        rw [hT4] at P1
        obtain ⟨X1, Y1, Z1⟩ := T1
        obtain ⟨X2, Y2, Z2⟩ := T2
        simp only at PS PT nx
        obtain ⟨x0, hx0⟩ : ∃ x, px rs 0 = x := ⟨_, rfl⟩
        obtain ⟨y0, hy0⟩ : ∃ x, py rs 0 = x := ⟨_, rfl⟩
        obtain ⟨xn, hxn⟩ : ∃ x, px rs (k - 1) = x := ⟨_, rfl⟩
        obtain ⟨yn, hyn⟩ : ∃ x, py rs (k - 1) = x := ⟨_, rfl⟩
        rw [hx0] at P0 c0
        rw [hy0] at P0 c1'
        rw [hxn] at P1 c2
        rw [hyn] at P1 c3
        have HPL := hide PL
        have HP0 := hide P0
        have HP1 := hide P1
        have HPO := hide PO
        have HPS := hide PS
        have HPT := hide PT
        have e2 := unhide E2
        obtain ⟨n1, n2, n3, n4⟩ := nx
        have n3' : Z2 < (k : Int) := by omega
        have e3 : ((k : Int) - 1).toNat = k - 1 := by omega
        have k1 : (0 : Int) < (k : Int) := by omega
        have k2 : IntKind.i64.wrap ((k : Int) - 1) = (k : Int) - 1 := IntWalk.i64_in _ ⟨by omega, by omega⟩
        have k3 : (0 : Int) ≤ (k : Int) - 1 := by omega
        have k4 : (k : Int) - 1 < (k : Int) := by omega
        have k5 : ¬ L < 0 := by omega
        have k6 : (1 : Int) ≤ (k : Int) := by omega
        have k7 : k - 1 < k := by omega
        have k8 : ¬ (k : Int) ≤ 0 := by omega
        by_cases hZ : Z1 = Z2
        · subst hZ
          have n5 := n4 rfl
          have d1 : IntKind.i64.wrap (X1 - X2) = X1 - X2 := IntWalk.i64_in _ ⟨by omega, by omega⟩
          have d2 : IntKind.i64.wrap (X2 - X1) = X2 - X1 := IntWalk.i64_in _ ⟨by omega, by omega⟩
          have d3 : IntKind.i64.wrap (Y1 - Y2) = Y1 - Y2 := IntWalk.i64_in _ ⟨by omega, by omega⟩
          have d4 : IntKind.i64.wrap (Y2 - Y1) = Y2 - Y1 := IntWalk.i64_in _ ⟨by omega, by omega⟩
          have MX := fun (ts : Array TypeId) (t : TypeId) (W : World) => run_max4 (P := Try.prog) ts t (X1 - X2) (X2 - X1) (Y1 - Y2) (Y2 - Y1) W
          have hM2 : mx (mx (mx (X1 - X2) (X2 - X1)) (Y1 - Y2)) (Y2 - Y1) ≤ 2 := mx_le (mx_le (mx_le (by omega) (by omega)) (by omega)) (by omega)
          obtain ⟨M, hM⟩ : ∃ M, mx (mx (mx (X1 - X2) (X2 - X1)) (Y1 - Y2)) (Y2 - Y1) = M := ⟨_, rfl⟩
          simp only [hM] at MX
          rw [hM] at hM2
          clear n5 hM
          clear PL PI PO P0 P1 PS PT f1 f2 g0 g1 x00 y00 x01 y01 hx0 hy0 hxn hyn hT1 hT2 hT3 hT4 hbx hP hb hE wV hL hok n4
          go_wp2_with (first
            | (go_at_call 31; (with_reducible refine (unhide HPL _ (pts_up (unhide HP) (by repeat' (first | (with_reducible exact up_refl _) | (with_reducible assumption) | (with_reducible refine up_alloc ?_ _) | (with_reducible refine up_drewN ?_ _) | (with_reducible refine up_drew ?_) | (with_reducible refine up_set ?_ (by first | (simp; done) | (simp; omega) | omega) _) | (refine up_trans ?_ (by with_reducible assumption)))))).mono ?_); rintro e w2 ⟨rfl, hb2⟩)
            | (go_at_call 32; (with_reducible refine (unhide HP0 _ (pts_up (unhide HP) (by repeat' (first | (with_reducible exact up_refl _) | (with_reducible assumption) | (with_reducible refine up_alloc ?_ _) | (with_reducible refine up_drewN ?_ _) | (with_reducible refine up_drew ?_) | (with_reducible refine up_set ?_ (by first | (simp; done) | (simp; omega) | omega) _) | (refine up_trans ?_ (by with_reducible assumption)))))).mono ?_); rintro e w3 ⟨rfl, hb3⟩)
            | (go_at_call 32; (with_reducible refine (unhide HP1 _ (pts_up (unhide HP) (by repeat' (first | (with_reducible exact up_refl _) | (with_reducible assumption) | (with_reducible refine up_alloc ?_ _) | (with_reducible refine up_drewN ?_ _) | (with_reducible refine up_drew ?_) | (with_reducible refine up_set ?_ (by first | (simp; done) | (simp; omega) | omega) _) | (refine up_trans ?_ (by with_reducible assumption)))))).mono ?_); rintro e w4 ⟨rfl, hb4⟩; have i0 : w4.cell? ⟨w3.heap.size, 0, none⟩ = some (.int .i64 x0) := up_cell hb4 (by go_cell); have i1 : w4.cell? ⟨w3.heap.size, 1, none⟩ = some (.int .i64 y0) := up_cell hb4 (by go_cell))
            | (go_at_call 32; (with_reducible refine (unhide HPO _ (pts_up (unhide HP) (by repeat' (first | (with_reducible exact up_refl _) | (with_reducible assumption) | (with_reducible refine up_alloc ?_ _) | (with_reducible refine up_drewN ?_ _) | (with_reducible refine up_drew ?_) | (with_reducible refine up_set ?_ (by first | (simp; done) | (simp; omega) | omega) _) | (refine up_trans ?_ (by with_reducible assumption)))))).mono ?_); rintro e w5 ⟨rfl, hb5⟩; have hU : Up wr w5 := (by repeat' (first | (with_reducible exact up_refl _) | (with_reducible assumption) | (with_reducible refine up_alloc ?_ _) | (with_reducible refine up_drewN ?_ _) | (with_reducible refine up_drew ?_) | (with_reducible refine up_set ?_ (by first | (simp; done) | (simp; omega) | omega) _) | (refine up_trans ?_ (by with_reducible assumption)))); have j0 := up_cell hb5 (alloc_cell _ i0); have j1 := up_cell hb5 (alloc_cell _ i1); have j2 : w5.cell? ⟨w4.heap.size, 0, none⟩ = some (.int .i64 xn) := up_cell hb5 (by go_cell); have j3 : w5.cell? ⟨w4.heap.size, 1, none⟩ = some (.int .i64 yn) := up_cell hb5 (by go_cell); have m0 := fun o => alloc_cell o (up_cell hU c0); have m1 := fun o => alloc_cell o (up_cell hU c1'); have m2 := fun o => alloc_cell o (up_cell hU c2); have m3 := fun o => alloc_cell o (up_cell hU c3); have r0 := fun o => alloc_cell o j0; have r1 := fun o => alloc_cell o j1; have r2 := fun o => alloc_cell o j2; have r3 := fun o => alloc_cell o j3))
          go_quiet (fail)
          all_goals go_wp2_with (first
            | (go_at_call 32; (with_reducible refine (unhide HPS _ (pts_up (unhide HP) (by repeat' (first | (with_reducible exact up_refl _) | (with_reducible assumption) | (with_reducible refine up_alloc ?_ _) | (with_reducible refine up_drewN ?_ _) | (with_reducible refine up_drew ?_) | (with_reducible refine up_set ?_ (by first | (simp; done) | (simp; omega) | omega) _) | (refine up_trans ?_ (by with_reducible assumption)))))).mono ?_); rintro e w6 ⟨rfl, hb6⟩)
            | (go_at_call 32; (with_reducible refine (unhide HPT _ (pts_up (unhide HP) (by repeat' (first | (with_reducible exact up_refl _) | (with_reducible assumption) | (with_reducible refine up_alloc ?_ _) | (with_reducible refine up_drewN ?_ _) | (with_reducible refine up_drew ?_) | (with_reducible refine up_set ?_ (by first | (simp; done) | (simp; omega) | omega) _) | (refine up_trans ?_ (by with_reducible assumption)))))).mono ?_); rintro e w7 ⟨rfl, hb7⟩; have u0 : w7.cell? ⟨w6.heap.size, 0, none⟩ = some (.int .i64 X1) := up_cell hb7 (by go_cell); have u1 : w7.cell? ⟨w6.heap.size, 1, none⟩ = some (.int .i64 Y1) := up_cell hb7 (by go_cell); have u2 := fun o => alloc_cell o u0; have u3 := fun o => alloc_cell o u1)
            | (go_at_call 9; refine (l_works _).mono ?_; rintro e w9 ⟨rfl, hb9⟩))
          all_goals exact bodyPost_ret (v := .bool true) (by simp [results, Try.results8, go_sem]) rfl ⟨rfl, up_trans (unhide HB) (by repeat' (first | (with_reducible exact up_refl _) | (with_reducible assumption) | (with_reducible refine up_alloc ?_ _) | (with_reducible refine up_drewN ?_ _) | (with_reducible refine up_drew ?_) | (with_reducible refine up_set ?_ (by first | (simp; done) | (simp; omega) | omega) _) | (refine up_trans ?_ (by with_reducible assumption))))⟩
        · have hZ2 : (Z1 == Z2) = false := by simp; exact hZ
          have HZ := hide hZ
          clear hZ
          clear PL PI PO P0 P1 PS PT f1 f2 g0 g1 x00 y00 x01 y01 hx0 hy0 hxn hyn hT1 hT2 hT3 hT4 hbx hP hb hE wV hL hok n4
          go_wp2_with (first
            | (go_at_call 31; (with_reducible refine (unhide HPL _ (pts_up (unhide HP) (by repeat' (first | (with_reducible exact up_refl _) | (with_reducible assumption) | (with_reducible refine up_alloc ?_ _) | (with_reducible refine up_drewN ?_ _) | (with_reducible refine up_drew ?_) | (with_reducible refine up_set ?_ (by first | (simp; done) | (simp; omega) | omega) _) | (refine up_trans ?_ (by with_reducible assumption)))))).mono ?_); rintro e w2 ⟨rfl, hb2⟩)
            | (go_at_call 32; (with_reducible refine (unhide HP0 _ (pts_up (unhide HP) (by repeat' (first | (with_reducible exact up_refl _) | (with_reducible assumption) | (with_reducible refine up_alloc ?_ _) | (with_reducible refine up_drewN ?_ _) | (with_reducible refine up_drew ?_) | (with_reducible refine up_set ?_ (by first | (simp; done) | (simp; omega) | omega) _) | (refine up_trans ?_ (by with_reducible assumption)))))).mono ?_); rintro e w3 ⟨rfl, hb3⟩)
            | (go_at_call 32; (with_reducible refine (unhide HP1 _ (pts_up (unhide HP) (by repeat' (first | (with_reducible exact up_refl _) | (with_reducible assumption) | (with_reducible refine up_alloc ?_ _) | (with_reducible refine up_drewN ?_ _) | (with_reducible refine up_drew ?_) | (with_reducible refine up_set ?_ (by first | (simp; done) | (simp; omega) | omega) _) | (refine up_trans ?_ (by with_reducible assumption)))))).mono ?_); rintro e w4 ⟨rfl, hb4⟩; have i0 : w4.cell? ⟨w3.heap.size, 0, none⟩ = some (.int .i64 x0) := up_cell hb4 (by go_cell); have i1 : w4.cell? ⟨w3.heap.size, 1, none⟩ = some (.int .i64 y0) := up_cell hb4 (by go_cell))
            | (go_at_call 32; (with_reducible refine (unhide HPO _ (pts_up (unhide HP) (by repeat' (first | (with_reducible exact up_refl _) | (with_reducible assumption) | (with_reducible refine up_alloc ?_ _) | (with_reducible refine up_drewN ?_ _) | (with_reducible refine up_drew ?_) | (with_reducible refine up_set ?_ (by first | (simp; done) | (simp; omega) | omega) _) | (refine up_trans ?_ (by with_reducible assumption)))))).mono ?_); rintro e w5 ⟨rfl, hb5⟩; have hU : Up wr w5 := (by repeat' (first | (with_reducible exact up_refl _) | (with_reducible assumption) | (with_reducible refine up_alloc ?_ _) | (with_reducible refine up_drewN ?_ _) | (with_reducible refine up_drew ?_) | (with_reducible refine up_set ?_ (by first | (simp; done) | (simp; omega) | omega) _) | (refine up_trans ?_ (by with_reducible assumption)))); have j0 := up_cell hb5 (alloc_cell _ i0); have j1 := up_cell hb5 (alloc_cell _ i1); have j2 : w5.cell? ⟨w4.heap.size, 0, none⟩ = some (.int .i64 xn) := up_cell hb5 (by go_cell); have j3 : w5.cell? ⟨w4.heap.size, 1, none⟩ = some (.int .i64 yn) := up_cell hb5 (by go_cell); have m0 := fun o => alloc_cell o (up_cell hU c0); have m1 := fun o => alloc_cell o (up_cell hU c1'); have m2 := fun o => alloc_cell o (up_cell hU c2); have m3 := fun o => alloc_cell o (up_cell hU c3); have r0 := fun o => alloc_cell o j0; have r1 := fun o => alloc_cell o j1; have r2 := fun o => alloc_cell o j2; have r3 := fun o => alloc_cell o j3))
          go_quiet (fail)
          all_goals go_wp2_with (first
            | (go_at_call 32; (with_reducible refine (unhide HPS _ (pts_up (unhide HP) (by repeat' (first | (with_reducible exact up_refl _) | (with_reducible assumption) | (with_reducible refine up_alloc ?_ _) | (with_reducible refine up_drewN ?_ _) | (with_reducible refine up_drew ?_) | (with_reducible refine up_set ?_ (by first | (simp; done) | (simp; omega) | omega) _) | (refine up_trans ?_ (by with_reducible assumption)))))).mono ?_); rintro e w6 ⟨rfl, hb6⟩)
            | (go_at_call 32; (with_reducible refine (unhide HPT _ (pts_up (unhide HP) (by repeat' (first | (with_reducible exact up_refl _) | (with_reducible assumption) | (with_reducible refine up_alloc ?_ _) | (with_reducible refine up_drewN ?_ _) | (with_reducible refine up_drew ?_) | (with_reducible refine up_set ?_ (by first | (simp; done) | (simp; omega) | omega) _) | (refine up_trans ?_ (by with_reducible assumption)))))).mono ?_); rintro e w7 ⟨rfl, hb7⟩; have u0 : w7.cell? ⟨w6.heap.size, 0, none⟩ = some (.int .i64 X1) := up_cell hb7 (by go_cell); have u1 : w7.cell? ⟨w6.heap.size, 1, none⟩ = some (.int .i64 Y1) := up_cell hb7 (by go_cell); have u2 := fun o => alloc_cell o u0; have u3 := fun o => alloc_cell o u1)
            | (go_at_call 9; refine (l_works _).mono ?_; rintro e w9 ⟨rfl, hb9⟩))
          all_goals exact bodyPost_ret (v := .bool true) (by simp [results, Try.results8, go_sem]) rfl ⟨rfl, up_trans (unhide HB) (by repeat' (first | (with_reducible exact up_refl _) | (with_reducible assumption) | (with_reducible refine up_alloc ?_ _) | (with_reducible refine up_drewN ?_ _) | (with_reducible refine up_drew ?_) | (with_reducible refine up_set ?_ (by first | (simp; done) | (simp; omega) | omega) _) | (refine up_trans ?_ (by with_reducible assumption))))⟩
theorem smalls_bd {W : World} {A : Option Addr} {ps : Pl} (h : Smalls W A ps) : ∀ p ∈ ps, (-128 ≤ p.1 ∧ p.1 ≤ 127) ∧ (-128 ≤ p.2 ∧ p.2 ≤ 127) := by
  intro p hp
  rcases h with rfl | ⟨b, off, _, hc⟩
  · simp at hp
  · obtain ⟨k, hk, rfl⟩ := List.mem_iff_getElem.1 hp
    exact (hc k hk).2.2
theorem l_Along (A : Option Addr) (ps : Pl) (cap : Nat) (at' by' : Int) (w : World) (h : Smalls w A ps) (hn : ps.length ≤ 9223372036854775807) (a1 : 0 ≤ at') (a2 : at' ≤ 65535) (b1 : 0 ≤ by') (b2 : by' ≤ 255) :
    Calls Try.prog 8 #[.slice A ps.length cap, .int .u16 at', .int .u8 by'] w fun e w' => e = .returned (.bool true) ∧ Below w.heap.size w w' := by
  by_cases h0 : (ps.take 12).length = 0
  · exact l_Along_none A ps cap at' by' w h hn h0
  · exact l_Along_some A ps cap at' by' w h hn _ rfl (by omega) (by simp; omega) (fun p hp => smalls_bd h p (List.mem_of_mem_take hp)) a1 a2 b1 b2
end Go.Proofs.Ytcheojkjcncfkaa
