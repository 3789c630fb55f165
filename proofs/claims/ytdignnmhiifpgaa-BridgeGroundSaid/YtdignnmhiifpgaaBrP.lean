/- The wear of pavements. -/
import Derived.Test.YtdignnmhiifpgaaBrL
namespace Go.Proofs.Ytdignnmhiifpgaa
open Go.RowKit Go.Proofs.Gn
set_option linter.unusedVariables false
def up6 (n d : Int) : Int := (n + d - 1) / d
theorem up6_bd {n d : Int} (hn : 0 ≤ n) (hd : 1 ≤ d) : 0 ≤ up6 n d ∧ up6 n d ≤ n := by
  unfold up6
  have h0 : 0 ≤ (n + d - 1) / d := Int.ediv_nonneg (by omega) (by omega)
  refine ⟨h0, ?_⟩
  by_cases h : n = 0
  · subst h
    have : (0 + d - 1) / d = 0 := Int.ediv_eq_zero_of_lt (by omega) (by omega)
    omega
  · have : (n + d - 1) / d ≤ n := by
      rw [Int.ediv_le_iff_le_mul (by omega)]
      have : 0 ≤ (n - 1) * (d - 1) := Int.mul_nonneg (by omega) (by omega)
      rw [Int.sub_mul, Int.mul_sub, Int.mul_sub] at this
      omega
    exact this
theorem p_up6 (n d : Int) (w : World) (hn : 0 ≤ n ∧ n ≤ 4611686018427387904) (hd : 1 ≤ d ∧ d ≤ 2305843009213693952) :
    Calls Try.prog 41 #[.int .i64 n, .int .i64 d] w fun e w' => e = .returned (.int .i64 (up6 n d)) ∧ w = w' := by
  have w1 : IntKind.i64.wrap (n + d) = n + d := IntWalk.i64_in _ ⟨by omega, by omega⟩
  have w2 : IntKind.i64.wrap (n + d - 1) = n + d - 1 := IntWalk.i64_in _ ⟨by omega, by omega⟩
  have e1 : (n + d - 1).tdiv d = up6 n d := by unfold up6; exact Int.tdiv_eq_ediv_of_nonneg (by omega)
  have b := up6_bd hn.1 hd.1
  have w3 : IntKind.i64.wrap (up6 n d) = up6 n d := IntWalk.i64_in _ ⟨by omega, by omega⟩
  have w4 : IntKind.i64.wrap ((n + d - 1).tdiv d) = up6 n d := by rw [e1]; exact w3
  have d0 : d ≠ 0 := by omega
  have d1 : (d == 0) = false := by simp; omega
  clear b hn hd
  generalize up6 n d = u at *
  go_enter Try.func41, Try.ntmps41
  go_wp2
  go_ret
  exact ⟨by first | rfl | (rw [w4]; rfl) | (rw [e1]; rfl), rfl⟩
/-- The wear, power after power, up to where it is too much. -/
def wrL (r : Int) : Nat → Int → Int
  | 0, w => w
  | n + 1, w => if w ≤ 1073741824 then wrL r n (up6 (w * r) 1000) else w
structure Pav where
  ld : Int
  lf : Int
  pw : Int
def pvV (p : Pav) : Value := .agg #[.int .i64 p.ld, .int .i64 p.lf, .int .i64 p.pw]
def wrF (p : Pav) (l : Int) : Int := wrL (up6 (l * 1000) p.ld) (p.pw - 1).toNat (up6 (l * 1000) p.ld)
theorem wrL_bd {r : Int} (hr : 0 ≤ r ∧ r ≤ 1073741824) : ∀ n w, 0 ≤ w ∧ w ≤ 1152921504606846976 → 0 ≤ wrL r n w ∧ wrL r n w ≤ 1152921504606846976
  | 0, w, h => h
  | n + 1, w, h => by
    unfold wrL
    split
    · rename_i hw
      have m : 0 ≤ w * r ∧ w * r ≤ 1073741824 * 1073741824 := ⟨Int.mul_nonneg h.1 hr.1, Int.mul_le_mul hw hr.2 hr.1 (by omega)⟩
      have u := up6_bd (n := w * r) (d := 1000) m.1 (by omega)
      exact wrL_bd hr n _ ⟨u.1, by omega⟩
    · exact h
set_option maxRecDepth 100000 in
theorem p_wear (p : Pav) (l : Int) (w : World) (hp : 1 ≤ p.ld ∧ p.ld ≤ 1048576) (hw : 1 ≤ p.pw ∧ p.pw ≤ 6) (hl : 0 ≤ l ∧ l ≤ 1048576) :
    Calls Try.prog 70 #[pvV p, .int .i64 l] w fun e w' => e = .returned (.int .i64 (wrF p l)) ∧ Up w w' := by
  unfold wrF pvV
  have hU := hide (fun W => p_up6 (l * 1000) p.ld W ⟨by omega, by omega⟩ ⟨hp.1, by omega⟩)
  have hm : IntKind.i64.wrap (l * 1000) = l * 1000 := IntWalk.i64_in _ ⟨by omega, by omega⟩
  have hb := up6_bd (n := l * 1000) (d := p.ld) (by omega) hp.1
  obtain ⟨r, hr⟩ : ∃ r, up6 (l * 1000) p.ld = r := ⟨_, rfl⟩
  rw [hr] at hU hb ⊢
  have hrb : 0 ≤ r ∧ r ≤ 1073741824 := by omega
  obtain ⟨ld, lf, pw⟩ := p
  dsimp only at *
  obtain ⟨P, rfl⟩ : ∃ P : Nat, pw = (P : Int) := ⟨pw.toNat, by omega⟩
  have hP : ((P : Int) - 1).toNat = P - 1 := by omega
  rw [hP]
  obtain ⟨V, hV⟩ : ∃ V, wrL r (P - 1) r = V := ⟨_, rfl⟩
  rw [hV]
  have HV := hide hV
  clear hV hr hb hP
  have hUp := hide (fun (x : Int) (W : World) (h0 : 0 ≤ x) (h1 : x ≤ 1073741824) => p_up6 (x * r) 1000 W ⟨Int.mul_nonneg h0 hrb.1, by have := Int.mul_le_mul h1 hrb.2 hrb.1 (by omega); omega⟩ ⟨by omega, by omega⟩)
  go_enter Try.func70, Try.ntmps70
  go_upto_region 1 with fail
  refine at_wpB (fun W hW => ?_)
  have hB : Bx W w.heap.size [.int .i64 ld, .int .i64 lf, .int .i64 P] := by rw [hW]; exact bx_new w _ _
  have U : Up w W := by rw [hW]; exact (by repeat' (first | (with_reducible exact up_refl _) | (with_reducible assumption) | (with_reducible refine up_alloc ?_ _) | (with_reducible refine up_drewN ?_ _) | (with_reducible refine up_drew ?_) | (with_reducible refine up_set ?_ (by first | (simp; done) | (simp; omega) | omega) _) | (refine up_trans ?_ (by with_reducible assumption))))
  obtain ⟨c0, c1, c2⟩ := bx3 hB
  clear hW hB
  go_upto_region 4 with (go_at_call 41; (with_reducible refine (unhide hU _).mono ?_); rintro e w1 ⟨rfl, rfl⟩)
  obtain ⟨wo, hwo⟩ : ∃ wo, wo = W := ⟨_, rfl⟩
  rw [← hwo]
  rw [← hwo] at U c0 c1 c2
  clear hwo
  go_loopw [6, 7] (fun s6 s7 wr => ∃ (i : Nat) (x : Int), 1 ≤ i ∧ i ≤ P ∧ s7 = .int .i64 i ∧ s6 = .int .i64 x ∧ (0 ≤ x ∧ x ≤ 1152921504606846976) ∧ Hid (wrL r (P - i) x = V) ∧ wr = wo) (fun _ s7 _ => P - (intOf s7).toNat)
  case atStart => exact ⟨1, r, by omega, by omega, rfl, rfl, by omega, HV, rfl⟩
  case round =>
    obtain ⟨i, x, hi1, hi2, rfl, rfl, hx, HX, rfl⟩ := hrel
    by_cases hlt : i < P
    · have i1 : (i : Int) < (P : Int) := by omega
      obtain ⟨m, hm2⟩ : ∃ m, P - i = m + 1 := ⟨P - i - 1, by omega⟩
      have hm3 : P - (i + 1) = m := by omega
      rw [hm2] at HX
      by_cases hxx : x ≤ 1073741824
      · have hX2 : wrL r m (up6 (x * r) 1000) = V := by have t := unhide HX; unfold wrL at t; rwa [if_pos hxx] at t
        have HX2 := hide hX2
        have mm : 0 ≤ x * r ∧ x * r ≤ 1073741824 * 1073741824 := ⟨Int.mul_nonneg hx.1 hrb.1, Int.mul_le_mul hxx hrb.2 hrb.1 (by omega)⟩
        have ub := up6_bd (n := x * r) (d := 1000) mm.1 (by omega)
        have HUp := hide (fun W => unhide hUp x W hx.1 hxx)
        obtain ⟨y, hy⟩ : ∃ y, x * r = y := ⟨_, rfl⟩
        obtain ⟨u, hu⟩ : ∃ u, up6 (x * r) 1000 = u := ⟨_, rfl⟩
        rw [hu] at ub HUp HX2
        have wy : IntKind.i64.wrap (x * r) = x * r := IntWalk.i64_in _ ⟨by omega, by omega⟩
        have wi : IntKind.i64.wrap ((i : Int) + 1) = (i : Int) + 1 := IntWalk.i64_in _ ⟨by omega, by omega⟩
        have hub : 0 ≤ u ∧ u ≤ 1152921504606846976 := by omega
        clear ub mm hX2 HX hu hy
        go_wp2_with (go_at_call 41; (with_reducible refine (unhide HUp _).mono ?_); rintro e w1 ⟨rfl, rfl⟩)
        go_roundw
        case rel => exact ⟨i + 1, u, by omega, by omega, by go_num, rfl, hub, by rw [hm3]; exact HX2, by first | rfl | trivial⟩
        case measure => simp [intOf]; omega
      · have hX2 : x = V := by have t := unhide HX; unfold wrL at t; rwa [if_neg hxx] at t
        have HX2 := hide hX2
        have d1 : decide (x ≤ 1073741824) = false := decide_eq_false hxx
        clear hX2 HX
        go_wp2
        go_ret
        exact ⟨by rw [← unhide HX2]; rfl, U⟩
    · obtain rfl : i = P := by omega
      have hX2 : x = V := by have t := unhide HX; rw [Nat.sub_self] at t; exact t
      have HX2 := hide hX2
      clear hX2 HX
      go_wp2
      go_ret
      exact ⟨by rw [← unhide HX2]; rfl, U⟩
end Go.Proofs.Ytdignnmhiifpgaa
