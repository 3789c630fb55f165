/- What the functions on turns and bodies return, of the program and of the document's own answers. -/
import Derived.Test.YtihckoenfklhpaaSl
namespace Go.Proofs.Ytihckoenfklhpaa
open Go.RowKit Go.Proofs.Gn
abbrev rt (c s n : Int) : Value := .agg #[.int .i64 c, .int .i64 s, .int .i64 n]
/-- Is the turn valid? -/
def rotB (c s n : Int) : Bool := decide (1 ≤ n ∧ n ≤ 16777216 ∧ -n ≤ c ∧ c ≤ n ∧ -n ≤ s ∧ s ≤ n ∧ c * c + s * s = n * n)
theorem rotB_yes {c s n : Int} (h : rotB c s n = true) : 1 ≤ n ∧ n ≤ 16777216 ∧ -n ≤ c ∧ c ≤ n ∧ -n ≤ s ∧ s ≤ n ∧ c * c + s * s = n * n := of_decide_eq_true h
def rotE (c s n : Int) : Int := if rotB c s n then 0 else 2
theorem rotB_of {c s n : Int} (h : 1 ≤ n ∧ n ≤ 16777216 ∧ -n ≤ c ∧ c ≤ n ∧ -n ≤ s ∧ s ≤ n ∧ c * c + s * s = n * n) : rotE c s n = 0 := by unfold rotE rotB; rw [if_pos (decide_eq_true h)]
theorem rotB_not {c s n : Int} (h : ¬ (1 ≤ n ∧ n ≤ 16777216 ∧ -n ≤ c ∧ c ≤ n ∧ -n ≤ s ∧ s ≤ n ∧ c * c + s * s = n * n)) : rotE c s n = 2 := by
  unfold rotE rotB; rw [if_neg]; simpa using h
/-! ### Halves -/
def halB (n d : Int) : Bool := decide (1 ≤ d ∧ d ≤ 2048 ∧ -2048 ≤ n ∧ n ≤ 2048)
def halC (n d : Int) : Int := if halB n d then d * d - n * n else 0
def halS (n d : Int) : Int := if halB n d then 2 * n * d else 0
def halN (n d : Int) : Int := if halB n d then d * d + n * n else 0
def halE (n d : Int) : Int := if halB n d then 0 else 2
theorem halB_yes {n d : Int} (h : halB n d = true) : 1 ≤ d ∧ d ≤ 2048 ∧ -2048 ≤ n ∧ n ≤ 2048 := of_decide_eq_true h
theorem halB_no {n d : Int} (h : halB n d = false) : ¬ (1 ≤ d ∧ d ≤ 2048 ∧ -2048 ≤ n ∧ n ≤ 2048) := of_decide_eq_false h
theorem p_Half (n d : Int) (w : World) :
    Calls Try.prog 31 #[.int .i64 n, .int .i64 d] w fun e w' => e = .returned (.tuple #[rt (halC n d) (halS n d) (halN n d), .int .i64 (halE n d)]) ∧ Up w w' := by
  unfold halC halS halN halE
  cases hb : halB n d
  · have hn := halB_no hb
    clear hb
    by_cases c1 : d < 1
    · go_enter Try.func31, Try.ntmps31
      go_wp2
      go_returns
      exact ⟨rfl, (by repeat' (first | (with_reducible exact up_refl _) | (with_reducible assumption) | (with_reducible refine up_alloc ?_ _) | (with_reducible refine up_drewN ?_ _) | (with_reducible refine up_drew ?_) | (with_reducible refine up_set ?_ (by first | (simp; done) | (simp; omega) | omega) _) | (refine up_trans ?_ (by with_reducible assumption))))⟩
    by_cases c2 : 2048 < d
    · go_enter Try.func31, Try.ntmps31
      go_wp2
      go_returns
      exact ⟨rfl, (by repeat' (first | (with_reducible exact up_refl _) | (with_reducible assumption) | (with_reducible refine up_alloc ?_ _) | (with_reducible refine up_drewN ?_ _) | (with_reducible refine up_drew ?_) | (with_reducible refine up_set ?_ (by first | (simp; done) | (simp; omega) | omega) _) | (refine up_trans ?_ (by with_reducible assumption))))⟩
    · have hc : (decide (n < -2048) || decide (2048 < n)) = true := by simp; omega
      clear hn
      go_enter Try.func31, Try.ntmps31
      go_wp2_with (go_at_call 54; refine (p_beyond _ _ _ (by omega) (by omega)).mono ?_; rintro e w' ⟨rfl, rfl⟩)
      go_returns
      exact ⟨rfl, (by repeat' (first | (with_reducible exact up_refl _) | (with_reducible assumption) | (with_reducible refine up_alloc ?_ _) | (with_reducible refine up_drewN ?_ _) | (with_reducible refine up_drew ?_) | (with_reducible refine up_set ?_ (by first | (simp; done) | (simp; omega) | omega) _) | (refine up_trans ?_ (by with_reducible assumption))))⟩
  · obtain ⟨b1, b2, b3, b4⟩ := halB_yes hb
    have hc : (decide (n < -2048) || decide (2048 < n)) = false := by simp; omega
    have m1 := mul_bd (u := n) (v := n) (by omega) (by omega) (by omega) (by omega)
    have m2 := mul_bd (u := d) (v := d) (by omega) (by omega) (by omega) (by omega)
    have m3 := mul_bd (u := 2 * n) (v := d) (by omega) (by omega) (by omega) (by omega)
    clear hb
    go_enter Try.func31, Try.ntmps31
    go_wp2_with (go_at_call 54; refine (p_beyond _ _ _ (by omega) (by omega)).mono ?_; rintro e w' ⟨rfl, rfl⟩)
    go_returns
    exact ⟨rfl, (by repeat' (first | (with_reducible exact up_refl _) | (with_reducible assumption) | (with_reducible refine up_alloc ?_ _) | (with_reducible refine up_drewN ?_ _) | (with_reducible refine up_drew ?_) | (with_reducible refine up_set ?_ (by first | (simp; done) | (simp; omega) | omega) _) | (refine up_trans ?_ (by with_reducible assumption))))⟩
end Go.Proofs.Ytihckoenfklhpaa
