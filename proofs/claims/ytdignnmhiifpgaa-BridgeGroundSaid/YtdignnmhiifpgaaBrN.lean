/- The lines of moments and ends: their values. -/
import Derived.Test.YtdignnmhiifpgaaBrL
namespace Go.Proofs.Ytdignnmhiifpgaa
open Go.RowKit Go.Proofs.Gn
set_option linter.unusedVariables false
def tnt (r f : Int) : Int := if (if r < f then r else f) < 0 then 0 else (if r < f then r else f)
theorem p_tent (r f : Int) (w : World) : Calls Try.prog 74 #[.int .i64 r, .int .i64 f] w fun e w' => e = .returned (.int .i64 (tnt r f)) ∧ w = w' := by
  go_enter Try.func74, Try.ntmps74
  go_wp2
  all_goals go_ret
  all_goals exact ⟨congrArg (fun x => Ending.returned (Value.int .i64 x)) (by unfold tnt; (repeat' split) <;> omega), rfl⟩
theorem mul_in {a b : Int} (ha : -16777216 ≤ a ∧ a ≤ 16777216) (hb : -16777216 ≤ b ∧ b ≤ 16777216) : -281474976710656 ≤ a * b ∧ a * b ≤ 281474976710656 := by
  have h : (a * b).natAbs ≤ 16777216 * 16777216 := by rw [Int.natAbs_mul]; exact Nat.mul_le_mul (by omega) (by omega)
  omega
def moL (len x a : Int) : Int := tnt (a * (len - x)) (x * (len - a))
theorem p_mom1 (bl bx : Nat) (len x a : Int) (w : World) (hl : w.cell? ⟨bl, 0, none⟩ = some (.int .i64 len)) (hx : w.cell? ⟨bx, 0, none⟩ = some (.int .i64 x)) (h1 : 0 ≤ len ∧ len ≤ 131072) (h2 : 0 ≤ x ∧ x ≤ 131072) (h3 : -8388608 ≤ a ∧ a ≤ 8388608) :
    Calls Try.prog 73 #[.int .i64 a, .pointer (some ⟨bl, 0, none⟩), .pointer (some ⟨bx, 0, none⟩)] w fun e w' => e = .returned (.int .i64 (moL len x a)) ∧ w = w' := by
  unfold moL
  have w1 : IntKind.i64.wrap (len - x) = len - x := IntWalk.i64_in _ ⟨by omega, by omega⟩
  have w2 : IntKind.i64.wrap (len - a) = len - a := IntWalk.i64_in _ ⟨by omega, by omega⟩
  have b1 := mul_in (a := a) (b := len - x) ⟨by omega, by omega⟩ ⟨by omega, by omega⟩
  have b2 := mul_in (a := x) (b := len - a) ⟨by omega, by omega⟩ ⟨by omega, by omega⟩
  have w3 : IntKind.i64.wrap (a * (len - x)) = a * (len - x) := IntWalk.i64_in _ ⟨by omega, by omega⟩
  have w4 : IntKind.i64.wrap (x * (len - a)) = x * (len - a) := IntWalk.i64_in _ ⟨by omega, by omega⟩
  have HT := hide (fun W => p_tent (a * (len - x)) (x * (len - a)) W)
  clear b1 b2 h1 h2 h3
  go_enter Try.func73, Try.ntmps73
  go_wp2_with (go_at_call 74; (with_reducible refine (unhide HT _).mono ?_); rintro e w1 ⟨rfl, rfl⟩)
  go_ret
  exact ⟨rfl, rfl⟩
theorem mo_bd {len x : Int} (a : Int) (h1 : 0 ≤ len ∧ len ≤ 131072) (h2 : 0 ≤ x ∧ x ≤ len) : 0 ≤ moL len x a ∧ moL len x a ≤ 17179869184 := by
  unfold moL tnt
  obtain ⟨p, hp⟩ : ∃ p, a * (len - x) = p := ⟨_, rfl⟩
  obtain ⟨q, hq⟩ : ∃ q, x * (len - a) = q := ⟨_, rfl⟩
  rw [hp, hq]
  refine ⟨by split <;> omega, ?_⟩
  by_cases ha : a ≤ len
  · have : p ≤ 17179869184 := by
      by_cases h0 : 0 ≤ a
      · have : a * (len - x) ≤ 131072 * 131072 := Int.mul_le_mul (by omega) (by omega) (by omega) (by omega)
        omega
      · have : 0 ≤ (-a) * (len - x) := Int.mul_nonneg (by omega) (by omega)
        rw [Int.neg_mul, hp] at this
        omega
    repeat' split
    all_goals omega
  · have : 0 ≤ x * (a - len) := Int.mul_nonneg (by omega) (by omega)
    have e : x * (a - len) = - (x * (len - a)) := by rw [← Int.mul_neg, Int.neg_sub]
    rw [e, hq] at this
    repeat' split
    all_goals omega
theorem p_end1 (bl : Nat) (len a : Int) (w : World) (hl : w.cell? ⟨bl, 0, none⟩ = some (.int .i64 len)) (h1 : 0 ≤ len ∧ len ≤ 131072) (h3 : 0 ≤ a ∧ a ≤ len) :
    Calls Try.prog 79 #[.int .i64 a, .pointer (some ⟨bl, 0, none⟩)] w fun e w' => e = .returned (.int .i64 (len - a)) ∧ w = w' := by
  have w2 : IntKind.i64.wrap (len - a) = len - a := IntWalk.i64_in _ ⟨by omega, by omega⟩
  clear h1 h3
  go_enter Try.func79, Try.ntmps79
  go_wp2
  go_ret
  exact ⟨rfl, rfl⟩
theorem p_end2 (a : Int) (w : World) :
    Calls Try.prog 80 #[.int .i64 a] w fun e w' => e = .returned (.int .i64 a) ∧ w = w' := by
  go_enter Try.func80, Try.ntmps80
  go_wp2
  go_ret
  exact ⟨rfl, rfl⟩
def enL (right : Bool) (len a : Int) : Int := if win6 a 0 len then (if right then a else len - a) else 0
theorem en_bd {len : Int} (right : Bool) (a : Int) (h1 : 0 ≤ len ∧ len ≤ 131072) : 0 ≤ enL right len a ∧ enL right len a ≤ 17179869184 := by
  unfold enL
  split
  · rename_i h
    have := win6_yes h
    split <;> omega
  · omega
/-- What the box of the share holds. -/
def shV6 (right : Bool) (bl : Nat) : Value := if right then .func (.func 80) #[] #[] else .func (.func 79) #[] #[.pointer (some ⟨bl, 0, none⟩)]
theorem p_end3 (right : Bool) (bl bs : Nat) (len a : Int) (w : World) (hl : w.cell? ⟨bl, 0, none⟩ = some (.int .i64 len)) (hs : w.cell? ⟨bs, 0, none⟩ = some (shV6 right bl)) (h1 : 0 ≤ len ∧ len ≤ 131072) :
    Calls Try.prog 81 #[.int .i64 a, .pointer (some ⟨bl, 0, none⟩), .pointer (some ⟨bs, 0, none⟩)] w fun e w' => e = .returned (.int .i64 (enL right len a)) ∧ w = w' := by
  unfold enL
  have HWn := hide (fun W => p_w64 a 0 len W)
  by_cases hw : win6 a 0 len = true
  · have h3 := win6_yes hw
    rw [if_pos hw]
    rw [hw] at HWn
    cases right
    · have HE := hide (fun W hW => p_end1 bl len a W hW h1 h3)
      have hs' : w.cell? ⟨bs, 0, none⟩ = some (.func (.func 79) #[] #[.pointer (some ⟨bl, 0, none⟩)]) := hs
      clear h1 h3 hs hw
      go_enter Try.func81, Try.ntmps81
      go_wp2_with (first | (go_at_call 37; (with_reducible refine (unhide HWn _).mono ?_); rintro e w1 ⟨rfl, rfl⟩) | (go_at_call 79; (with_reducible refine (unhide HE _ hl).mono ?_); rintro e w1 ⟨rfl, rfl⟩))
      go_ret
      exact ⟨rfl, rfl⟩
    · have HE := hide (fun W => p_end2 a W)
      have hs' : w.cell? ⟨bs, 0, none⟩ = some (.func (.func 80) #[] #[]) := hs
      clear h1 h3 hs hw
      go_enter Try.func81, Try.ntmps81
      go_wp2_with (first | (go_at_call 37; (with_reducible refine (unhide HWn _).mono ?_); rintro e w1 ⟨rfl, rfl⟩) | (go_at_call 80; (with_reducible refine (unhide HE _).mono ?_); rintro e w1 ⟨rfl, rfl⟩))
      go_ret
      exact ⟨rfl, rfl⟩
  · rw [if_neg hw]
    have hw2 : win6 a 0 len = false := by cases h : win6 a 0 len <;> simp_all
    rw [hw2] at HWn
    clear h1 hs hw hw2
    go_enter Try.func81, Try.ntmps81
    go_wp2_with (go_at_call 37; (with_reducible refine (unhide HWn _).mono ?_); rintro e w1 ⟨rfl, rfl⟩)
    go_ret
    exact ⟨rfl, rfl⟩
end Go.Proofs.Ytdignnmhiifpgaa
