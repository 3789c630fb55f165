/- The few examples with which each statement begins or ends are right. -/
import Derived.Test.YtepblnnebeglbaaShares
import Derived.Test.YtepblnnebeglbaaTips
namespace Go.Proofs.Ytepblnnebeglbaa
open Go.RowKit Go.Proofs.Gn
theorem eq3 (a b c a' b' c' : Int) (w : World) : (Op.equalIn 10000 36 (.agg #[.int .i64 a, .int .i64 b, .int .i64 c]) (.agg #[.int .i64 a', .int .i64 b', .int .i64 c'])).run Try.prog w = .ok (a == a' && (b == b' && c == c')) w := by
  unfold Op.equalIn
  simp [run_underlying Try.underlying36, go_sem]
  rw [show List.range' 0 3 = [0, 1, 2] from rfl]
  by_cases h0 : a = a' <;> by_cases h1 : b = b' <;> by_cases h2 : c = c' <;> simp [h0, h1, h2, go_sem, Try.isAgg2]
theorem eq3_same (a b c : Int) (w : World) : (Op.equalIn 10000 36 (.agg #[.int .i64 a, .int .i64 b, .int .i64 c]) (.agg #[.int .i64 a, .int .i64 b, .int .i64 c])).run Try.prog w = .ok true w := by
  rw [eq3]; simp
def exS : List Gs.Sup := [⟨0, 0, 0, 10000, 100, 900⟩, ⟨4000, 2000, 1, 10000, 100, 900⟩, ⟨4000, -2000, 2, 10000, 100, 900⟩, ⟨0, 1000, 0, 10000, 100, 900⟩]
theorem ex_shares : shE exS 16000 2000 0 = 0 ∧ shV exS 16000 2000 0 (up 16000 (paD exS) (pa0 exS 2000 0)) = 4000 ∧ shV exS 16000 2000 0 (up 16000 (paD exS) (pa1 exS 2000 0)) = 3000 ∧ shV exS 16000 2000 0 (up 16000 (paD exS) (pa2 exS 2000 0)) = 5000 := by decide +kernel
theorem ex_tips : tiE exS 5000 0 = 0 ∧ tiV exS 5000 0 = 0 := by decide +kernel
theorem ex_lever : leE 1000 0 3 1 = 0 ∧ leM 1000 0 3 1 = 667 ∧ leN 1000 0 3 1 = 334 := by decide +kernel
def exL : List Value := [.int .i64 0, .int .i64 0, .int .i64 0, .int .i64 10000, .int .i64 100, .int .i64 900, .int .i64 4000, .int .i64 2000, .int .i64 1, .int .i64 10000, .int .i64 100, .int .i64 900, .int .i64 4000, .int .i64 (-2000), .int .i64 2, .int .i64 10000, .int .i64 100, .int .i64 900, .int .i64 0, .int .i64 1000, .int .i64 0, .int .i64 10000, .int .i64 100, .int .i64 900]
theorem sups_ex {W : World} {b : Nat} (h : Bx W b exL) : Sups W (some ⟨b, 0, none⟩) exS := by
  refine .inr ⟨b, 0, rfl, fun k hk => ?_⟩
  match k, hk with
  | 0, _ => exact ⟨(h 0 _ rfl).1, (h 1 _ rfl).1, (h 2 _ rfl).1, (h 3 _ rfl).1, (h 4 _ rfl).1, (h 5 _ rfl).1⟩
  | 1, _ => exact ⟨(h 6 _ rfl).1, (h 7 _ rfl).1, (h 8 _ rfl).1, (h 9 _ rfl).1, (h 10 _ rfl).1, (h 11 _ rfl).1⟩
  | 2, _ => exact ⟨(h 12 _ rfl).1, (h 13 _ rfl).1, (h 14 _ rfl).1, (h 15 _ rfl).1, (h 16 _ rfl).1, (h 17 _ rfl).1⟩
  | 3, _ => exact ⟨(h 18 _ rfl).1, (h 19 _ rfl).1, (h 20 _ rfl).1, (h 21 _ rfl).1, (h 22 _ rfl).1, (h 23 _ rfl).1⟩
  | n + 4, h => exact absurd h (by simp [exS])
theorem l_Example (w : World) : Calls Try.prog 12 #[] w fun e w' => ∃ b : Nat, e = .returned (.slice (some ⟨b, 0, none⟩) 4 4) ∧ Sups w' (some ⟨b, 0, none⟩) exS ∧ Up w w' := by
  go_enter Try.func12, Try.ntmps12
  go_wp2_with fail
  refine bodyPost_ret (v := .slice (some ⟨w.heap.size, 0, none⟩) 4 4) (by simp [results, Try.results12, go_sem]) rfl ?_
  exact ⟨w.heap.size, rfl, sups_ex (bx_new w exL 33), (by repeat' (first | (with_reducible exact up_refl _) | (with_reducible assumption) | (with_reducible refine up_alloc ?_ _) | (with_reducible refine up_drewN ?_ _) | (with_reducible refine up_drew ?_) | (with_reducible refine up_set ?_ (by first | (simp; done) | (simp; omega) | omega) _) | (refine up_trans ?_ (by with_reducible assumption))))⟩
set_option maxRecDepth 100000 in
set_option maxHeartbeats 2000000 in
theorem l_known (w : World) : Calls Try.prog 5 #[] w fun e w' => e = .returned (.bool true) ∧ Up w w' := by
  have HS : ∀ (W : World) (b : Nat), Sups W (some ⟨b, 0, none⟩) exS → Calls Try.prog 9 #[.slice (some ⟨b, 0, none⟩) 4 4, .int .i64 16000, pt 2000 0] W fun e w' => e = .returned (.tuple #[.agg #[.int .i64 4000, .int .i64 3000, .int .i64 5000], .int .i64 0]) ∧ Up W w' := fun W b h => by
    have t := p_Shares (some ⟨b, 0, none⟩) exS 4 16000 2000 0 (by decide) W h
    rw [ex_shares.1, ex_shares.2.1, ex_shares.2.2.1, ex_shares.2.2.2] at t
    exact t
  have HT : ∀ (W : World) (b : Nat), Sups W (some ⟨b, 0, none⟩) exS → Calls Try.prog 13 #[.slice (some ⟨b, 0, none⟩) 4 4, pt 5000 0] W fun e w' => e = .returned (.tuple #[.int .i64 0, .int .i64 0]) ∧ Up W w' := fun W b h => by
    have t := p_Tips (some ⟨b, 0, none⟩) exS 4 5000 0 (by decide) W h
    rw [ex_tips.1, ex_tips.2] at t
    exact t
  have HL : ∀ W : World, Calls Try.prog 14 #[.int .i64 1000, .int .i64 0, .int .i64 3, .int .i64 1] W fun e w' => e = .returned (.tuple #[.int .i64 667, .int .i64 334, .int .i64 0]) ∧ Up W w' := fun W => by
    have t := p_Lever 1000 0 3 1 W
    rw [ex_lever.1, ex_lever.2.1, ex_lever.2.2] at t
    exact t
  have hq := fun W => eq3_same 4000 3000 5000 W
  have hS := hide HS
  have hT := hide HT
  have hL := hide HL
  clear HS HT HL
  go_enter Try.func5, Try.ntmps5
  go_wp2_with (first | (go_at_call 12; refine (l_Example _).mono ?_; rintro e w1 ⟨b, rfl, hs, hb1⟩) | (go_at_call 9; (with_reducible refine (unhide hS _ _ hs).mono ?_); rintro e w2 ⟨rfl, hb2⟩) | (go_at_call 13; (with_reducible refine (unhide hT _ _ hs).mono ?_); rintro e w3 ⟨rfl, hb3⟩; have B2 := bx_up (bx_new w2 [.int .i64 4000, .int .i64 3000, .int .i64 5000] 36) (up_trans hb1 hb3); obtain ⟨q0, q1, q2⟩ := bx3 B2) | (go_at_call 14; (with_reducible refine (unhide hL _).mono ?_); rintro e w4 ⟨rfl, hb4⟩; have B3 := bx_up B2 hb4; obtain ⟨q3, q4, q5⟩ := bx3 B3))
  go_ret
  exact ⟨rfl, (by repeat' (first | (with_reducible exact up_refl _) | (with_reducible assumption) | (with_reducible refine up_alloc ?_ _) | (with_reducible refine up_drewN ?_ _) | (with_reducible refine up_drew ?_) | (with_reducible refine up_set ?_ (by first | (simp; done) | (simp; omega) | omega) _) | (refine up_trans ?_ (by with_reducible assumption))))⟩
end Go.Proofs.Ytepblnnebeglbaa
