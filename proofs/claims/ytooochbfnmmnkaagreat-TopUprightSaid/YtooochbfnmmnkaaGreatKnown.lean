/- The few examples with which each statement begins or ends are right. -/
import Derived.Test.YtooochbfnmmnkaaGreatShares
import Derived.Test.YtooochbfnmmnkaaGreatPkRefChk
namespace Go.Proofs.YtooochbfnmmnkaaGreat
open Go.RowKit Go.Proofs.Gn
theorem eq3 (a b c a' b' c' : Int) (w : World) : (Op.equalIn 10000 31 (.agg #[.int .i64 a, .int .i64 b, .int .i64 c]) (.agg #[.int .i64 a', .int .i64 b', .int .i64 c'])).run Tryz.prog w = .ok (a == a' && (b == b' && c == c')) w := by
  unfold Op.equalIn
  simp [run_underlying Tryz.underlying31, go_sem]
  rw [show List.range' 0 3 = [0, 1, 2] from rfl]
  by_cases h0 : a = a' <;> by_cases h1 : b = b' <;> by_cases h2 : c = c' <;> simp [h0, h1, h2, go_sem, Tryz.isAgg2]
theorem eq3_same (a b c : Int) (w : World) : (Op.equalIn 10000 31 (.agg #[.int .i64 a, .int .i64 b, .int .i64 c]) (.agg #[.int .i64 a, .int .i64 b, .int .i64 c])).run Tryz.prog w = .ok true w := by
  rw [eq3]; simp
def exS : List Gs.Sup := [⟨0, 0, 0, 10000, 100, 900⟩, ⟨4000, 2000, 1, 10000, 100, 900⟩, ⟨4000, -2000, 2, 10000, 100, 900⟩, ⟨0, 1000, 0, 10000, 100, 900⟩]
theorem ex_shares : shE exS 16000 2000 0 = 0 ∧ shV exS 16000 2000 0 (up 16000 (paD exS) (pa0 exS 2000 0)) = 4000 ∧ shV exS 16000 2000 0 (up 16000 (paD exS) (pa1 exS 2000 0)) = 3000 ∧ shV exS 16000 2000 0 (up 16000 (paD exS) (pa2 exS 2000 0)) = 5000 := by decide +kernel
theorem ex_tips : tiE exS 5000 0 = 0 ∧ tiV exS 5000 0 = 0 := by decide +kernel
theorem ex_lever : leE 1000 0 3 1 = 0 ∧ leM 1000 0 3 1 = 667 ∧ leN 1000 0 3 1 = 334 := by decide +kernel
def exL : List Value := [.int .i64 0, .int .i64 0, .int .i64 0, .int .i64 10000, .int .i64 100, .int .i64 900, .int .i64 4000, .int .i64 2000, .int .i64 1, .int .i64 10000, .int .i64 100, .int .i64 900, .int .i64 4000, .int .i64 (-2000), .int .i64 2, .int .i64 10000, .int .i64 100, .int .i64 900, .int .i64 0, .int .i64 1000, .int .i64 0, .int .i64 10000, .int .i64 100, .int .i64 900]
theorem sups_ex {W : World} {b : Nat} (h : Bx W b exL) : Sups W (some ⟨b, 0, none⟩) exS := by
  refine .inr ⟨b, 0, rfl, fun k hk => ?_⟩
  match k, hk with
  | 0, _ => exact ⟨(h 0 _ rfl).1, (h 1 _ rfl).1, (h 2 _ rfl).1, (h 3 _ rfl).1, (h 4 _ rfl).1, (h 5 _ rfl).1⟩
  | 1, _ => exact ⟨(h 6 _ rfl).1, (h 7 _ rfl).1, (h 8 _ rfl).1, (h 9 _ rfl).1, (h 10 _ rfl).1, (h 11 _ rfl).1⟩
  | 2, _ => exact ⟨(h 12 _ rfl).1, (h 13 _ rfl).1, (h 14 _ rfl).1, (h 15 _ rfl).1, (h 16 _ rfl).1, (h 17 _ rfl).1⟩
  | 3, _ => exact ⟨(h 18 _ rfl).1, (h 19 _ rfl).1, (h 20 _ rfl).1, (h 21 _ rfl).1, (h 22 _ rfl).1, (h 23 _ rfl).1⟩
  | n + 4, h => exact absurd h (by simp [exS])
end Go.Proofs.YtooochbfnmmnkaaGreat
