/- Lists of points that the call itself has made: what is left when they are cut, and when other memory is written. -/
import Derived.Test.YtihckoenfklhpaaScale
import Derived.Test.YtihckoenfklhpaaHullM
namespace Go.Proofs.Ytihckoenfklhpaa
open Go.RowKit Go.Proofs.Gn
theorem own_up {W W' : World} {base e size n : Nat} {v : Value} {xs : List Value} (h : W.ownsRow base e size v n xs) (hu : Up W W') : W'.ownsRow base e size v n xs := by
  rcases h with ⟨hl, h | ⟨g, cap, cur, rfl, hb, hg, h⟩⟩
  · exact ⟨hl, .inl h⟩
  · refine ⟨hl, .inr ⟨g, cap, cur, rfl, hb, ?_, h⟩⟩
    rw [hu.block g (Array.getElem?_eq_some_iff.1 hg).1]
    exact hg
theorem own_prefix {W : World} {base e size n m cap g : Nat} {xs : List Value} (h : W.ownsRow base e size (.slice (some ⟨g, 0, none⟩) n cap) n xs) (hm : m ≤ n) : W.ownsRow base e size (.slice (some ⟨g, 0, none⟩) m cap) m (xs.take (m * size)) := by
  have hms : m * size ≤ n * size := Nat.mul_le_mul_right _ hm
  rcases h with ⟨hl, h | ⟨g', cap', cur, e1, hb, hg, h1, h2, h3, h4⟩⟩
  · simp at h
  · simp only [Value.slice.injEq, Option.some.injEq, Addr.mk.injEq, and_true, true_and] at e1
    obtain ⟨rfl, rfl⟩ := e1
    refine ⟨by rw [List.length_take, hl]; omega, .inr ⟨g, cap, cur, rfl, hb, hg, by omega, h2, h3, ?_⟩⟩
    rw [← h4, List.take_take, Nat.min_eq_left hms]
theorem cellsPl_take (ps : Pl) (m : Nat) : (cellsPl ps).take (m * 2) = cellsPl (ps.take m) := by
  induction ps generalizing m with
  | nil => simp [cellsPl]
  | cons p ps ih =>
    cases m with
    | zero => simp [cellsPl]
    | succ m =>
      have := ih m
      simp only [cellsPl, List.take_succ_cons, List.flatMap_cons, List.cons_append, List.nil_append] at this ⊢
      rw [show (m + 1) * 2 = m * 2 + 1 + 1 by omega, List.take_succ_cons, List.take_succ_cons, this]
theorem own_cells {W : World} {base e n cap g : Nat} {ps : Pl} (h : W.ownsRow base e 2 (.slice (some ⟨g, 0, none⟩) n cap) n (cellsPl ps)) :
    ∀ k (h : k < ps.length), W.cell? ⟨g, 0 + k * 2, none⟩ = some (.int .i64 ps[k].1) ∧ W.cell? ⟨g, 0 + k * 2 + 1, none⟩ = some (.int .i64 ps[k].2) := by
  intro k hk
  have hl : (cellsPl ps).length = n * 2 := h.1
  rw [cellsPl_length] at hl
  have c := cellsPl_at hk
  simp only [Nat.zero_add]
  rw [h.cellAt (k * 2) (by omega), h.cellAt (k * 2 + 1) (by omega)]
  exact c
theorem own_len {W : World} {base e n : Nat} {v : Value} {ps : Pl} (h : W.ownsRow base e 2 v n (cellsPl ps)) : n = ps.length := by
  have hl : (cellsPl ps).length = n * 2 := h.1
  rw [cellsPl_length] at hl
  omega
theorem own_some {W : World} {base e n : Nat} {v : Value} {ps : Pl} (h : W.ownsRow base e 2 v n (cellsPl ps)) (h0 : 0 < n) : ∃ g cap, v = .slice (some ⟨g, 0, none⟩) n cap ∧ base ≤ g ∧ n ≤ cap ∧ cap ≤ 9223372036854775807 := by
  rcases h.2 with ⟨_, h1⟩ | ⟨g, cap, cur, rfl, hb, hg, h1, h2, _⟩
  · omega
  · exact ⟨g, cap, rfl, hb, h1, by simp [maxLen] at h2; omega⟩
theorem own_pts {W : World} {base e n : Nat} {v : Value} {ps : Pl} (h : W.ownsRow base e 2 v n (cellsPl ps)) : ∃ A cap, v = .slice A ps.length cap ∧ Pts W A ps := by
  obtain rfl := own_len h
  rcases Nat.eq_zero_or_pos ps.length with h0 | h0
  · have e0 : ps = [] := by cases ps; rfl; simp at h0
    subst e0
    rcases h.2 with ⟨h1, _⟩ | ⟨g, cap, cur, h1, _⟩
    · exact ⟨_, _, h1, .inl rfl⟩
    · exact ⟨_, _, h1, .inl rfl⟩
  · obtain ⟨g, cap, rfl, _⟩ := own_some h h0
    exact ⟨_, _, rfl, .inr ⟨g, 0, rfl, own_cells h⟩⟩
theorem below_up {B : Nat} {a b c : World} (h : Below B a b) (hB : B ≤ a.heap.size) (k : Up b c) : Below B a c := h.trans (k.mono (Nat.le_trans hB h.size))
end Go.Proofs.Ytihckoenfklhpaa
