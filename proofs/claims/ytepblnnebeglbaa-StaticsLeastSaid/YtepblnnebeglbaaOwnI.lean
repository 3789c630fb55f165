/- Lists of numbers that the call itself has made. -/
import Derived.Test.YtepblnnebeglbaaGrM
import Derived.Deep.RegionLaw
import Derived.OwnWalk
set_option linter.unusedVariables false
namespace Go.Proofs.Ytepblnnebeglbaa
open Go.RowKit Go.Proofs.Gn
theorem own_upI {W W' : World} {base e size n : Nat} {v : Value} {xs : List Value} (h : W.ownsRow base e size v n xs) (hu : Up W W') : W'.ownsRow base e size v n xs := by
  rcases h with ⟨hl, h | ⟨g, cap, cur, rfl, hb, hg, h⟩⟩
  · exact ⟨hl, .inl h⟩
  · refine ⟨hl, .inr ⟨g, cap, cur, rfl, hb, ?_, h⟩⟩
    rw [hu.block g (Array.getElem?_eq_some_iff.1 hg).1]
    exact hg
def cellsI (l : List Int) : List Value := l.map fun x => .int .i64 x
theorem cellsI_snoc (l : List Int) (x : Int) : cellsI (l ++ [x]) = cellsI l ++ [.int .i64 x] := by simp [cellsI]
theorem cellsI_length (l : List Int) : (cellsI l).length = l.length := by simp [cellsI]
theorem info_i64I : (Try.prog.info? 2).map (fun i => (i.zero, i.size, i.bytes)) = some (some (.int .i64 0), 1, 8) := by kernel_rfl
theorem one_newI (W : World) (x : Value) (t : TypeId) : ∀ j u, [x][j]? = some u → (W.alloc (.cells #[x] t)).cell? ((⟨W.heap.size, 0, none⟩ : Addr).add j) = some u := by
  intro j u hj
  have b := bx_new W [x] t
  match j, hj with
  | 0, hj => simp at hj; subst hj; exact bx1 b
  | (j + 1), hj => simp at hj
theorem own_ints {W : World} {base e n : Nat} {v : Value} {l : List Int} (h : W.ownsRow base e 1 v n (cellsI l)) : ∃ A cap, v = .slice A l.length cap ∧ Ints W A l := by
  have hn : n = l.length := by
    have hl : (cellsI l).length = n * 1 := h.1
    rw [cellsI_length] at hl
    omega
  subst hn
  rcases h.2 with ⟨h1, h2⟩ | ⟨g, cap, cur, rfl, _⟩
  · have e0 : l = [] := by cases l with
      | nil => rfl
      | cons a l => simp at h2
    subst e0
    exact ⟨_, _, h1, .inl rfl⟩
  · refine ⟨_, _, rfl, .inr ⟨g, 0, rfl, fun k hk => ?_⟩⟩
    rw [Nat.zero_add, h.cellAt k (by omega)]
    simp [cellsI, hk]
theorem own_grown {w W W' w1 : World} {v v' : Value} {k e : Nat} {xs ys : List Value} (ho : W'.ownsRow w.heap.size e 1 v k xs) (hb : Up w W) (hg : W.grownBy w1 v.ownBlock) : Up w w1 :=
  hb.grown hg hb.size fun j hj => (ho.lt j hj).1
/-- K is the first of n steps that fails, or n. -/
def Fsn (n : Nat) (s : Nat → Bool) (K : Nat) : Prop := K ≤ n ∧ (∀ j, j < K → s j = false) ∧ (K < n → s K = true)
theorem fsn_ex (n : Nat) (s : Nat → Bool) : ∃ K, Fsn n s K := by
  have h : ∀ m, m ≤ n → (∃ K, Fsn n s K) ∨ ∀ j, j < m → s j = false := by
    intro m
    induction m with
    | zero => exact fun _ => .inr (fun j hj => absurd hj (by omega))
    | succ m ih =>
      intro hn
      rcases ih (by omega) with h | h
      · exact .inl h
      · cases hs : s m
        · refine .inr (fun j hj => ?_)
          by_cases e : j = m
          · subst e; exact hs
          · exact h j (by omega)
        · exact .inl ⟨m, by omega, h, fun _ => hs⟩
  rcases h n (by omega) with h | h
  · exact h
  · exact ⟨n, by omega, h, fun hx => absurd hx (by omega)⟩
theorem fsn_stop {n : Nat} {s : Nat → Bool} {K k : Nat} (h : Fsn n s K) (hk : k ≤ K) (hs : s k = true) : k = K := by
  by_cases e : k < K
  · rw [h.2.1 k e] at hs; cases hs
  · omega
theorem fsn_go {n : Nat} {s : Nat → Bool} {K k : Nat} (h : Fsn n s K) (hk : k ≤ K) (hl : k < n) (hs : s k = false) : k < K := by
  by_cases e : k < K
  · exact e
  · obtain rfl : k = K := by omega
    rw [h.2.2 hl] at hs; cases hs
theorem at_xi {F : Act → World → Prop} {a : Act} {w : World} (h : ∀ W, W = w → F a W) : F a w := h w rfl
end Go.Proofs.Ytepblnnebeglbaa
