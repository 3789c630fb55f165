/- The mathematics of the wear. -/
import Derived.Test.YtdignnmhiifpgaaBrPL
namespace Go.Proofs.Ytdignnmhiifpgaa
open Go.RowKit
set_option linter.unusedVariables false
theorem up6_le {n m d : Int} (h : n ≤ m) (hd : 1 ≤ d) : up6 n d ≤ up6 m d := by unfold up6; exact Int.ediv_le_ediv (by omega) (by omega)
theorem up6_mul_ge {n d : Int} (hd : 1 ≤ d) : n ≤ up6 n d * d := by
  unfold up6
  have h := Int.emod_add_mul_ediv (n + d - 1) d
  have h2 := Int.emod_lt_of_pos (n + d - 1) (by omega : 0 < d)
  rw [Int.mul_comm] at h
  omega
theorem up6_le_of {n d q : Int} (hd : 1 ≤ d) (h : n ≤ q * d) : up6 n d ≤ q := by
  unfold up6
  have : (n + d - 1) / d < q + 1 := Int.ediv_lt_of_lt_mul (by omega) (by rw [Int.add_mul]; omega)
  omega
theorem up6_gt_of {n d q : Int} (hd : 1 ≤ d) (h : q * d < n) : q < up6 n d := by
  have t := up6_mul_ge (n := n) hd
  by_cases hq : up6 n d ≤ q
  · have := Int.mul_le_mul_of_nonneg_right hq (by omega : 0 ≤ d)
    omega
  · omega
theorem up6_two {n d : Int} (hd : 1 ≤ d) : up6 (2 * n) d ≤ 2 * up6 n d := up6_le_of hd (by have := up6_mul_ge (n := n) hd; rw [Int.mul_assoc]; omega)
theorem wrL_le : ∀ (n : Nat) {r r' w w' : Int}, 0 ≤ r → r ≤ r' → 0 ≤ w → w ≤ w' → wrL r' n w' ≤ 1073741824 → wrL r n w ≤ wrL r' n w'
  | 0, r, r', w, w', _, _, _, h, _ => h
  | n + 1, r, r', w, w', h0, h1, h2, h3, h4 => by
    unfold wrL at h4 ⊢
    by_cases hw : w' ≤ 1073741824
    · rw [if_pos hw] at h4
      rw [if_pos hw, if_pos (by omega : w ≤ 1073741824)]
      have m : w * r ≤ w' * r' := Int.mul_le_mul h3 h1 h0 (by omega)
      have m0 : 0 ≤ w * r := Int.mul_nonneg h2 h0
      exact wrL_le n h0 h1 (up6_bd m0 (by omega)).1 (up6_le m (by omega)) h4
    · rw [if_neg hw] at h4
      exact absurd h4 hw
theorem wrF_le {p : Pav} {l l' : Int} (hp : 1 ≤ p.ld) (h0 : 0 ≤ l) (h : l ≤ l') (hw : wrF p l' ≤ 1073741824) : wrF p l ≤ wrF p l' := by
  unfold wrF at hw ⊢
  have a := (up6_bd (n := l * 1000) (d := p.ld) (by omega) hp).1
  have b := up6_le (n := l * 1000) (m := l' * 1000) (d := p.ld) (by omega) hp
  exact wrL_le _ a b a b hw
theorem wsF_nn {p : Pav} (hp : 1 ≤ p.ld) : ∀ {ts : List (Int × Int)}, (∀ k (h : k < ts.length), 0 ≤ ts[k].2 ∧ ts[k].2 ≤ 1048576) → 0 ≤ wsF p ts
  | [], _ => by simp [wsF]
  | t :: ts, h => by
    have a := (wrF_bd (p := p) (l := t.2) hp (h 0 (by simp))).1
    have b := wsF_nn hp (ts := ts) (fun k hk => h (k + 1) (by simpa using hk))
    unfold wsF
    omega
/-- With one greater load the wear is not less. -/
theorem wsF_set {p : Pav} (hp : 1 ≤ p.ld) : ∀ {ts : List (Int × Int)} {k : Nat} (hk : k < ts.length) {x : Int}, (∀ k (h : k < ts.length), 0 ≤ ts[k].2 ∧ ts[k].2 ≤ 1048576) → ts[k].2 ≤ x → x ≤ 1048576 → wsF p (ts.set k (ts[k].1, x)) ≤ 1073741824 → wsF p ts ≤ wsF p (ts.set k (ts[k].1, x))
  | t :: ts, 0, _, x, h, h1, h2, h3 => by
    simp only [List.set_cons_zero, List.getElem_cons_zero, wsF] at h1 h3 ⊢
    have n := wsF_nn hp (ts := ts) (fun k hk => h (k + 1) (by simpa using hk))
    have t0 := h 0 (by simp)
    simp only [List.getElem_cons_zero] at t0
    have := wrF_le (p := p) (l := t.2) (l' := x) hp t0.1 h1 (by omega)
    omega
  | t :: ts, k + 1, hk, x, h, h1, h2, h3 => by
    simp only [List.set_cons_succ, List.getElem_cons_succ, wsF] at h1 h3 ⊢
    have a := (wrF_bd (p := p) (l := t.2) hp (h 0 (by simp))).1
    have := wsF_set hp (ts := ts) (k := k) (by simpa using hk) (x := x) (fun k hk => h (k + 1) (by simpa using hk)) h1 h2 (by omega)
    omega
theorem wrL_1000 : ∀ n, wrL 1000 n 1000 = 1000
  | 0 => rfl
  | n + 1 => by
    unfold wrL
    rw [if_pos (by decide), show up6 (1000 * 1000) 1000 = 1000 by decide]
    exact wrL_1000 n
theorem up6_exact {n d : Int} (hd : 1 ≤ d) : up6 (n * d) d = n := by
  have a := up6_le_of (n := n * d) (q := n) hd (Int.le_refl _)
  by_cases h : up6 (n * d) d = n
  · exact h
  · have b := up6_mul_ge (n := n * d) hd
    have : up6 (n * d) d * d ≤ (n - 1) * d := Int.mul_le_mul_of_nonneg_right (by omega) (by omega)
    rw [Int.sub_mul] at this
    omega
/-- The standard load in its life. -/
theorem one_wear {p : Pav} (h : pvE p = 0) : daE p [(0, p.ld)] p.lf = 0 ∧ daV p [(0, p.ld)] p.lf = 1000000 := by
  obtain ⟨a, b, c⟩ := pvE_ok h
  have hc : ctE [(0, p.ld)] = 0 := by
    unfold ctE
    rw [if_pos (show win6 (([(0, p.ld)] : List (Int × Int)).length : Int) 1 64 = true from rfl)]
    rw [if_pos]
    simp only [tok, Bool.and_true, Bool.and_eq_true]
    exact ⟨⟨rfl, win6_mk ⟨by omega, by omega⟩⟩, rfl⟩
  have hw : wsF p [(0, p.ld)] = 1000 := by
    unfold wsF wsF wrF
    dsimp only
    rw [show p.ld * 1000 = 1000 * p.ld by rw [Int.mul_comm], up6_exact a.1, wrL_1000]
    rfl
  have h0 : daE0 p [(0, p.ld)] = 0 := by unfold daE0; rw [h, hc]; rfl
  have hE : daE p [(0, p.ld)] p.lf = 0 := by unfold daE; rw [if_pos h0, if_pos (win6_mk ⟨by omega, by omega⟩), hw]; rfl
  refine ⟨hE, ?_⟩
  unfold daV
  rw [if_pos hE, hw, show (1000 : Int) * 1000 * p.lf = 1000000 * p.lf by rfl, up6_exact b.1]
/-- What no error says. -/
theorem da_ok {p : Pav} {ts : List (Int × Int)} {n : Int} (h : daE p ts n = 0) : daE0 p ts = 0 ∧ (0 ≤ n ∧ n ≤ 1048576) ∧ wsF p ts ≤ 1073741824 ∧ daV p ts n = up6 (wsF p ts * 1000 * n) p.lf := by
  have hv : daV p ts n = up6 (wsF p ts * 1000 * n) p.lf := by unfold daV; rw [if_pos h]
  unfold daE at h
  split at h
  · rename_i h0
    split at h
    · rename_i h1
      split at h
      · rename_i h2
        exact ⟨h0, win6_yes h1, h2, hv⟩
      · cases h
    · cases h
  · rename_i h0; exact absurd h h0
theorem da_mk {p : Pav} {ts : List (Int × Int)} {n : Int} (h0 : daE0 p ts = 0) (h1 : 0 ≤ n ∧ n ≤ 1048576) (h2 : wsF p ts ≤ 1073741824) : daE p ts n = 0 ∧ daV p ts n = up6 (wsF p ts * 1000 * n) p.lf := by
  have t : daE p ts n = 0 := by unfold daE; rw [if_pos h0, if_pos (win6_mk h1), if_pos h2]
  exact ⟨t, (da_ok t).2.2.2⟩
theorem da_no {p : Pav} {ts : List (Int × Int)} {n : Int} (h : daE p ts n ≠ 0) : daV p ts n = 0 := by unfold daV; rw [if_neg h]
theorem lf_no {p : Pav} {ts : List (Int × Int)} {n : Int} (h0 : daE0 p ts = 0) (h2 : wsF p ts ≤ 1073741824) (h : lfE p ts n ≠ 0) : lfE p ts n = 3 ∨ lfE p ts n = 5 := by
  unfold lfE at h ⊢
  rw [if_pos h0] at h ⊢
  split
  · (try rw [if_pos h2] at h)
    (try rw [if_pos h2])
    split
    · exact .inr rfl
    · rename_i h3; rw [if_neg h3] at h; simp_all
  · exact .inl rfl
theorem lf_ok {p : Pav} {ts : List (Int × Int)} {n : Int} (h : lfE p ts n = 0) : (0 ≤ n ∧ n ≤ 1000000) ∧ wsF p ts ≠ 0 ∧ lfV p ts n = lqF (wsF p ts) p.lf n := by
  have hv : lfV p ts n = lqF (wsF p ts) p.lf n := by unfold lfV; rw [if_pos h]
  unfold lfE at h
  split at h
  · split at h
    · rename_i h1
      split at h
      · split at h
        · cases h
        · rename_i h3; exact ⟨win6_yes h1, h3, hv⟩
      · cases h
    · cases h
  · rename_i h0; exact absurd h h0
/-- What is left is borne, and one pass more is not. -/
theorem lq_ok {S lf n : Int} (hS : 1 ≤ S) (hl : 1 ≤ lf) (hn : 0 ≤ n ∧ n ≤ 1000000) : (0 ≤ lqF S lf n ∧ lqF S lf n ≤ 1048576) ∧ n + up6 (S * 1000 * lqF S lf n) lf ≤ 1000000 ∧ (lqF S lf n = 1048576 ∨ (lqF S lf n < 1048576 ∧ 1000000 < n + up6 (S * 1000 * (lqF S lf n + 1)) lf)) := by
  have hb : 0 < S * 1000 := by omega
  have m0 : 0 ≤ (1000000 - n) * lf := Int.mul_nonneg (by omega) (by omega)
  have q0 : 0 ≤ (1000000 - n) * lf / (S * 1000) := Int.ediv_nonneg m0 (by omega)
  have q1 : S * 1000 * ((1000000 - n) * lf / (S * 1000)) ≤ (1000000 - n) * lf := Int.mul_ediv_self_le (by omega)
  have q2 : (1000000 - n) * lf < S * 1000 * ((1000000 - n) * lf / (S * 1000) + 1) := by
    have := Int.lt_mul_ediv_self_add (x := (1000000 - n) * lf) (k := S * 1000) hb
    rw [Int.mul_add]; omega
  have key : ∀ y, 0 ≤ y → y ≤ (1000000 - n) * lf / (S * 1000) → n + up6 (S * 1000 * y) lf ≤ 1000000 := fun y y0 y1 => by
    have t : S * 1000 * y ≤ S * 1000 * ((1000000 - n) * lf / (S * 1000)) := Int.mul_le_mul_of_nonneg_left y1 (by omega)
    have := up6_le_of (n := S * 1000 * y) (d := lf) (q := 1000000 - n) hl (by omega)
    omega
  unfold lqF
  split
  · rename_i hlt
    refine ⟨⟨q0, by omega⟩, key _ q0 (Int.le_refl _), .inr ⟨hlt, ?_⟩⟩
    have := up6_gt_of (n := S * 1000 * ((1000000 - n) * lf / (S * 1000) + 1)) (d := lf) (q := 1000000 - n) hl q2
    omega
  · exact ⟨⟨by omega, by omega⟩, key _ (by omega) (by omega), .inl rfl⟩
end Go.Proofs.Ytdignnmhiifpgaa
