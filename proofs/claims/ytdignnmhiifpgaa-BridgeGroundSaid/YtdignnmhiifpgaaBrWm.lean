/- The greatest weight of a length: both ways to look for it find the same. -/
import Derived.Test.YtdignnmhiifpgaaBrGi
import Derived.Test.YtdignnmhiifpgaaBrMr
namespace Go.Proofs.Ytdignnmhiifpgaa
open Go.RowKit Go.Proofs.Gn
set_option linter.unusedVariables false
theorem cmpV_pos (a b : Int) : 0 < cmpV a b ↔ b < a := by unfold cmpV; split <;> (try split) <;> omega
theorem gt_fold : ∀ (l : List Int) (c : Int), ∃ x, l.foldl gtI (some c) = some x ∧ (x = c ∨ x ∈ l) ∧ c ≤ x ∧ ∀ y ∈ l, y ≤ x
  | [], c => ⟨c, rfl, .inl rfl, Int.le_refl _, fun y hy => by cases hy⟩
  | a :: l, c => by
    have e : gtI (some c) a = some (if 0 < cmpV a c then a else c) := by unfold gtI; simp only; split <;> rfl
    rw [List.foldl_cons, e]
    by_cases h : 0 < cmpV a c
    · rw [if_pos h]
      rw [cmpV_pos] at h
      obtain ⟨x, e, m, g, f⟩ := gt_fold l a
      refine ⟨x, e, .inr (by rcases m with rfl | m <;> simp [*]), by omega, fun y hy => ?_⟩
      rcases List.mem_cons.1 hy with rfl | hy
      · exact g
      · exact f y hy
    · rw [if_neg h]
      rw [cmpV_pos] at h
      obtain ⟨x, e, m, g, f⟩ := gt_fold l c
      refine ⟨x, e, by rcases m with rfl | m <;> simp [*], g, fun y hy => ?_⟩
      rcases List.mem_cons.1 hy with rfl | hy
      · omega
      · exact f y hy
theorem gsI_mem {xs : List Int} (h : 0 < xs.length) : (gsI xs).getD 0 ∈ xs ∧ ∀ y ∈ xs, y ≤ (gsI xs).getD 0 := by
  match xs, h with
  | a :: l, _ =>
    obtain ⟨x, e, m, g, f⟩ := gt_fold l a
    have e2 : gsI (a :: l) = some x := by unfold gsI; rw [List.foldl_cons]; exact e
    rw [e2, Option.getD_some]
    refine ⟨by rcases m with rfl | m <;> simp [*], fun y hy => ?_⟩
    rcases List.mem_cons.1 hy with rfl | hy
    · exact g
    · exact f y hy
/-- The loads from here to there. -/
def bsL (lo hi : Int) : List (Int × Int) → Int
  | [] => 0
  | t :: ts => (if lo ≤ t.1 ∧ t.1 ≤ hi then t.2 else 0) + bsL lo hi ts
theorem bsL_app (lo hi : Int) (x y : List (Int × Int)) : bsL lo hi (x ++ y) = bsL lo hi x + bsL lo hi y := by
  induction x with
  | nil => simp [bsL]
  | cons t x ih => simp only [List.cons_append, bsL, ih]; omega
theorem bsL_take (lo hi : Int) {ts : List (Int × Int)} {k : Nat} (h : k < ts.length) : bsL lo hi (ts.take (k + 1)) = bsL lo hi (ts.take k) + (if lo ≤ ts[k].1 ∧ ts[k].1 ≤ hi then ts[k].2 else 0) := by
  rw [List.take_succ_eq_append_getElem h, bsL_app]; simp [bsL]
theorem bsL_bd (lo hi : Int) {ts : List (Int × Int)} (h : TrOk ts) : ∀ k, k ≤ ts.length → 0 ≤ bsL lo hi (ts.take k) ∧ bsL lo hi (ts.take k) ≤ 1048576 * (k : Int)
  | 0, _ => by simp [bsL]
  | k + 1, hk => by
    have i := bsL_bd lo hi h k (by omega)
    have t := (h.2 k (by omega)).2
    rw [bsL_take lo hi (by omega)]
    split <;> omega
theorem bsL_nn (lo hi : Int) : ∀ {l : List (Int × Int)}, PosP l → 0 ≤ bsL lo hi l
  | [], _ => Int.le_refl 0
  | t :: l, h => by
    have ih := bsL_nn lo hi (l := l) (fun u hu => h u (by simp [hu]))
    have := h t (by simp)
    unfold bsL; split <;> omega
theorem fs_le_bs {b lo hi : Int} : ∀ {l : List (Int × Int)}, PosP l → (∀ t ∈ l, t.1 ≤ b → lo ≤ t.1 ∧ t.1 ≤ hi) → fsL b l ≤ bsL lo hi l
  | [], _, _ => Int.le_refl 0
  | t :: l, h, hh => by
    have ih := fs_le_bs (l := l) (fun u hu => h u (by simp [hu])) (fun u hu => hh u (by simp [hu]))
    have a := hh t (by simp)
    have := h t (by simp)
    unfold fsL bsL
    by_cases c : t.1 ≤ b
    · rw [if_pos c, if_pos (a c)]; omega
    · rw [if_neg c]; split <;> omega
theorem bs_le_fs {b lo hi : Int} : ∀ {l : List (Int × Int)}, PosP l → (∀ t ∈ l, lo ≤ t.1 ∧ t.1 ≤ hi → t.1 ≤ b) → bsL lo hi l ≤ fsL b l
  | [], _, _ => Int.le_refl 0
  | t :: l, h, hh => by
    have ih := bs_le_fs (l := l) (fun u hu => h u (by simp [hu])) (fun u hu => hh u (by simp [hu]))
    have a := hh t (by simp)
    have := h t (by simp)
    unfold fsL bsL
    by_cases c : lo ≤ t.1 ∧ t.1 ≤ hi
    · rw [if_pos c, if_pos (a c)]; omega
    · rw [if_neg c]; split <;> omega
theorem bsL_zero {lo hi : Int} : ∀ {l : List (Int × Int)}, (∀ t ∈ l, t.1 < lo) → bsL lo hi l = 0
  | [], _ => rfl
  | t :: l, h => by
    have := h t (by simp)
    unfold bsL
    rw [if_neg (by omega), bsL_zero (l := l) (fun u hu => h u (by simp [hu]))]; rfl
theorem first_ge {lo : Int} : ∀ {l : List (Int × Int)}, (∃ t ∈ l, lo ≤ t.1) → ∃ (i : Nat) (h : i < l.length), lo ≤ l[i].1 ∧ ∀ t ∈ l.take i, t.1 < lo
  | [], h => by obtain ⟨t, ht, _⟩ := h; cases ht
  | a :: l, h => by
    by_cases c : lo ≤ a.1
    · exact ⟨0, by simp, by simpa using c, fun t ht => by simp at ht⟩
    · obtain ⟨t, ht, h1⟩ := h
      have : ∃ t ∈ l, lo ≤ t.1 := by
        rcases List.mem_cons.1 ht with rfl | ht
        · exact absurd h1 c
        · exact ⟨t, ht, h1⟩
      obtain ⟨i, hi, g1, g2⟩ := first_ge this
      refine ⟨i + 1, by simpa using hi, by simpa using g1, fun u hu => ?_⟩
      rw [List.take_succ_cons] at hu
      rcases List.mem_cons.1 hu with rfl | hu
      · omega
      · exact g2 u hu
/-- The greatest one so far, as the document goes. -/
def rmN (L : Int) (ts : List (Int × Int)) : Nat → Int
  | 0 => 0
  | k + 1 => if rmN L ts k < bsL ((ts.getD k (0, 0)).1 - L) (ts.getD k (0, 0)).1 ts then bsL ((ts.getD k (0, 0)).1 - L) (ts.getD k (0, 0)).1 ts else rmN L ts k
theorem rmN_step (L : Int) {ts : List (Int × Int)} {k : Nat} (h : k < ts.length) : rmN L ts (k + 1) = if rmN L ts k < bsL (ts[k].1 - L) ts[k].1 ts then bsL (ts[k].1 - L) ts[k].1 ts else rmN L ts k := by
  have e : ts.getD k (0, 0) = ts[k] := by rw [List.getD_eq_getElem?_getD, List.getElem?_eq_getElem h]; rfl
  show (if rmN L ts k < bsL ((ts.getD k (0, 0)).1 - L) (ts.getD k (0, 0)).1 ts then bsL ((ts.getD k (0, 0)).1 - L) (ts.getD k (0, 0)).1 ts else rmN L ts k) = _
  rw [e]
theorem rmN_ok (L : Int) (ts : List (Int × Int)) : ∀ k, k ≤ ts.length → (∀ i (h : i < ts.length), i < k → bsL (ts[i].1 - L) ts[i].1 ts ≤ rmN L ts k) ∧ (rmN L ts k = 0 ∨ ∃ i, ∃ h : i < ts.length, rmN L ts k = bsL (ts[i].1 - L) ts[i].1 ts) ∧ 0 ≤ rmN L ts k
  | 0, _ => ⟨fun i _ h => absurd h (by omega), .inl rfl, Int.le_refl 0⟩
  | k + 1, hk => by
    obtain ⟨a, b, c⟩ := rmN_ok L ts k (by omega)
    rw [rmN_step L (by omega : k < ts.length)]
    by_cases h : rmN L ts k < bsL (ts[k].1 - L) ts[k].1 ts
    · rw [if_pos h]
      refine ⟨fun i hi hik => ?_, .inr ⟨k, by omega, rfl⟩, by omega⟩
      by_cases e : i = k
      · subst e; exact Int.le_refl _
      · have := a i hi (by omega); omega
    · rw [if_neg h]
      refine ⟨fun i hi hik => ?_, b, c⟩
      by_cases e : i = k
      · subst e; omega
      · exact a i hi (by omega)
/-- Both find the same. -/
theorem wt_same {L : Int} (hL : 0 ≤ L) {ts : List (Int × Int)} (hp : PosP ts) (hs : ts.Pairwise (fun u v => u.1 ≤ v.1)) (h0 : 0 < ts.length) : rmN L ts ts.length = (gsI (wtL L ts)).getD 0 := by
  obtain ⟨a, b, c⟩ := rmN_ok L ts ts.length (Nat.le_refl _)
  obtain ⟨m1, m2⟩ := gsI_mem (xs := wtL L ts) (by rw [wtL_len]; exact h0)
  generalize (gsI (wtL L ts)).getD 0 = g at *
  generalize rmN L ts ts.length = r at *
  have wt_mem : ∀ i (h : i < ts.length), fsL (ts[i].1 + L) (ts.drop i) ≤ g := fun i h => m2 _ (by rw [← wtL_get L h]; exact List.getElem_mem _)
  have pd : ∀ i, PosP (ts.drop i) := fun i t ht => hp t (List.mem_of_mem_drop ht)
  have k1 : ∀ i (h : i < ts.length), ∃ j, ∃ h : j < ts.length, fsL (ts[i].1 + L) (ts.drop i) ≤ bsL (ts[j].1 - L) ts[j].1 ts := by
    intro i h
    have hin : ts[i] ∈ ts.drop i := by rw [List.drop_eq_getElem_cons h]; exact List.mem_cons_self
    rcases near_lo ((ts.drop i).map (·.1)) (ts[i].1 + L) with hn | ⟨m, hm, m3, m4⟩
    · have := hn ts[i].1 (List.mem_map.2 ⟨_, hin, rfl⟩); omega
    · obtain ⟨u, hu, rfl⟩ := List.mem_map.1 hm
      obtain ⟨j, hj, rfl⟩ := List.mem_iff_getElem.1 (List.mem_of_mem_drop hu)
      refine ⟨j, hj, ?_⟩
      have e : ts = ts.take i ++ ts.drop i := (List.take_append_drop i ts).symm
      have f1 : fsL (ts[i].1 + L) (ts.drop i) ≤ bsL (ts[j].1 - L) ts[j].1 (ts.drop i) := fs_le_bs (pd i) fun t ht hb => by
        have q := m4 t.1 (List.mem_map.2 ⟨t, ht, rfl⟩)
        have q2 : ts[i].1 ≤ t.1 := by
          rw [List.drop_eq_getElem_cons h] at ht
          rcases List.mem_cons.1 ht with rfl | ht
          · exact Int.le_refl _
          · have hs2 : (ts.drop i).Pairwise (fun u v => u.1 ≤ v.1) := hs.sublist (List.drop_sublist _ _)
            rw [List.drop_eq_getElem_cons h, List.pairwise_cons] at hs2
            exact hs2.1 t ht
        omega
      have f2 : 0 ≤ bsL (ts[j].1 - L) ts[j].1 (ts.take i) := bsL_nn _ _ (fun t ht => hp t (List.mem_of_mem_take ht))
      have f3 : bsL (ts[j].1 - L) ts[j].1 ts = bsL (ts[j].1 - L) ts[j].1 (ts.take i) + bsL (ts[j].1 - L) ts[j].1 (ts.drop i) := by rw [← bsL_app, ← e]
      omega
  have k2 : ∀ j (h : j < ts.length), bsL (ts[j].1 - L) ts[j].1 ts ≤ g := by
    intro j h
    obtain ⟨i, hi, g1, g2⟩ := first_ge (lo := ts[j].1 - L) (l := ts) ⟨ts[j], List.getElem_mem _, by omega⟩
    have e : ts = ts.take i ++ ts.drop i := (List.take_append_drop i ts).symm
    have f3 : bsL (ts[j].1 - L) ts[j].1 ts = bsL (ts[j].1 - L) ts[j].1 (ts.take i) + bsL (ts[j].1 - L) ts[j].1 (ts.drop i) := by rw [← bsL_app, ← e]
    have f1 : bsL (ts[j].1 - L) ts[j].1 (ts.drop i) ≤ fsL (ts[i].1 + L) (ts.drop i) := bs_le_fs (pd i) fun t ht hb => by omega
    have f2 : bsL (ts[j].1 - L) ts[j].1 (ts.take i) = 0 := bsL_zero g2
    have := wt_mem i hi
    omega
  obtain ⟨i, hi, e⟩ := List.mem_iff_getElem.1 m1
  rw [wtL_len] at hi
  rw [wtL_get L hi] at e
  obtain ⟨j, hj, f⟩ := k1 i hi
  have a2 := a j hj hj
  rcases b with b | ⟨q, hq, b⟩
  · have := fsL_bd (ts[i].1 + L) (ts := ts.drop i)
    have nn : 0 ≤ fsL (ts[i].1 + L) (ts.drop i) := by
      have key : ∀ l : List (Int × Int), PosP l → 0 ≤ fsL (ts[i].1 + L) l := by
        intro l
        induction l with
        | nil => intro _; exact Int.le_refl 0
        | cons t l ih =>
          intro h
          have := ih (fun u hu => h u (by simp [hu]))
          have := h t (by simp)
          unfold fsL; split <;> omega
      exact key _ (pd i)
    omega
  · have := k2 q hq
    omega
end Go.Proofs.Ytdignnmhiifpgaa
