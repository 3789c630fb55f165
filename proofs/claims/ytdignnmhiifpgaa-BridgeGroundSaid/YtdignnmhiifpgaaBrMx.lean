/- The worst effects: no effect is greater; the mathematics. -/
import Derived.Test.YtdignnmhiifpgaaBrY
namespace Go.Proofs.Ytdignnmhiifpgaa
open Go.RowKit Go.Proofs.Gn
set_option linter.unusedVariables false
/-- A line is no lower than between its values wherever it has no corner, and nothing beside its corners. -/
structure LnCv (L : Ln) : Prop where
  cv : ∀ a0 a a1, a0 ≤ a → a ≤ a1 → (L.c0 ≤ a0 ∨ a1 ≤ L.c0) → (L.c1 ≤ a0 ∨ a1 ≤ L.c1) → (L.c2 ≤ a0 ∨ a1 ≤ L.c2) → (a1 - a0) * L.val a ≤ (a1 - a) * L.val a0 + (a - a0) * L.val a1
  lo : ∀ a, a < L.c0 → a < L.c1 → a < L.c2 → L.val a = 0
  hi : ∀ a, L.c0 < a → L.c1 < a → L.c2 < a → L.val a = 0
  nn : ∀ a, 0 ≤ L.val a
def PosP (ts : List (Int × Int)) : Prop := ∀ t, t ∈ ts → 0 ≤ t.2
theorem mem_brs {L : Ln} {ts : List (Int × Int)} {t : Int × Int} (h : t ∈ ts) : L.org + L.c0 + t.1 ∈ brs L ts ∧ L.org + L.c1 + t.1 ∈ brs L ts ∧ L.org + L.c2 + t.1 ∈ brs L ts := by
  unfold brs
  refine ⟨List.mem_flatMap.2 ⟨t, h, ?_⟩, List.mem_flatMap.2 ⟨t, h, ?_⟩, List.mem_flatMap.2 ⟨t, h, ?_⟩⟩ <;> simp [brT]
/-- The nearest one from below. -/
theorem near_lo (l : List Int) (s : Int) : (∀ b ∈ l, s < b) ∨ ∃ m ∈ l, m ≤ s ∧ ∀ b ∈ l, b ≤ m ∨ s < b := by
  induction l with
  | nil => left; intro b hb; cases hb
  | cons x l ih =>
    rcases ih with h | ⟨m, hm, h1, h2⟩
    · by_cases hx : x ≤ s
      · refine .inr ⟨x, by simp, hx, fun b hb => ?_⟩
        rcases List.mem_cons.1 hb with rfl | hb
        · left; omega
        · right; exact h b hb
      · refine .inl fun b hb => ?_
        rcases List.mem_cons.1 hb with rfl | hb
        · omega
        · exact h b hb
    · by_cases hx : m < x ∧ x ≤ s
      · refine .inr ⟨x, by simp, hx.2, fun b hb => ?_⟩
        rcases List.mem_cons.1 hb with rfl | hb
        · left; omega
        · have := h2 b hb; omega
      · refine .inr ⟨m, by simp [hm], h1, fun b hb => ?_⟩
        rcases List.mem_cons.1 hb with rfl | hb
        · omega
        · exact h2 b hb
theorem near_hi (l : List Int) (s : Int) : (∀ b ∈ l, b < s) ∨ ∃ m ∈ l, s ≤ m ∧ ∀ b ∈ l, m ≤ b ∨ b < s := by
  induction l with
  | nil => left; intro b hb; cases hb
  | cons x l ih =>
    rcases ih with h | ⟨m, hm, h1, h2⟩
    · by_cases hx : s ≤ x
      · refine .inr ⟨x, by simp, hx, fun b hb => ?_⟩
        rcases List.mem_cons.1 hb with rfl | hb
        · left; omega
        · right; exact h b hb
      · refine .inl fun b hb => ?_
        rcases List.mem_cons.1 hb with rfl | hb
        · omega
        · exact h b hb
    · by_cases hx : x < m ∧ s ≤ x
      · refine .inr ⟨x, by simp, hx.2, fun b hb => ?_⟩
        rcases List.mem_cons.1 hb with rfl | hb
        · left; omega
        · have := h2 b hb; omega
      · refine .inr ⟨m, by simp [hm], h1, fun b hb => ?_⟩
        rcases List.mem_cons.1 hb with rfl | hb
        · omega
        · exact h2 b hb
theorem ef_nn {L : Ln} (hc : ∀ a, 0 ≤ L.val a) (s : Int) : ∀ {ts : List (Int × Int)}, PosP ts → 0 ≤ ef L s ts
  | [], _ => Int.le_refl 0
  | t :: ts, h => by
    have ih := ef_nn hc s (ts := ts) (fun u hu => h u (by simp [hu]))
    have : 0 ≤ efT L s t := Int.mul_nonneg (h t (by simp)) (hc _)
    unfold ef
    omega
/-- Between two places with no break between them an effect is no greater than evenly between. -/
theorem ef_cv {L : Ln} (hc : LnCv L) {s0 s s1 : Int} (h0 : s0 ≤ s) (h1 : s ≤ s1) : ∀ {ts : List (Int × Int)}, PosP ts → (∀ b ∈ brs L ts, b ≤ s0 ∨ s1 ≤ b) → (s1 - s0) * ef L s ts ≤ (s1 - s) * ef L s0 ts + (s - s0) * ef L s1 ts
  | [], _, _ => by simp [ef]
  | t :: ts, hp, hb => by
    have hb2 : ∀ b ∈ brs L ts, b ≤ s0 ∨ s1 ≤ b := fun b h => hb b (by unfold brs at h ⊢; rw [List.flatMap_cons]; exact List.mem_append_right _ h)
    have ih := ef_cv hc h0 h1 (ts := ts) (fun u hu => hp u (by simp [hu])) hb2
    obtain ⟨m0, m1, m2⟩ := mem_brs (L := L) (ts := t :: ts) (t := t) (by simp)
    have q0 := hb _ m0
    have q1 := hb _ m1
    have q2 := hb _ m2
    have k := hc.cv (s0 - t.1 - L.org) (s - t.1 - L.org) (s1 - t.1 - L.org) (by omega) (by omega) (by omega) (by omega) (by omega)
    have e1 : s1 - t.1 - L.org - (s0 - t.1 - L.org) = s1 - s0 := by omega
    have e2 : s1 - t.1 - L.org - (s - t.1 - L.org) = s1 - s := by omega
    have e3 : s - t.1 - L.org - (s0 - t.1 - L.org) = s - s0 := by omega
    rw [e1, e2, e3] at k
    have k2 := Int.mul_le_mul_of_nonneg_left k (hp t (by simp))
    unfold ef efT
    generalize L.val (s - t.1 - L.org) = v at *
    generalize L.val (s0 - t.1 - L.org) = v0 at *
    generalize L.val (s1 - t.1 - L.org) = v1 at *
    generalize ef L s ts = e at *
    generalize ef L s0 ts = e0 at *
    generalize ef L s1 ts = e1 at *
    have x1 : (s1 - s0) * (t.2 * v + e) = t.2 * ((s1 - s0) * v) + (s1 - s0) * e := by grind
    have x2 : (s1 - s) * (t.2 * v0 + e0) + (s - s0) * (t.2 * v1 + e1) = t.2 * ((s1 - s) * v0 + (s - s0) * v1) + ((s1 - s) * e0 + (s - s0) * e1) := by grind
    rw [x1, x2]
    omega
theorem ef_zero {L : Ln} {s : Int} : ∀ {ts : List (Int × Int)}, (∀ t ∈ ts, L.val (s - t.1 - L.org) = 0) → ef L s ts = 0
  | [], _ => rfl
  | t :: ts, h => by
    unfold ef efT
    rw [h t (by simp), ef_zero (ts := ts) (fun u hu => h u (by simp [hu]))]
    simp
theorem brs_ne {L : Ln} {ts : List (Int × Int)} (h : 0 < ts.length) : ∃ b, b ∈ brs L ts := by
  match ts, h with
  | t :: ts, _ => exact ⟨_, (mem_brs (L := L) (ts := t :: ts) (t := t) (by simp)).1⟩
/-- At some break an effect is as great as anywhere. -/
theorem ef_break {L : Ln} (hc : LnCv L) {ts : List (Int × Int)} (hp : PosP ts) (h0 : 0 < ts.length) (s : Int) : ∃ b ∈ brs L ts, ef L s ts ≤ ef L b ts := by
  rcases near_lo (brs L ts) s with hl | ⟨m, hm, m1, m2⟩
  · obtain ⟨b, hb⟩ := brs_ne (L := L) h0
    refine ⟨b, hb, ?_⟩
    rw [ef_zero (fun t ht => ?_)]
    · exact ef_nn hc.nn b hp
    · obtain ⟨a0, a1, a2⟩ := mem_brs (L := L) ht
      have := hl _ a0; have := hl _ a1; have := hl _ a2
      exact hc.lo _ (by omega) (by omega) (by omega)
  · rcases near_hi (brs L ts) s with hr | ⟨n, hn, n1, n2⟩
    · obtain ⟨b, hb⟩ := brs_ne (L := L) h0
      refine ⟨b, hb, ?_⟩
      rw [ef_zero (fun t ht => ?_)]
      · exact ef_nn hc.nn b hp
      · obtain ⟨a0, a1, a2⟩ := mem_brs (L := L) ht
        have := hr _ a0; have := hr _ a1; have := hr _ a2
        exact hc.hi _ (by omega) (by omega) (by omega)
    · by_cases hs : m = s
      · exact ⟨m, hm, by rw [hs]; exact Int.le_refl _⟩
      · by_cases hs2 : n = s
        · exact ⟨n, hn, by rw [hs2]; exact Int.le_refl _⟩
        · have k := ef_cv hc m1 n1 hp (fun b hb => by have := m2 b hb; have := n2 b hb; omega)
          by_cases hle : ef L s ts ≤ ef L m ts
          · exact ⟨m, hm, hle⟩
          · refine ⟨n, hn, ?_⟩
            refine Int.not_lt.1 fun hlt => ?_
            generalize ef L s ts = e at *
            generalize ef L m ts = e0 at *
            generalize ef L n ts = e1 at *
            have y1 : (n - s) * (e0 + 1) ≤ (n - s) * e := Int.mul_le_mul_of_nonneg_left (by omega) (by omega)
            have y2 : (s - m) * (e1 + 1) ≤ (s - m) * e := Int.mul_le_mul_of_nonneg_left (by omega) (by omega)
            have y3 : (n - m) * e = (n - s) * e + (s - m) * e := by grind
            have y4 : (n - s) * (e0 + 1) = (n - s) * e0 + (n - s) := by grind
            have y5 : (s - m) * (e1 + 1) = (s - m) * e1 + (s - m) := by grind
            omega
theorem btE_some (c a : Int × Int) : btE (some c) a = some (if 0 < cmpE a.1 a.2 c.1 c.2 then a else c) := by
  unfold btE
  simp only
  split <;> rfl
theorem bt_fold : ∀ (l : List (Int × Int)) (c : Int × Int), ∃ x, l.foldl btE (some c) = some x ∧ (x = c ∨ x ∈ l) ∧ c.1 ≤ x.1 ∧ ∀ y ∈ l, y.1 ≤ x.1
  | [], c => ⟨c, rfl, .inl rfl, Int.le_refl _, fun y hy => by cases hy⟩
  | a :: l, c => by
    rw [List.foldl_cons, btE_some]
    by_cases h : 0 < cmpE a.1 a.2 c.1 c.2
    · rw [if_pos h]
      rw [cmpE_pos] at h
      obtain ⟨x, e, m, g, f⟩ := bt_fold l a
      refine ⟨x, e, .inr (by rcases m with rfl | m <;> simp [*]), by omega, fun y hy => ?_⟩
      rcases List.mem_cons.1 hy with rfl | hy
      · exact g
      · exact f y hy
    · rw [if_neg h]
      rw [cmpE_pos] at h
      obtain ⟨x, e, m, g, f⟩ := bt_fold l c
      refine ⟨x, e, by rcases m with rfl | m <;> simp [*], g, fun y hy => ?_⟩
      rcases List.mem_cons.1 hy with rfl | hy
      · omega
      · exact f y hy
/-- The worst one is one of them, and none is greater. -/
theorem bsE_mem {xs : List (Int × Int)} (h : 0 < xs.length) : ∃ x, bsE xs = some x ∧ x ∈ xs ∧ ∀ y ∈ xs, y.1 ≤ x.1 := by
  match xs, h with
  | a :: l, _ =>
    obtain ⟨x, e, m, g, f⟩ := bt_fold l a
    refine ⟨x, by unfold bsE; rw [List.foldl_cons]; exact e, by rcases m with rfl | m <;> simp [*], fun y hy => ?_⟩
    rcases List.mem_cons.1 hy with rfl | hy
    · exact g
    · exact f y hy
theorem efs_len (L : Ln) (ts : List (Int × Int)) (h : 0 < ts.length) : 0 < (efs L ts).length := by
  match ts, h with
  | t :: ts, _ => simp [efs, brs, brT]
/-- The worst effect: its value, and where it is; no effect is greater. -/
theorem worst_ok {L : Ln} {ts : List (Int × Int)} (h0 : 0 < ts.length) : ∃ v a, bsE (efs L ts) = some (v, a) ∧ v = ef L a ts ∧ a ∈ brs L ts ∧ ∀ b ∈ brs L ts, ef L b ts ≤ v := by
  obtain ⟨⟨v, a⟩, hx, m, g⟩ := bsE_mem (efs_len L ts h0)
  unfold efs at m g
  obtain ⟨b, hb, e⟩ := List.mem_map.1 m
  unfold efp at e
  simp only [Prod.mk.injEq] at e
  obtain ⟨rfl, rfl⟩ := e
  exact ⟨_, _, hx, rfl, hb, fun c hc => g (ef L c ts, c) (List.mem_map.2 ⟨c, hc, rfl⟩)⟩
theorem worst_every {L : Ln} (hc : LnCv L) {ts : List (Int × Int)} (hp : PosP ts) (h0 : 0 < ts.length) : ∃ v a, bsE (efs L ts) = some (v, a) ∧ v = ef L a ts ∧ a ∈ brs L ts ∧ ∀ s, ef L s ts ≤ v := by
  obtain ⟨v, a, h1, h2, h3, h4⟩ := worst_ok (L := L) h0
  refine ⟨v, a, h1, h2, h3, fun s => ?_⟩
  obtain ⟨b, hb, hle⟩ := ef_break hc hp h0 s
  exact Int.le_trans hle (h4 b hb)
/-- Greater loads have no lesser effect. -/
theorem ef_set_le {L : Ln} (hc : ∀ a, 0 ≤ L.val a) (s : Int) : ∀ {ts : List (Int × Int)} {k : Nat} (h : k < ts.length) {x : Int}, ts[k].2 ≤ x → ef L s ts ≤ ef L s (ts.set k (ts[k].1, x))
  | t :: ts, 0, _, x, hx => by
    simp only [List.set_cons_zero, List.getElem_cons_zero] at hx ⊢
    unfold ef efT
    simp only
    have := Int.mul_le_mul_of_nonneg_right hx (hc (s - t.1 - L.org))
    omega
  | t :: ts, k + 1, h, x, hx => by
    simp only [List.set_cons_succ, List.getElem_cons_succ] at hx ⊢
    have ih := ef_set_le hc s (ts := ts) (k := k) (by simpa using h) hx
    unfold ef
    omega
theorem brs_set {L : Ln} : ∀ {ts : List (Int × Int)} {k : Nat} (h : k < ts.length) {x : Int}, brs L (ts.set k (ts[k].1, x)) = brs L ts
  | t :: ts, 0, _, x => by simp [brs, brT]
  | t :: ts, k + 1, h, x => by
    simp only [List.set_cons_succ, List.getElem_cons_succ]
    have ih := brs_set (L := L) (ts := ts) (k := k) (by simpa using h) (x := x)
    unfold brs at ih ⊢
    rw [List.flatMap_cons, List.flatMap_cons, ih]
theorem worst_more {L : Ln} (hn : ∀ a, 0 ≤ L.val a) {ts : List (Int × Int)} {k : Nat} (h : k < ts.length) {x : Int} (hx : ts[k].2 ≤ x) {v a v' a' : Int} (h1 : bsE (efs L ts) = some (v, a)) (h2 : bsE (efs L (ts.set k (ts[k].1, x))) = some (v', a')) : v ≤ v' := by
  obtain ⟨v1, a1, g1, g2, g3, g4⟩ := worst_ok (L := L) (ts := ts) (by omega)
  obtain ⟨v2, a2, f1, f2, f3, f4⟩ := worst_ok (L := L) (ts := ts.set k (ts[k].1, x)) (by rw [List.length_set]; omega)
  rw [h1] at g1; rw [h2] at f1
  cases g1; cases f1
  rw [brs_set h] at f4
  have := f4 _ g3
  have := ef_set_le hn a h hx
  omega
theorem tnt_lo {r f : Int} (h : r ≤ 0 ∨ f ≤ 0) : tnt r f = 0 := by unfold tnt; (repeat' split) <;> omega
theorem tnt_r {r f : Int} (h : 0 ≤ r) (h2 : r ≤ f) : tnt r f = r := by unfold tnt; (repeat' split) <;> omega
theorem tnt_f {r f : Int} (h : 0 ≤ f) (h2 : f ≤ r) : tnt r f = f := by unfold tnt; (repeat' split) <;> omega
theorem tnt_nn (r f : Int) : 0 ≤ tnt r f := by unfold tnt; (repeat' split) <;> omega
theorem np_mul {a b : Int} (h : a ≤ 0) (h2 : 0 ≤ b) : a * b ≤ 0 := by
  have := Int.mul_nonneg (a := -a) (by omega) h2
  rw [Int.neg_mul] at this; omega
theorem np_mul' {a b : Int} (h : 0 ≤ a) (h2 : b ≤ 0) : a * b ≤ 0 := by rw [Int.mul_comm]; exact np_mul h2 h
theorem moL_lo {len x a : Int} (hx : 0 ≤ x ∧ x ≤ len) (h : a ≤ 0) : moL len x a = 0 := tnt_lo (.inl (np_mul h (by omega)))
theorem moL_hi {len x a : Int} (hx : 0 ≤ x ∧ x ≤ len) (h : len ≤ a) : moL len x a = 0 := tnt_lo (.inr (np_mul' hx.1 (by omega)))
theorem moL_up {len x a : Int} (hx : 0 ≤ x ∧ x ≤ len) (h : 0 ≤ a ∧ a ≤ x) : moL len x a = a * (len - x) := by
  refine tnt_r (Int.mul_nonneg h.1 (by omega)) ?_
  have := Int.mul_le_mul_of_nonneg_right h.2 (show 0 ≤ len by omega)
  have e1 : a * (len - x) = a * len - a * x := by grind
  have e2 : x * (len - a) = x * len - a * x := by grind
  omega
theorem moL_dn {len x a : Int} (hx : 0 ≤ x ∧ x ≤ len) (h : x ≤ a ∧ a ≤ len) : moL len x a = x * (len - a) := by
  refine tnt_f (Int.mul_nonneg hx.1 (by omega)) ?_
  have := Int.mul_le_mul_of_nonneg_right h.1 (show 0 ≤ len by omega)
  have e1 : a * (len - x) = a * len - a * x := by grind
  have e2 : x * (len - a) = x * len - a * x := by grind
  omega
theorem cv_zero {a0 a a1 v v0 v1 : Int} (h0 : a0 ≤ a) (h1 : a ≤ a1) (hv : v = 0) (n0 : 0 ≤ v0) (n1 : 0 ≤ v1) : (a1 - a0) * v ≤ (a1 - a) * v0 + (a - a0) * v1 := by
  have := Int.mul_nonneg (show 0 ≤ a1 - a by omega) n0
  have := Int.mul_nonneg (show 0 ≤ a - a0 by omega) n1
  rw [hv, Int.mul_zero]; omega
theorem mo_cv {len x : Int} (hx : 0 ≤ x ∧ x ≤ len) {a0 a a1 : Int} (h0 : a0 ≤ a) (h1 : a ≤ a1) (k0 : 0 ≤ a0 ∨ a1 ≤ 0) (k1 : x ≤ a0 ∨ a1 ≤ x) (k2 : len ≤ a0 ∨ a1 ≤ len) : (a1 - a0) * moL len x a ≤ (a1 - a) * moL len x a0 + (a - a0) * moL len x a1 := by
  by_cases c0 : a1 ≤ 0
  · exact cv_zero h0 h1 (moL_lo hx (by omega)) (tnt_nn _ _) (tnt_nn _ _)
  by_cases c1 : len ≤ a0
  · exact cv_zero h0 h1 (moL_hi hx (by omega)) (tnt_nn _ _) (tnt_nn _ _)
  by_cases c2 : x ≤ a0
  · rw [moL_dn hx ⟨by omega, by omega⟩, moL_dn hx ⟨by omega, by omega⟩, moL_dn hx ⟨by omega, by omega⟩]
    have : (a1 - a0) * (x * (len - a)) = (a1 - a) * (x * (len - a0)) + (a - a0) * (x * (len - a1)) := by grind
    omega
  · rw [moL_up hx ⟨by omega, by omega⟩, moL_up hx ⟨by omega, by omega⟩, moL_up hx ⟨by omega, by omega⟩]
    have : (a1 - a0) * (a * (len - x)) = (a1 - a) * (a0 * (len - x)) + (a - a0) * (a1 * (len - x)) := by grind
    omega
theorem enL_in {len a : Int} (h : 0 ≤ a ∧ a ≤ len) (right : Bool) : enL right len a = if right then a else len - a := by
  unfold enL; rw [if_pos (win6_mk h)]
theorem enL_out {len a : Int} (h : ¬ (0 ≤ a ∧ a ≤ len)) (right : Bool) : enL right len a = 0 := by
  unfold enL; rw [if_neg (by simpa [win6] using h)]
theorem enL_nn {len : Int} (right : Bool) (a : Int) : 0 ≤ enL right len a := by
  by_cases h : 0 ≤ a ∧ a ≤ len
  · rw [enL_in h]; split <;> omega
  · rw [enL_out h]; omega
theorem enL_sum {len : Int} (a : Int) : enL false len a + enL true len a = if 0 ≤ a ∧ a ≤ len then len else 0 := by
  by_cases h : 0 ≤ a ∧ a ≤ len
  · rw [enL_in h, enL_in h, if_pos h]; simp
  · rw [enL_out h, enL_out h, if_neg h]; simp
theorem en_cv {len : Int} (right : Bool) {a0 a a1 : Int} (h0 : a0 ≤ a) (h1 : a ≤ a1) (k0 : 0 ≤ a0 ∨ a1 ≤ 0) (k2 : len ≤ a0 ∨ a1 ≤ len) : (a1 - a0) * enL right len a ≤ (a1 - a) * enL right len a0 + (a - a0) * enL right len a1 := by
  by_cases e0 : a = a0
  · subst e0
    have : (a - a) * enL right len a1 = 0 := by rw [Int.sub_self, Int.zero_mul]
    omega
  by_cases e1 : a = a1
  · subst e1
    have : (a - a) * enL right len a0 = 0 := by rw [Int.sub_self, Int.zero_mul]
    omega
  by_cases h : 0 ≤ a ∧ a ≤ len
  · rw [enL_in h, enL_in (a := a0) ⟨by omega, by omega⟩, enL_in (a := a1) ⟨by omega, by omega⟩]
    cases right
    · simp only [Bool.false_eq_true, if_false]
      have : (a1 - a0) * (len - a) = (a1 - a) * (len - a0) + (a - a0) * (len - a1) := by grind
      omega
    · simp only [if_true]
      have : (a1 - a0) * a = (a1 - a) * a0 + (a - a0) * a1 := by grind
      omega
  · exact cv_zero h0 h1 (enL_out h right) (enL_nn _ _) (enL_nn _ _)
def piL (l m a : Int) : Int := tnt (m * (l + a)) (l * (m - a))
theorem piL_lo {l m a : Int} (hm : 0 ≤ m) (h : a ≤ -l) : piL l m a = 0 := tnt_lo (.inl (np_mul' hm (by omega)))
theorem piL_hi {l m a : Int} (hl : 0 ≤ l) (h : m ≤ a) : piL l m a = 0 := tnt_lo (.inr (np_mul' hl (by omega)))
theorem piL_up {l m a : Int} (hl : 0 ≤ l) (hm : 0 ≤ m) (h : -l ≤ a ∧ a ≤ 0) : piL l m a = m * (l + a) := by
  refine tnt_r (Int.mul_nonneg hm (by omega)) ?_
  have e1 := np_mul' hm h.2
  have e2 := np_mul' hl h.2
  have e3 : m * (l + a) = m * l + m * a := by grind
  have e4 : l * (m - a) = m * l - l * a := by grind
  omega
theorem piL_dn {l m a : Int} (hl : 0 ≤ l) (hm : 0 ≤ m) (h : 0 ≤ a ∧ a ≤ m) : piL l m a = l * (m - a) := by
  refine tnt_f (Int.mul_nonneg hl (by omega)) ?_
  have e1 := Int.mul_nonneg hm h.1
  have e2 := Int.mul_nonneg hl h.1
  have e3 : m * (l + a) = m * l + m * a := by grind
  have e4 : l * (m - a) = m * l - l * a := by grind
  omega
theorem pi_cv {l m : Int} (hl : 0 ≤ l) (hm : 0 ≤ m) {a0 a a1 : Int} (h0 : a0 ≤ a) (h1 : a ≤ a1) (k0 : -l ≤ a0 ∨ a1 ≤ -l) (k1 : 0 ≤ a0 ∨ a1 ≤ 0) (k2 : m ≤ a0 ∨ a1 ≤ m) : (a1 - a0) * piL l m a ≤ (a1 - a) * piL l m a0 + (a - a0) * piL l m a1 := by
  by_cases c0 : a1 ≤ -l
  · exact cv_zero h0 h1 (piL_lo hm (by omega)) (tnt_nn _ _) (tnt_nn _ _)
  by_cases c1 : m ≤ a0
  · exact cv_zero h0 h1 (piL_hi hl (by omega)) (tnt_nn _ _) (tnt_nn _ _)
  by_cases c2 : 0 ≤ a0
  · rw [piL_dn hl hm ⟨by omega, by omega⟩, piL_dn hl hm ⟨by omega, by omega⟩, piL_dn hl hm ⟨by omega, by omega⟩]
    have : (a1 - a0) * (l * (m - a)) = (a1 - a) * (l * (m - a0)) + (a - a0) * (l * (m - a1)) := by grind
    omega
  · rw [piL_up hl hm ⟨by omega, by omega⟩, piL_up hl hm ⟨by omega, by omega⟩, piL_up hl hm ⟨by omega, by omega⟩]
    have : (a1 - a0) * (m * (l + a)) = (a1 - a) * (m * (l + a0)) + (a - a0) * (m * (l + a1)) := by grind
    omega
theorem moL_mirror (len x a : Int) : moL len (len - x) a = moL len x (len - a) := by
  unfold moL
  rw [show len - (len - x) = x by omega, show len - (len - a) = a by omega, Int.mul_comm a x, Int.mul_comm (len - x) (len - a)]
  unfold tnt
  (repeat' split) <;> omega
theorem enL_mirror (len a : Int) : enL true len a = enL false len (len - a) := by
  by_cases h : 0 ≤ a ∧ a ≤ len
  · rw [enL_in h, enL_in ⟨by omega, by omega⟩]; simp; omega
  · rw [enL_out h, enL_out (by omega)]

theorem moLn_cv {s : Nat} {x org len : Int} {bl bx : Nat} (hx : 0 ≤ x ∧ x ≤ len) : LnCv (moLn s x org len bl bx) :=
  ⟨fun a0 a a1 h0 h1 k0 k1 k2 => mo_cv hx h0 h1 k0 k1 k2, fun a h0 _ _ => moL_lo hx (by simp only [moLn] at h0; omega), fun a _ _ h2 => moL_hi hx (by simp only [moLn] at h2; omega), fun a => tnt_nn _ _⟩
theorem enLn_cv {right : Bool} {s : Nat} {org len : Int} {bl bs : Nat} : LnCv (enLn right s org len bl bs) :=
  ⟨fun a0 a a1 h0 h1 k0 _ k2 => en_cv right h0 h1 k0 k2, fun a h0 _ _ => enL_out (by simp only [enLn] at h0; omega) right, fun a _ _ h2 => enL_out (by simp only [enLn] at h2; omega) right, fun a => enL_nn _ _⟩
theorem posP_of {ts : List (Int × Int)} (h : TrOk ts) : PosP ts := fun t ht => by
  obtain ⟨k, hk, rfl⟩ := List.mem_iff_getElem.1 ht
  exact (h.2 k hk).2.1
theorem brs_bd {L : Ln} (hc : CoOk L) {ts : List (Int × Int)} (h : TrOk ts) : ∀ b ∈ brs L ts, -4194304 ≤ b ∧ b ≤ 4194304 := fun b hb => by
  unfold brs at hb
  obtain ⟨t, ht, hb⟩ := List.mem_flatMap.1 hb
  obtain ⟨k, hk, rfl⟩ := List.mem_iff_getElem.1 ht
  have := (h.2 k hk).1
  obtain ⟨c0, c1, c2, c3⟩ := hc
  simp only [brT, List.mem_cons, List.not_mem_nil, or_false] at hb
  omega
end Go.Proofs.Ytdignnmhiifpgaa
