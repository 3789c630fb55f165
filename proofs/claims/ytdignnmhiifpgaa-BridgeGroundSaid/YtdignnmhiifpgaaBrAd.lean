/- What an effect at a place is made of: facts that the laws of package bridge ask for. -/
import Derived.Test.YtdignnmhiifpgaaBrMx
import Derived.Test.YtdignnmhiifpgaaBrLi
namespace Go.Proofs.Ytdignnmhiifpgaa
open Go.RowKit Go.Proofs.Gn
set_option linter.unusedVariables false
/-- The loads on a span. -/
def onS (len org s : Int) : List (Int × Int) → Int
  | [] => 0
  | t :: ts => (if 0 ≤ s - t.1 - org ∧ s - t.1 - org ≤ len then t.2 else 0) + onS len org s ts
theorem onS_app (len org s : Int) (a b : List (Int × Int)) : onS len org s (a ++ b) = onS len org s a + onS len org s b := by
  induction a with
  | nil => simp [onS]
  | cons t a ih => simp only [List.cons_append, onS, ih]; omega
theorem onS_take (len org s : Int) {ts : List (Int × Int)} {k : Nat} (h : k < ts.length) : onS len org s (ts.take (k + 1)) = onS len org s (ts.take k) + (if 0 ≤ s - ts[k].1 - org ∧ s - ts[k].1 - org ≤ len then ts[k].2 else 0) := by
  rw [List.take_succ_eq_append_getElem h, onS_app]; simp [onS]
theorem onS_bd (len org s : Int) {ts : List (Int × Int)} (h : TrOk ts) : ∀ k, k ≤ ts.length → 0 ≤ onS len org s (ts.take k) ∧ onS len org s (ts.take k) ≤ 1048576 * (k : Int)
  | 0, _ => by simp [onS]
  | k + 1, hk => by
    have i := onS_bd len org s h k (by omega)
    have t := (h.2 k (by omega)).2
    rw [onS_take len org s (by omega)]
    split <;> omega
theorem ends_sum {s : Nat} {org len p : Int} : ∀ ts : List (Int × Int), ef (enLn false s org len 0 0) p ts + ef (enLn true s org len 0 0) p ts = onS len org p ts * len
  | [] => by simp [ef, onS]
  | t :: ts => by
    have ih := ends_sum (s := s) (org := org) (len := len) (p := p) ts
    have e := enL_sum (len := len) (p - t.1 - org)
    unfold ef efT onS
    have f0 : (enLn false s org len 0 0).val = enL false len := rfl
    have f1 : (enLn true s org len 0 0).val = enL true len := rfl
    have f2 : (enLn false s org len 0 0).org = org := rfl
    have f3 : (enLn true s org len 0 0).org = org := rfl
    rw [f0, f1, f2, f3]
    generalize enL false len (p - t.1 - org) = a at *
    generalize enL true len (p - t.1 - org) = c at *
    generalize ef (enLn false s org len 0 0) p ts = y at *
    generalize ef (enLn true s org len 0 0) p ts = z at *
    generalize onS len org p ts = o at *
    have q : t.2 * a + y + (t.2 * c + z) = t.2 * (a + c) + (y + z) := by grind
    rw [q, e, ih]
    split <;> grind
theorem mo_far {len x a : Int} (hx : 0 ≤ x ∧ x ≤ len) (hl : len ≤ 131072) (h : plE a ≠ 0) : moL len x a = 0 := by
  have : ¬ (win6 a (-4194304) 4194304 = true) := fun hw => h (by unfold plE; rw [if_pos hw])
  have : ¬ (-4194304 ≤ a ∧ a ≤ 4194304) := fun hw => this (win6_mk hw)
  by_cases h0 : a ≤ 0
  · exact moL_lo hx h0
  · exact moL_hi hx (by omega)
/-- What holds where a moment at a place is told. -/
structure AdF (b : Brg) (ts : List (Int × Int)) (s x p : Int) (len : Int) : Prop where
  b0 : bgE b = 0
  t0 : ctE ts = 0
  n : 1 ≤ b.sp.length ∧ b.sp.length ≤ 6
  s0 : 0 ≤ s ∧ s < b.sp.length
  tr : TrOk ts
  t1 : 0 < ts.length
  x0 : 0 ≤ x ∧ x ≤ len
  l0 : 100 ≤ len ∧ len ≤ 131072
  le : b.sp[s.toNat]? = some len
  p0 : -4194304 ≤ p ∧ p ≤ 4194304
  sp : ∀ k (h : k < b.sp.length), 0 ≤ b.sp[k] ∧ b.sp[k] ≤ 131072
  org : 0 ≤ beS b.sp s.toNat ∧ beS b.sp s.toNat ≤ 1048576
  ends : eeE b ts s p = 0
  worst : wmE b ts s x = 0
  mo : moV b ts s x p = ef (moLn s.toNat x (beS b.sp s.toNat) len 0 0) p ts
  en : ∀ right, eeV right b ts s p = ef (enLn right s.toNat (beS b.sp s.toNat) len 0 0) p ts
  wm : wmV b ts s x = beV (moLn s.toNat x (beS b.sp s.toNat) len 0 0) (bsE (efs (moLn s.toNat x (beS b.sp s.toNat) len 0 0) ts))
  li : ∀ a, (liE b s x a = 0 ∧ liV b s x a = moL len x a) ∨ (liE b s x a = 3 ∧ liV b s x a = 0 ∧ moL len x a = 0)
theorem plE_cases (a : Int) : plE a = 0 ∨ plE a = 3 := by unfold plE; split <;> simp
theorem orF_0 {l : List Int} {a : Int} (h : a = 0) : orF (a :: l) = orF l := by subst h; rfl
theorem orF_one (a : Int) : orF [a] = a := by
  unfold orF; split
  · rename_i h; rw [h]; rfl
  · rfl
theorem spK_at {b : Brg} {s : Int} (h : csE b s = 0) : ∃ len, b.sp[s.toNat]? = some len ∧ spK b s = len ∧ 0 ≤ s ∧ s < b.sp.length := by
  have hs : win6 s 0 ((b.sp.length : Int) - 1) = true := by unfold csE at h; split at h <;> first | assumption | cases h
  have hs' := win6_yes hs
  have hk : s.toNat < b.sp.length := by omega
  refine ⟨b.sp[s.toNat], List.getElem?_eq_getElem hk, ?_, by omega, by omega⟩
  unfold spK; rw [List.getD_eq_getElem?_getD, List.getElem?_eq_getElem hk]; rfl
theorem ad_facts {b : Brg} {ts : List (Int × Int)} {s x p : Int} (h : moE b ts s x p = 0) : ∃ len, AdF b ts s x p len := by
  obtain ⟨z1, z2, z3, z4⟩ := orF_4 h
  have hpp : win6 p (-4194304) 4194304 = true := by unfold plE at z4; split at z4 <;> first | assumption | cases z4
  obtain ⟨⟨k1, k2⟩, ⟨k3, k4⟩, k5⟩ := bgE_ok z1
  obtain ⟨t1, t2⟩ := trOk_of z2
  have hcs : csE b s = 0 := by unfold cpE at z3; split at z3 <;> first | assumption | cases z3
  have hw : win6 x 0 (spK b s) = true := by unfold cpE at z3; rw [if_pos hcs] at z3; split at z3 <;> first | assumption | cases z3
  obtain ⟨len, g1, g2, g3, g4⟩ := spK_at hcs
  rw [g2] at hw
  have hx := win6_yes hw
  have hk : s.toNat < b.sp.length := by omega
  have hlen : b.sp[s.toNat] = len := by rw [List.getElem?_eq_getElem hk] at g1; exact Option.some.inj g1
  have hv : ∀ k (h : k < b.sp.length), 0 ≤ b.sp[k] ∧ b.sp[k] ≤ 131072 := fun k hh => by have := k5 k hh; omega
  have bb := beS_bd hv s.toNat
  have hl := k5 _ hk
  rw [hlen] at hl
  have e1 : eeE b ts s p = 0 := by unfold eeE; rw [orF_0 z1, orF_0 z2, orF_0 hcs, orF_one]; exact z4
  have e2 : wmE b ts s x = 0 := by unfold wmE; rw [orF_0 z1, orF_0 z2, orF_one]; exact z3
  refine ⟨len, ⟨z1, z2, ⟨k1, k2⟩, ⟨g3, g4⟩, t1, t2, hx, hl, g1, win6_yes hpp, hv, by omega, e1, e2, ?_, ?_, ?_, ?_⟩⟩
  · unfold moV; rw [if_pos h, g2]
  · intro right; unfold eeV; rw [if_pos e1, g2]
  · unfold wmV; rw [if_pos e2, g2]
  · intro a
    have e3 : liE b s x a = plE a := by unfold liE; rw [orF_0 z1, orF_0 z3, orF_one]
    rcases plE_cases a with hp | hp
    · left
      refine ⟨by rw [e3, hp], ?_⟩
      unfold liV; rw [if_pos (by rw [e3, hp]), g2]
    · right
      refine ⟨by rw [e3, hp], ?_, mo_far hx hl.2 (by rw [hp]; decide)⟩
      unfold liV; rw [if_neg (by rw [e3, hp]; decide)]
theorem moE_ends {b : Brg} {ts : List (Int × Int)} {s x p : Int} (h : moE b ts s x p ≠ 0) : moV b ts s x p = 0 := by unfold moV; rw [if_neg h]
/-- With a greater load the worst effect is no less. -/
theorem ad_more {b : Brg} {ts : List (Int × Int)} {s x p len : Int} (h : AdF b ts s x p len) {k : Nat} (hk : k < ts.length) {y : Int} (h1 : ts[k].2 ≤ y) (h2 : y ≤ 1048576) (hc : ctE (ts.set k (ts[k].1, y)) = 0) :
    ∃ v a v' a' : Int, wmV b ts s x = .agg #[.int .i64 v, .int .i64 s, .int .i64 x, .int .i64 a] ∧ wmE b (ts.set k (ts[k].1, y)) s x = 0 ∧ wmV b (ts.set k (ts[k].1, y)) s x = .agg #[.int .i64 v', .int .i64 s, .int .i64 x, .int .i64 a'] ∧ v ≤ v' := by
  obtain ⟨v, a, q1, q2, q3, q4⟩ := worst_ok (L := moLn s.toNat x (beS b.sp s.toNat) len 0 0) h.t1
  obtain ⟨v', a', r1, r2, r3, r4⟩ := worst_ok (L := moLn s.toNat x (beS b.sp s.toNat) len 0 0) (ts := ts.set k (ts[k].1, y)) (by rw [List.length_set]; exact h.t1)
  have hm := worst_more (moLn_cv h.x0).nn hk h1 q1 r1
  have hcp : cpE b s x = 0 := (orF_3 h.worst).2.2
  have e2 : wmE b (ts.set k (ts[k].1, y)) s x = 0 := by unfold wmE; rw [orF_0 h.b0, orF_0 hc, orF_one]; exact hcp
  have es : ((s.toNat : Nat) : Int) = s := by have := h.s0; omega
  have esp : spK b s = len := by unfold spK; rw [List.getD_eq_getElem?_getD, h.le]; rfl
  refine ⟨v, a, v', a', ?_, e2, ?_, hm⟩
  · rw [h.wm, q1]; unfold beV; simp only [moLn]; rw [es]
  · unfold wmV; rw [if_pos e2, esp, r1]; unfold beV; simp only [moLn]; rw [es]
theorem tok_set : ∀ {ts : List (Int × Int)} {a : Int} {k : Nat} (h : k < ts.length) {y : Int}, 0 ≤ y → y ≤ 1048576 → tok a ts = true → tok a (ts.set k (ts[k].1, y)) = true
  | t :: ts, a, 0, _, y, h0, h1, h => by
    simp only [List.set_cons_zero, List.getElem_cons_zero]
    unfold tok at h ⊢
    simp only [Bool.and_eq_true] at h ⊢
    exact ⟨h.1, win6_mk ⟨h0, h1⟩, h.2.2⟩
  | t :: ts, a, k + 1, hk, y, h0, h1, h => by
    simp only [List.set_cons_succ, List.getElem_cons_succ]
    unfold tok at h ⊢
    simp only [Bool.and_eq_true] at h ⊢
    exact ⟨h.1, h.2.1, tok_set (by simpa using hk) h0 h1 h.2.2⟩
theorem ctE_set {ts : List (Int × Int)} (h : ctE ts = 0) {k : Nat} (hk : k < ts.length) {y : Int} (h0 : 0 ≤ y) (h1 : y ≤ 1048576) : ctE (ts.set k (ts[k].1, y)) = 0 := by
  unfold ctE at h ⊢
  rw [List.length_set]
  split at h
  · rename_i hw
    rw [if_pos hw]
    split at h
    · rename_i ht
      simp only [Bool.and_eq_true] at ht
      rw [if_pos]
      simp only [Bool.and_eq_true]
      refine ⟨tok_set hk h0 h1 ht.1, ?_⟩
      have e : (ts.set k (ts[k].1, y))[0]?.map (·.1) = ts[0]?.map (·.1) := by
        cases k with
        | zero => match ts, hk with | t :: ts, _ => rfl
        | succ k => match ts, hk with | t :: ts, _ => rfl
      rw [e]; exact ht.2
    · cases h
  · cases h
theorem efT_bd2 {L : Ln} (hL : ∀ a, 0 ≤ L.val a ∧ L.val a ≤ 17179869184) (s : Int) {t : Int × Int} (h : 0 ≤ t.2 ∧ t.2 ≤ 1048576) : 0 ≤ efT L s t ∧ efT L s t ≤ 18014398509481984 := by
  unfold efT
  have b := hL (s - t.1 - L.org)
  refine ⟨Int.mul_nonneg h.1 b.1, ?_⟩
  calc t.2 * L.val (s - t.1 - L.org) ≤ 1048576 * 17179869184 := Int.mul_le_mul h.2 b.2 b.1 (by decide)
    _ ≤ 18014398509481984 := by decide
theorem ef_bd2 {L : Ln} (hL : ∀ a, 0 ≤ L.val a ∧ L.val a ≤ 17179869184) (s : Int) {ts : List (Int × Int)} (h : TrOk ts) : ∀ k, k ≤ ts.length → 0 ≤ ef L s (ts.take k) ∧ ef L s (ts.take k) ≤ 18014398509481984 * (k : Int)
  | 0, _ => by simp [ef]
  | k + 1, hk => by
    have i := ef_bd2 hL s h k (by omega)
    have t := efT_bd2 hL s (h.2 k (by omega)).2
    rw [ef_take L s (by omega)]
    omega
end Go.Proofs.Ytdignnmhiifpgaa
