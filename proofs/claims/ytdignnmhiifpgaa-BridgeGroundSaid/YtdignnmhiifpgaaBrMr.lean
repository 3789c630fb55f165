/- A span seen from its other end: the mathematics. -/
import Derived.Test.YtdignnmhiifpgaaBrEv
namespace Go.Proofs.Ytdignnmhiifpgaa
open Go.RowKit Go.Proofs.Gn
set_option linter.unusedVariables false
/-- The train backwards. -/
def revT (last : Int) (ts : List (Int × Int)) : List (Int × Int) := ts.reverse.map fun t => (last - t.1, t.2)
theorem revT_len (last : Int) (ts : List (Int × Int)) : (revT last ts).length = ts.length := by simp [revT]
theorem revT_cons (last : Int) (t : Int × Int) (ts : List (Int × Int)) : revT last (t :: ts) = revT last ts ++ [(last - t.1, t.2)] := by simp [revT]
theorem revT_get (last : Int) (ts : List (Int × Int)) {j : Nat} (h : j < ts.length) : (revT last ts)[j]'(by rw [revT_len]; exact h) = (last - (ts[ts.length - 1 - j]'(by omega)).1, (ts[ts.length - 1 - j]'(by omega)).2) := by
  simp [revT]
theorem revT_take (last : Int) (ts : List (Int × Int)) {j : Nat} (h : j < ts.length) : (revT last ts).take (j + 1) = (revT last ts).take j ++ [(last - (ts[ts.length - 1 - j]'(by omega)).1, (ts[ts.length - 1 - j]'(by omega)).2)] := by
  rw [List.take_succ_eq_append_getElem (by rw [revT_len]; exact h), revT_get last ts h]
theorem revT_step (last : Int) (ts : List (Int × Int)) {q : Nat} (h : q < ts.length) : (revT last ts).take (ts.length - (q + 1) + 1) = (revT last ts).take (ts.length - (q + 1)) ++ [(last - ts[q].1, ts[q].2)] := by
  have t := revT_take last ts (j := ts.length - (q + 1)) (by omega)
  have e : ts.length - 1 - (ts.length - (q + 1)) = q := by omega
  simp only [e] at t
  exact t
theorem ef_mir {L M : Ln} {len last : Int} (hv : ∀ a, M.val a = L.val (len - a)) (hL : L.org = 0) (hM : M.org = 0) (s : Int) : ∀ ts, ef M s (revT last ts) = ef L (len + last - s) ts
  | [] => rfl
  | t :: ts => by
    rw [revT_cons, ef_app, ef_mir hv hL hM s ts]
    simp only [ef, efT, hv, hL, hM]
    have e : len - (s - (last - t.1) - 0) = len + last - s - t.1 - 0 := by omega
    rw [e]
    omega
theorem posP_rev {last : Int} {ts : List (Int × Int)} (h : PosP ts) : PosP (revT last ts) := fun t ht => by
  unfold revT at ht
  obtain ⟨u, hu, rfl⟩ := List.mem_map.1 ht
  exact h u (by simpa using hu)
theorem worst_mir {L M : Ln} {len last : Int} (cL : LnCv L) (cM : LnCv M) (hv : ∀ a, M.val a = L.val (len - a)) (hL : L.org = 0) (hM : M.org = 0) {ts : List (Int × Int)} (hp : PosP ts) (h0 : 0 < ts.length) :
    ∃ v a a', bsE (efs L ts) = some (v, a) ∧ bsE (efs M (revT last ts)) = some (v, a') := by
  obtain ⟨v, a, q1, q2, q3, q4⟩ := worst_every cL hp h0
  obtain ⟨v', a', r1, r2, r3, r4⟩ := worst_every cM (posP_rev (last := last) hp) (by rw [revT_len]; exact h0)
  have e1 := r4 (len + last - a)
  rw [ef_mir hv hL hM, show len + last - (len + last - a) = a by omega] at e1
  have e2 := q4 (len + last - a')
  rw [ef_mir hv hL hM] at r2
  have : v = v' := by omega
  subst this
  exact ⟨v, a, a', q1, r1⟩
theorem tok_iff : ∀ {ts : List (Int × Int)} {a : Int}, tok a ts = true ↔ (∀ t ∈ ts, a ≤ t.1 ∧ t.1 ≤ 262144 ∧ 0 ≤ t.2 ∧ t.2 ≤ 1048576) ∧ ts.Pairwise (fun u v => u.1 ≤ v.1)
  | [], a => by simp [tok]
  | t :: ts, a => by
    unfold tok
    rw [Bool.and_eq_true, Bool.and_eq_true, tok_iff (ts := ts) (a := t.1), List.pairwise_cons]
    constructor
    · rintro ⟨h1, h2, h3, h4⟩
      have h1 := win6_yes h1
      have h2 := win6_yes h2
      refine ⟨fun u hu => ?_, fun u hu => (h3 u hu).1, h4⟩
      rcases List.mem_cons.1 hu with rfl | hu
      · omega
      · have := h3 u hu; omega
    · rintro ⟨h1, h2, h3⟩
      have h0 := h1 t (by simp)
      exact ⟨win6_mk ⟨h0.1, h0.2.1⟩, win6_mk ⟨h0.2.2.1, h0.2.2.2⟩, fun u hu => ⟨h2 u hu, (h1 u (by simp [hu])).2⟩, h3⟩
theorem ctE_rev {ts : List (Int × Int)} (h : ctE ts = 0) {last : Int} (hl : ts[ts.length - 1]?.map (·.1) = some last) : ctE (revT last ts) = 0 := by
  unfold ctE at h ⊢
  rw [revT_len]
  split at h
  · rename_i hw
    have hb := win6_yes hw
    rw [if_pos hw]
    split at h
    · rename_i ht
      simp only [Bool.and_eq_true] at ht
      obtain ⟨k1, k2⟩ := tok_iff.1 ht.1
      have hn : 0 < ts.length := by omega
      have hlast : (ts[ts.length - 1]'(by omega)).1 = last := by
        rw [List.getElem?_eq_getElem (by omega)] at hl; simpa using hl
      have hle : ∀ t ∈ ts, t.1 ≤ last := fun t ht => by
        obtain ⟨k, hk, rfl⟩ := List.mem_iff_getElem.1 ht
        rw [← hlast]
        by_cases e : k = ts.length - 1
        · subst e; exact Int.le_refl _
        · exact List.pairwise_iff_getElem.1 k2 k (ts.length - 1) hk (by omega) (by omega)
      rw [if_pos]
      simp only [Bool.and_eq_true]
      constructor
      · refine tok_iff.2 ⟨fun t ht => ?_, ?_⟩
        · unfold revT at ht
          obtain ⟨u, hu, rfl⟩ := List.mem_map.1 ht
          have hu : u ∈ ts := by simpa using hu
          have a1 := k1 u hu
          have a2 := hle u hu
          have a3 := k1 _ (List.getElem_mem (l := ts) (n := ts.length - 1) (by omega))
          rw [hlast] at a3
          simp only
          omega
        · unfold revT
          rw [List.pairwise_map, List.pairwise_reverse]
          exact k2.imp fun h => by simp only; omega
      · have e : (revT last ts)[0]? = some (last - last, (ts[ts.length - 1]'(by omega)).2) := by
          rw [List.getElem?_eq_getElem (by rw [revT_len]; exact hn), revT_get last ts hn]
          simp only [Nat.sub_zero, hlast]
        rw [e]
        simp
    · cases h
  · cases h
/-- What a span seen from its other end tells. -/
theorem mi_facts {b : Brg} {ts : List (Int × Int)} {x : Int} (h1 : wmE b ts 0 x = 0) (h2 : weE b ts 0 = 0) {last : Int} (hl : ts[ts.length - 1]?.map (·.1) = some last) : ∃ len v v' a a' c c' : Int, ∃ p1 p2 p3 p4 p5 p6 p7 p8 : Int,
    b.sp[0]? = some len ∧ (0 ≤ x ∧ x ≤ len) ∧ len ≤ 131072 ∧ wmV b ts 0 x = .agg #[.int .i64 v, .int .i64 p1, .int .i64 p2, .int .i64 a] ∧ wmE b (revT last ts) 0 (len - x) = 0 ∧ wmV b (revT last ts) 0 (len - x) = .agg #[.int .i64 v, .int .i64 p3, .int .i64 p4, .int .i64 a'] ∧
    weV false b ts 0 = .agg #[.int .i64 v', .int .i64 p5, .int .i64 p6, .int .i64 c] ∧ weE b (revT last ts) 0 = 0 ∧ weV true b (revT last ts) 0 = .agg #[.int .i64 v', .int .i64 p7, .int .i64 p8, .int .i64 c'] := by
  obtain ⟨z1, z2, z3⟩ := orF_3 h1
  obtain ⟨y1, y2, y3⟩ := orF_3 h2
  obtain ⟨⟨k1, k2⟩, ⟨k3, k4⟩, k5⟩ := bgE_ok z1
  obtain ⟨t1, t2⟩ := trOk_of z2
  have hw : win6 x 0 (spK b 0) = true := by unfold cpE at z3; rw [if_pos y3] at z3; split at z3 <;> first | assumption | cases z3
  obtain ⟨len, g1, g2, g3, g4⟩ := spK_at y3
  rw [g2] at hw
  have hx := win6_yes hw
  have hk : (0 : Int).toNat < b.sp.length := by simp; omega
  have hlen : b.sp[(0 : Int).toNat] = len := by rw [List.getElem?_eq_getElem hk] at g1; exact Option.some.inj g1
  have hl5 := k5 _ hk
  rw [hlen] at hl5
  have hct := ctE_rev z2 hl
  have e1 : wmE b (revT last ts) 0 (len - x) = 0 := by
    refine orF_3mk z1 hct ?_
    unfold cpE; rw [if_pos y3, g2, if_pos (win6_mk ⟨by omega, by omega⟩)]
  have e2 : weE b (revT last ts) 0 = 0 := orF_3mk z1 hct y3
  have eb : beS b.sp (0 : Int).toNat = 0 := rfl
  have hpp := posP_of t1
  obtain ⟨v, a, a', q1, q2⟩ := worst_mir (len := len) (last := last) (L := moLn (0 : Int).toNat x (beS b.sp (0 : Int).toNat) len 0 0) (M := moLn (0 : Int).toNat (len - x) (beS b.sp (0 : Int).toNat) len 0 0) (moLn_cv hx) (moLn_cv ⟨by omega, by omega⟩) (fun a => moL_mirror len x a) eb eb hpp t2
  obtain ⟨v', c, c', r1, r2⟩ := worst_mir (len := len) (last := last) (L := enLn false (0 : Int).toNat (beS b.sp (0 : Int).toNat) len 0 0) (M := enLn true (0 : Int).toNat (beS b.sp (0 : Int).toNat) len 0 0) enLn_cv enLn_cv (fun a => enL_mirror len a) eb eb hpp t2
  refine ⟨len, v, v', a, a', c, c', (((0 : Int).toNat : Nat) : Int), x, (((0 : Int).toNat : Nat) : Int), len - x, (((0 : Int).toNat : Nat) : Int), 0, (((0 : Int).toNat : Nat) : Int), len, by simpa using g1, hx, hl5.2, ?_, e1, ?_, ?_, e2, ?_⟩
  · unfold wmV; rw [if_pos h1, g2, q1]; rfl
  · unfold wmV; rw [if_pos e1, g2, q2]; rfl
  · unfold weV; rw [if_pos h2, g2, r1]; rfl
  · unfold weV; rw [if_pos e2, g2, r2]; rfl
end Go.Proofs.Ytdignnmhiifpgaa
