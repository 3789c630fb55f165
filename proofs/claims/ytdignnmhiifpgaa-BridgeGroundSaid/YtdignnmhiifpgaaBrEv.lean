/- No effect is greater than the worst one: facts that BridgeEvery asks for. -/
import Derived.Test.YtdignnmhiifpgaaBrPw
import Derived.Test.YtdignnmhiifpgaaBrAd
namespace Go.Proofs.Ytdignnmhiifpgaa
open Go.RowKit Go.Proofs.Gn
set_option linter.unusedVariables false
theorem plE_in {p : Int} (h : -4194304 ≤ p ∧ p ≤ 4194304) : plE p = 0 := by unfold plE; rw [if_pos (win6_mk h)]
theorem orF_3mk {a b c : Int} (h1 : a = 0) (h2 : b = 0) (h3 : c = 0) : orF [a, b, c] = 0 := by subst h1 h2 h3; rfl
theorem orF_4mk {a b c d : Int} (h1 : a = 0) (h2 : b = 0) (h3 : c = 0) (h4 : d = 0) : orF [a, b, c, d] = 0 := by subst h1 h2 h3 h4; rfl
/-- The worst moment: what the law asks of it. -/
theorem ev_mom {b : Brg} {ts : List (Int × Int)} {s x : Int} (hE : wmE b ts s x = 0) :
    ∃ v a : Int, wmV b ts s x = .agg #[.int .i64 v, .int .i64 s, .int .i64 x, .int .i64 a] ∧ moE b ts s x a = 0 ∧ moV b ts s x a = v ∧ ∀ p, moE b ts s x p = 0 → moV b ts s x p ≤ v := by
  obtain ⟨z1, z2, z3⟩ := orF_3 hE
  obtain ⟨⟨k1, k2⟩, ⟨k3, k4⟩, k5⟩ := bgE_ok z1
  obtain ⟨t1, t2⟩ := trOk_of z2
  have hcs : csE b s = 0 := by unfold cpE at z3; split at z3 <;> first | assumption | cases z3
  have hw : win6 x 0 (spK b s) = true := by unfold cpE at z3; rw [if_pos hcs] at z3; split at z3 <;> first | assumption | cases z3
  obtain ⟨len, g1, g2, g3, g4⟩ := spK_at hcs
  rw [g2] at hw
  have hx := win6_yes hw
  have hk : s.toNat < b.sp.length := by omega
  have hlen : b.sp[s.toNat] = len := by rw [List.getElem?_eq_getElem hk] at g1; exact Option.some.inj g1
  have hv : ∀ k (h : k < b.sp.length), 0 ≤ b.sp[k] ∧ b.sp[k] ≤ 131072 := fun k hh => by have := k5 k hh; omega
  have bb := beS_bd hv s.toNat
  have hl := k5 _ hk
  rw [hlen] at hl
  have ho : 0 ≤ beS b.sp s.toNat ∧ beS b.sp s.toNat ≤ 1048576 := by omega
  obtain ⟨v, a, q1, q2, q3, q4⟩ := worst_every (moLn_cv (s := s.toNat) (x := x) (org := beS b.sp s.toNat) (len := len) (bl := 0) (bx := 0) hx) (posP_of t1) t2
  have ha := brs_bd (moLn_co (s := s.toNat) (x := x) (org := beS b.sp s.toNat) (len := len) (bl := 0) (bx := 0) ⟨by omega, hl.2⟩ hx ho) t1 a q3
  have es : ((s.toNat : Nat) : Int) = s := by omega
  have e0 : moE b ts s x a = 0 := orF_4mk z1 z2 z3 (plE_in ha)
  refine ⟨v, a, ?_, e0, ?_, fun p hp => ?_⟩
  · unfold wmV; rw [if_pos hE, g2, q1]; unfold beV; simp only [moLn]; rw [es]
  · unfold moV; rw [if_pos e0, g2, q2]
  · unfold moV; rw [if_pos hp, g2]; exact q4 p
theorem ev_end {b : Brg} {ts : List (Int × Int)} {s : Int} (right : Bool) (hE : weE b ts s = 0) :
    ∃ v u1 u2 a : Int, weV right b ts s = .agg #[.int .i64 v, .int .i64 u1, .int .i64 u2, .int .i64 a] ∧ eeE b ts s a = 0 ∧ eeV right b ts s a = v ∧ ∀ p, eeE b ts s p = 0 → eeV right b ts s p ≤ v := by
  obtain ⟨z1, z2, z3⟩ := orF_3 hE
  obtain ⟨⟨k1, k2⟩, ⟨k3, k4⟩, k5⟩ := bgE_ok z1
  obtain ⟨t1, t2⟩ := trOk_of z2
  obtain ⟨len, g1, g2, g3, g4⟩ := spK_at z3
  have hk : s.toNat < b.sp.length := by omega
  have hlen : b.sp[s.toNat] = len := by rw [List.getElem?_eq_getElem hk] at g1; exact Option.some.inj g1
  have hv : ∀ k (h : k < b.sp.length), 0 ≤ b.sp[k] ∧ b.sp[k] ≤ 131072 := fun k hh => by have := k5 k hh; omega
  have bb := beS_bd hv s.toNat
  have hl := k5 _ hk
  rw [hlen] at hl
  have ho : 0 ≤ beS b.sp s.toNat ∧ beS b.sp s.toNat ≤ 1048576 := by omega
  obtain ⟨v, a, q1, q2, q3, q4⟩ := worst_every (enLn_cv (right := right) (s := s.toNat) (org := beS b.sp s.toNat) (len := len) (bl := 0) (bs := 0)) (posP_of t1) t2
  have ha := brs_bd (enLn_co (right := right) (s := s.toNat) (org := beS b.sp s.toNat) (len := len) (bl := 0) (bs := 0) ⟨by omega, hl.2⟩ ho) t1 a q3
  have e0 : eeE b ts s a = 0 := orF_4mk z1 z2 z3 (plE_in ha)
  refine ⟨v, ((s.toNat : Nat) : Int), if right then len else 0, a, ?_, e0, ?_, fun p hp => ?_⟩
  · unfold weV; rw [if_pos hE, g2, q1]; rfl
  · unfold eeV; rw [if_pos e0, g2, q2]
  · unfold eeV; rw [if_pos hp, g2]; exact q4 p
theorem ev_pier {b : Brg} {ts : List (Int × Int)} {s : Int} (hE : wpE b ts s = 0) :
    ∃ v u1 u2 a : Int, wpV b ts s = .agg #[.int .i64 v, .int .i64 u1, .int .i64 u2, .int .i64 a] ∧ ppE b ts s a = 0 ∧ ppV b ts s a = v ∧ ∀ p, ppE b ts s p = 0 → ppV b ts s p ≤ v := by
  obtain ⟨z1, z2, z3⟩ := orF_3 hE
  obtain ⟨t1, t2⟩ := trOk_of z2
  have P := pi_facts z1 z3
  have hl := P.hv _ P.hk0
  have hm := P.hv _ P.hk
  rw [← P.e6] at hl
  rw [← P.e9] at hm
  have ho := P.ho
  obtain ⟨v, a, q1, q2, q3, q4⟩ := worst_every (piLn_cv (s := s.toNat) (org := beS b.sp (s.toNat + 1)) (l := spK b s) (m := spK b (s + 1)) (bl := 0) (bm := 0) hl.1 hm.1) (posP_of t1) t2
  have ha := brs_bd (piLn_co (s := s.toNat) (org := beS b.sp (s.toNat + 1)) (l := spK b s) (m := spK b (s + 1)) (bl := 0) (bm := 0) hl hm ho) t1 a q3
  have e0 : ppE b ts s a = 0 := orF_4mk z1 z2 z3 (plE_in ha)
  refine ⟨v, ((s.toNat : Nat) : Int), 0, a, ?_, e0, ?_, fun p hp => ?_⟩
  · unfold wpV; rw [if_pos hE, q1]; rfl
  · unfold ppV; rw [if_pos e0, q2]
  · unfold ppV; rw [if_pos hp]; exact q4 p
theorem wmV_no {b : Brg} {ts : List (Int × Int)} {s x : Int} (hE : wmE b ts s x ≠ 0) : wmV b ts s x = .agg #[.int .i64 0, .int .i64 0, .int .i64 0, .int .i64 0] := by unfold wmV; rw [if_neg hE]; rfl
theorem weV_no {b : Brg} {ts : List (Int × Int)} {s : Int} {right : Bool} (hE : weE b ts s ≠ 0) : weV right b ts s = .agg #[.int .i64 0, .int .i64 0, .int .i64 0, .int .i64 0] := by unfold weV; rw [if_neg hE]; rfl
theorem wpV_no {b : Brg} {ts : List (Int × Int)} {s : Int} (hE : wpE b ts s ≠ 0) : wpV b ts s = .agg #[.int .i64 0, .int .i64 0, .int .i64 0, .int .i64 0] := by unfold wpV; rw [if_neg hE]; rfl
end Go.Proofs.Ytdignnmhiifpgaa
