/- Whether two hulls meet. -/
import Derived.Test.YtihckoenfklhpaaFirst
import Derived.Test.YtihckoenfklhpaaHulls
namespace Go.Proofs.Ytihckoenfklhpaa
open Go.RowKit Go.Proofs.Gn
/-- A valid hull. -/
structure HV (ps : Pl) : Prop where
  poly : Gx.Poly ps
  len : ps.length ≤ 256
  ok : okL ps = true
theorem HV.pos {ps : Pl} (h : HV ps) : 0 < ps.length := List.length_pos_iff.2 h.poly.ne
theorem HV.is {ps : Pl} (h : HV ps) : isHB ps = true := isHB_iff.2 h.poly.toIsH
theorem HV.bd {ps : Pl} (h : HV ps) : BdL ps := okL_bdL h.ok
/-- The slice at g, o, of this capacity, holds these points. -/
structure At (W : World) (g o cap : Nat) (ps : Pl) : Prop where
  pts : ∀ k (h : k < ps.length), W.cell? ⟨g, o + k * 2, none⟩ = some (.int .i64 ps[k].1) ∧ W.cell? ⟨g, o + k * 2 + 1, none⟩ = some (.int .i64 ps[k].2)
  room : ps.length ≤ cap
  most : cap ≤ 9223372036854775807
theorem At.up {W W' : World} {g o cap : Nat} {ps : Pl} (h : At W g o cap ps) (hu : Up W W') : At W' g o cap ps := ⟨fun k hk => ⟨up_cell hu (h.pts k hk).1, up_cell hu (h.pts k hk).2⟩, h.room, h.most⟩
theorem At.pt {W : World} {g o cap : Nat} {ps : Pl} (h : At W g o cap ps) : Pts W (some ⟨g, o, none⟩) ps := .inr ⟨g, o, rfl, h.pts⟩
theorem hulE_two {A B : Option Addr} {a b : Pl} {ca cb : Nat} (ha : HV a) (hb : HV b) : hulE [⟨A, a, ca⟩, ⟨B, b, cb⟩] = 0 := by
  have h1 : chkLL [⟨A, a, ca⟩, ⟨B, b, cb⟩] = 0 := by simp [chkLL, fewB, okLL, ha.len, hb.len, ha.ok, hb.ok]
  unfold hulE
  rw [if_pos h1]
  simp [ha.is, hb.is]
theorem p_chk2 {a b : Pl} (ha : HV a) (hb : HV b) {ga oa ca gb ob cb : Nat} (B : Nat) (W : World) (h1 : At W ga oa ca a) (h2 : At W gb ob cb b) (k1 : W.cell? ⟨B, 0, none⟩ = some (.slice (some ⟨ga, oa, none⟩) a.length ca)) (k2 : W.cell? ⟨B, 1, none⟩ = some (.slice (some ⟨gb, ob, none⟩) b.length cb)) :
    Calls Try.prog 37 #[.slice (some ⟨B, 0, none⟩) 2 2] W fun e w' => e = .returned (.int .i64 0) ∧ Up W w' := by
  have q := p_checkHulls (some ⟨B, 0, none⟩) [⟨some ⟨ga, oa, none⟩, a, ca⟩, ⟨some ⟨gb, ob, none⟩, b, cb⟩] 2 W (lss_two (l := ⟨some ⟨ga, oa, none⟩, a, ca⟩) (m := ⟨some ⟨gb, ob, none⟩, b, cb⟩) k1 h1.pt (by have := ha.len; show a.length ≤ _; omega) k2 h2.pt (by have := hb.len; show b.length ≤ _; omega)) (by simp) (by
    intro l hl
    simp only [List.mem_cons, List.not_mem_nil, or_false] at hl
    rcases hl with rfl | rfl
    · exact ⟨ha.pos, h1.room, h1.most⟩
    · exact ⟨hb.pos, h2.room, h2.most⟩)
  rw [hulE_two ha hb] at q
  exact q
theorem diff_bd {a b D : Pl} (h : Gx.Diff a b D) (ha : okL a = true) (hb : okL b = true) : ∀ r ∈ D, (-33554432 ≤ r.1 ∧ r.1 ≤ 33554432) ∧ (-33554432 ≤ r.2 ∧ r.2 ≤ 33554432) := fun r hr => by
  obtain ⟨x, hx, y, hy, rfl⟩ := h.mem r hr
  have p1 := okp_yes (List.all_eq_true.1 ha x hx)
  have p2 := okp_yes (List.all_eq_true.1 hb y hy)
  have q1 := okc_yes p1.1; have q2 := okc_yes p1.2; have q3 := okc_yes p2.1; have q4 := okc_yes p2.2
  unfold Gx.sb
  simp only
  omega
theorem diff_bdL {a b D : Pl} (h : Gx.Diff a b D) (ha : okL a = true) (hb : okL b = true) : BdL D := fun r hr => by
  have := diff_bd h ha hb r hr
  unfold Bd
  omega
/-- What the walk of the differences leaves. -/
def DiffAt (w : World) (a b : Pl) (v : Value) (w' : World) : Prop := ∃ D g cap, v = .slice (some ⟨g, 0, none⟩) D.length cap ∧ Gx.Diff a b D ∧ (∃ l, Gx.Path a (Gx.opL b l) D) ∧ D.length ≤ 2000 ∧ At w' g 0 cap D ∧ w.heap.size ≤ g ∧ Up w w'
theorem p_diff {a b : Pl} (ha : HV a) (hb : HV b) {ga oa ca gb ob cb : Nat} (W : World) (h1 : At W ga oa ca a) (h2 : At W gb ob cb b) :
    Calls Try.prog 50 #[.slice (some ⟨ga, oa, none⟩) a.length ca, .slice (some ⟨gb, ob, none⟩) b.length cb] W fun e w' => ∃ v, e = .returned v ∧ DiffAt W a b v w' :=
  (p_differences ga oa gb ob a b ca cb W h1.pts h2.pts (by have := ha.len; omega) (by have := hb.len; omega) ha.bd hb.bd ha.poly hb.poly).mono fun e w' ⟨v, he, D, l, hp, hd, hl, ho, hu⟩ => by
    obtain ⟨g, cap, rfl, q1, q2, q3⟩ := own_some ho (List.length_pos_iff.2 hd.poly.ne)
    exact ⟨_, he, D, g, cap, rfl, hd, ⟨l, hp⟩, hl, ⟨own_cells ho, q2, q3⟩, q1, hu⟩
/-- Whether they meet. -/
theorem p_Meet {a b : Pl} (ha : HV a) (hb : HV b) {ga oa ca gb ob cb : Nat} (w : World) (h1 : At w ga oa ca a) (h2 : At w gb ob cb b) {m : Bool} (hm : m = true ↔ Gx.Diffs a b (0, 0)) :
    Calls Try.prog 20 #[.slice (some ⟨ga, oa, none⟩) a.length ca, .slice (some ⟨gb, ob, none⟩) b.length cb] w fun e w' => e = .returned (.tuple #[.bool m, .int .i64 0]) ∧ Up w w' := by
  have PC : ∀ (B : Nat) (W : World), Up w W → W.cell? ⟨B, 0, none⟩ = some (.slice (some ⟨ga, oa, none⟩) a.length ca) → W.cell? ⟨B, 1, none⟩ = some (.slice (some ⟨gb, ob, none⟩) b.length cb) → Calls Try.prog 37 #[.slice (some ⟨B, 0, none⟩) 2 2] W fun e w' => e = .returned (.int .i64 0) ∧ Up W w' :=
    fun B W hu k1 k2 => p_chk2 ha hb B W (h1.up hu) (h2.up hu) k1 k2
  have PD : ∀ W, Up w W → Calls Try.prog 50 #[.slice (some ⟨ga, oa, none⟩) a.length ca, .slice (some ⟨gb, ob, none⟩) b.length cb] W fun e w' => ∃ v, e = .returned v ∧ DiffAt W a b v w' := fun W hu => p_diff ha hb W (h1.up hu) (h2.up hu)
  have PK : ∀ (W0 W : World) (v : Value), DiffAt W0 a b v W → Calls Try.prog 39 #[v, pt 0 0] W fun e w' => e = .returned (.bool m) ∧ Up W w' := fun W0 W v hD => by
    obtain ⟨D, g, cap, rfl, hd, _, hl, hA, _, _⟩ := hD
    refine (p_contains g 0 D cap 0 0 W hA.pts (List.length_pos_iff.2 hd.poly.ne) (by omega) (diff_bdL hd ha.ok hb.ok) (by unfold Bd; omega) (by unfold Bd; omega)).mono fun e w' ⟨⟨v, he, hv⟩, hu⟩ => ⟨?_, hu⟩
    have : v = m := by
      have k := hv.trans ((hd.cont (0, 0)).trans hm.symm)
      cases v <;> cases m <;> simp at k ⊢
    rw [he, this]
  have HPC := hide PC
  have HPD := hide PD
  have HPK := hide PK
  clear PC PD PK h1 h2 hm
  obtain ⟨n1, e1⟩ : ∃ n, a.length = n := ⟨_, rfl⟩
  obtain ⟨n2, e2⟩ : ∃ n, b.length = n := ⟨_, rfl⟩
  rw [e1] at HPC HPD ⊢
  rw [e2] at HPC HPD ⊢
  clear e1 e2
  go_enter Try.func20, Try.ntmps20
  go_wp2_with (first
    | (go_at_call 37; (with_reducible refine (unhide HPC _ _ (by repeat' (first | (with_reducible exact up_refl _) | (with_reducible assumption) | (with_reducible refine up_alloc ?_ _) | (with_reducible refine up_drewN ?_ _) | (with_reducible refine up_drew ?_) | (with_reducible refine up_set ?_ (by first | (simp; done) | (simp; omega) | omega) _) | (refine up_trans ?_ (by with_reducible assumption)))) ?_ ?_).mono ?_); (· go_cell); (· go_cell); rintro e w1 ⟨rfl, hb1⟩)
    | (go_at_call 50; (with_reducible refine (unhide HPD _ (by repeat' (first | (with_reducible exact up_refl _) | (with_reducible assumption) | (with_reducible refine up_alloc ?_ _) | (with_reducible refine up_drewN ?_ _) | (with_reducible refine up_drew ?_) | (with_reducible refine up_set ?_ (by first | (simp; done) | (simp; omega) | omega) _) | (refine up_trans ?_ (by with_reducible assumption))))).mono ?_); rintro e w2 ⟨v, rfl, hD⟩; have HD := hide hD; have hu2 : Up w1 w2 := hD.choose_spec.choose_spec.choose_spec.2.2.2.2.2.2; clear hD)
    | (go_at_call 39; (with_reducible refine (unhide HPK _ _ _ (unhide HD)).mono ?_); rintro e w3 ⟨rfl, hb3⟩))
  go_ret2
  exact ⟨rfl, (by repeat' (first | (with_reducible exact up_refl _) | (with_reducible assumption) | (with_reducible refine up_alloc ?_ _) | (with_reducible refine up_drewN ?_ _) | (with_reducible refine up_drew ?_) | (with_reducible refine up_set ?_ (by first | (simp; done) | (simp; omega) | omega) _) | (refine up_trans ?_ (by with_reducible assumption))))⟩
end Go.Proofs.Ytihckoenfklhpaa
