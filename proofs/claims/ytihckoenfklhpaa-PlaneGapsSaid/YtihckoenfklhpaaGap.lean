/- The gap of two hulls, and the line that parts them. -/
import Derived.Test.YtihckoenfklhpaaMeet
import Derived.Test.YtihckoenfklhpaaAway
import Derived.Test.YtihckoenfklhpaaSumM
namespace Go.Proofs.Ytihckoenfklhpaa
open Go.RowKit Go.Proofs.Gn
theorem le_mxv (x y : Int) : x ≤ mxv x y ∧ y ≤ mxv x y := mxv_le.1 (Int.le_refl _)
theorem awT_le {l1 l2 h1 h2 c : Int} : awT l1 l2 h1 h2 ≤ c ↔ 0 ≤ c ∧ l1 ≤ c ∧ -h1 ≤ c ∧ l2 ≤ c ∧ -h2 ≤ c := by
  unfold awT
  rw [mxv_le, mxv_le, mxv_le, mxv_le]
  omega
theorem side_room {D : Pl} (P : Gx.Poly D) (hb : BdL D) {k : Nat} (hk : k < sidesN D) (t : Int) : sideT (rp D hb k) ≤ t ↔ Gx.crs (Gx.sd D k) (Gx.g D k) ≤ t * Gx.nm (Gx.sd D k) := by
  have hne := side_ne P hk
  have hl : k < D.length := by unfold sidesN at hk; split at hk <;> omega
  unfold sideT
  rw [rp_eq hb hne]
  have e1 : Gx.sb (Gx.gc D (k + 1)) (Gx.g D k) = Gx.sd D k := (Gx.sd_lt hl).symm
  have hp := nrm_pos hne
  rw [e1] at hp
  simp only
  rw [e1]
  have e2 : Gx.crs (Gx.g D k) (Gx.gc D (k + 1)) = - Gx.crs (Gx.sd D k) (Gx.g D k) := by rw [Gx.sd_lt hl]; unfold Gx.crs Gx.sb; grind
  have e3 : nrm (Gx.sd D k) = Gx.nm (Gx.sd D k) := rfl
  rw [e2, e3]
  rw [e3] at hp
  have q := Int.le_ediv_iff_mul_le (a := -t) (b := - Gx.crs (Gx.sd D k) (Gx.g D k)) hp
  rw [Int.neg_mul] at q
  omega
theorem box_room {D : Pl} {l1 l2 h1 h2 : Int} (B : IsBox D D.length l1 l2 h1 h2) (t : Int) : ((∃ r ∈ D, r.1 ≤ t) ∧ (∃ r ∈ D, -r.1 ≤ t) ∧ (∃ r ∈ D, r.2 ≤ t) ∧ (∃ r ∈ D, -r.2 ≤ t)) ↔ (l1 ≤ t ∧ -h1 ≤ t ∧ l2 ≤ t ∧ -h2 ≤ t) := by
  have get : ∀ {r}, r ∈ D → l1 ≤ r.1 ∧ l2 ≤ r.2 ∧ r.1 ≤ h1 ∧ r.2 ≤ h2 := fun hr => by
    obtain ⟨i, hi, rfl⟩ := Gx.mem_g hr
    exact ⟨B.l1b i hi, B.l2b i hi, B.h1b i hi, B.h2b i hi⟩
  constructor
  · rintro ⟨⟨r, hr, e⟩, ⟨s, hs, f⟩, ⟨u, hu, g⟩, ⟨v, hv, k⟩⟩
    have := get hr; have := get hs; have := get hu; have := get hv
    omega
  · rintro ⟨e, f, g, k⟩
    obtain ⟨r, hr, r1⟩ := B.l1a; obtain ⟨s, hs, s1⟩ := B.h1a; obtain ⟨u, hu, u1⟩ := B.l2a; obtain ⟨v, hv, v1⟩ := B.h2a
    exact ⟨⟨r, hr, by omega⟩, ⟨s, hs, by omega⟩, ⟨u, hu, by omega⟩, ⟨v, hv, by omega⟩⟩
theorem gap_away {a b D : Pl} (hd : Gx.Diff a b D) (hb : BdL D) {l1 l2 h1 h2 : Int} (B : IsBox D D.length l1 l2 h1 h2) : Gx.IsGap a b (awK (awT l1 l2 h1 h2) (upTo (rp D hb) (sidesN D))) := by
  have hT := (awT_le (l1 := l1) (l2 := l2) (h1 := h1) (h2 := h2)).1 (Int.le_refl _)
  have hA := (awK_le (t0 := awT l1 l2 h1 h2) (pre := upTo (rp D hb) (sidesN D))).1 (Int.le_refl _)
  refine ⟨by omega, fun t ht => ?_⟩
  rw [awK_le, awT_le, Gx.room_diff hd, Gx.rm_iff hd.poly ht, box_room B t]
  have sides : (∀ x ∈ upTo (rp D hb) (sidesN D), sideT x ≤ t) ↔ (D.length ≠ 1 → ∀ k, k < D.length → Gx.crs (Gx.sd D k) (Gx.g D k) ≤ t * Gx.nm (Gx.sd D k)) := by
    unfold upTo
    simp only [List.mem_map, List.mem_range, forall_exists_index, and_imp]
    constructor
    · intro h hl k hk
      have hk2 : k < sidesN D := by unfold sidesN; rw [if_neg hl]; exact hk
      exact (side_room hd.poly hb hk2 t).1 (h _ k hk2 rfl)
    · intro h x k hk e
      subst e
      have hl : D.length ≠ 1 := by unfold sidesN at hk; split at hk <;> omega
      have hk2 : k < D.length := by unfold sidesN at hk; rw [if_neg hl] at hk; exact hk
      exact (side_room hd.poly hb hk t).2 (h hl k hk2)
  rw [sides]
  constructor
  · rintro ⟨⟨_, h⟩, k⟩; exact ⟨h, k⟩
  · rintro ⟨h, k⟩; exact ⟨⟨ht, h⟩, k⟩
theorem gap_ex {a b : Pl} (ha : HV a) (hb : HV b) : ∃ n, Gx.IsGap a b n := by
  obtain ⟨i, hi, hm⟩ : ∃ i, i < b.length ∧ ∀ x ∈ b, Gx.le2 x (Gx.g b i) := by
    have key : ∀ k, k ≤ b.length → 0 < k → ∃ i, i < b.length ∧ ∀ j, j < k → Gx.le2 (Gx.g b j) (Gx.g b i) := by
      intro k
      induction k with
      | zero => intro _ h; omega
      | succ k ih =>
        intro hk _
        rcases Nat.eq_zero_or_pos k with e | e
        · subst e
          exact ⟨0, by omega, fun j hj => by obtain rfl : j = 0 := (by omega); exact Gx.le2_refl _⟩
        · obtain ⟨i, hi, h⟩ := ih (by omega) e
          rcases Gx.lt2_tri (Gx.g b i) (Gx.g b k) with c | c | c
          · exact ⟨k, by omega, fun j hj => by
              rcases Nat.lt_or_ge j k with d | d
              · exact Gx.le2_trans (h j d) (.inr c)
              · obtain rfl : j = k := (by omega); exact Gx.le2_refl _⟩
          · exact ⟨i, hi, fun j hj => by
              rcases Nat.lt_or_ge j k with d | d
              · exact h j d
              · obtain rfl : j = k := (by omega); exact .inl c.symm⟩
          · exact ⟨i, hi, fun j hj => by
              rcases Nat.lt_or_ge j k with d | d
              · exact h j d
              · obtain rfl : j = k := (by omega); exact .inr c⟩
    obtain ⟨i, hi, h⟩ := key b.length (Nat.le_refl _) hb.pos
    exact ⟨i, hi, fun x hx => by obtain ⟨j, hj, rfl⟩ := Gx.mem_g hx; exact h j hj⟩
  obtain ⟨K, hK⟩ := Gx.walk_ex ha.poly (Gx.opL_poly hb.poly hi hm)
  have hd := Gx.diff_of hb.poly.ne hK.path
  have h0 : 0 < (Gx.spL a (Gx.opL b i) (max 1 K)).length := List.length_pos_iff.2 hd.poly.ne
  obtain ⟨l1, l2, h1, h2, B⟩ := box_ex h0 ((Gx.spL a (Gx.opL b i) (max 1 K)).length - 1) (by omega)
  rw [show (Gx.spL a (Gx.opL b i) (max 1 K)).length - 1 + 1 = (Gx.spL a (Gx.opL b i) (max 1 K)).length by omega] at B
  exact ⟨_, gap_away hd (diff_bdL hd ha.ok hb.ok) B⟩
theorem p_Gap {a b : Pl} (ha : HV a) (hb : HV b) {ga oa ca gb ob cb : Nat} (w : World) (h1 : At w ga oa ca a) (h2 : At w gb ob cb b) {n : Int} (hn : Gx.IsGap a b n) :
    Calls Try.prog 22 #[.slice (some ⟨ga, oa, none⟩) a.length ca, .slice (some ⟨gb, ob, none⟩) b.length cb] w fun e w' => e = .returned (.tuple #[.int .i64 n, .int .i64 0]) ∧ Up w w' := by
  have PC : ∀ (B : Nat) (W : World), Up w W → W.cell? ⟨B, 0, none⟩ = some (.slice (some ⟨ga, oa, none⟩) a.length ca) → W.cell? ⟨B, 1, none⟩ = some (.slice (some ⟨gb, ob, none⟩) b.length cb) → Calls Try.prog 37 #[.slice (some ⟨B, 0, none⟩) 2 2] W fun e w' => e = .returned (.int .i64 0) ∧ Up W w' :=
    fun B W hu k1 k2 => p_chk2 ha hb B W (h1.up hu) (h2.up hu) k1 k2
  have PD : ∀ W, Up w W → Calls Try.prog 50 #[.slice (some ⟨ga, oa, none⟩) a.length ca, .slice (some ⟨gb, ob, none⟩) b.length cb] W fun e w' => ∃ v, e = .returned v ∧ DiffAt W a b v w' := fun W hu => p_diff ha hb W (h1.up hu) (h2.up hu)
  have PK : ∀ (W0 W : World) (v : Value), DiffAt W0 a b v W → Calls Try.prog 52 #[v] W fun e w' => e = .returned (.int .i64 n) ∧ Up W w' := fun W0 W v hD => by
    obtain ⟨D, g, cap, rfl, hd, _, hl, hA, _, _⟩ := hD
    have h0 : 0 < D.length := List.length_pos_iff.2 hd.poly.ne
    obtain ⟨l1, l2, m1, m2, B⟩ := box_ex h0 (D.length - 1) (by omega)
    rw [show D.length - 1 + 1 = D.length by omega] at B
    have hbd := diff_bdL hd ha.ok hb.ok
    have q := p_away g 0 D cap W hA.pts hd.poly (by omega) hbd B
    rw [(gap_away hd hbd B).one hn] at q
    exact q
  have HPC := hide PC
  have HPD := hide PD
  have HPK := hide PK
  clear PC PD PK h1 h2 hn
  obtain ⟨n1, e1⟩ : ∃ n, a.length = n := ⟨_, rfl⟩
  obtain ⟨n2, e2⟩ : ∃ n, b.length = n := ⟨_, rfl⟩
  rw [e1] at HPC HPD ⊢
  rw [e2] at HPC HPD ⊢
  clear e1 e2
  go_enter Try.func22, Try.ntmps22
  go_wp2_with (first
    | (go_at_call 37; (with_reducible refine (unhide HPC _ _ (by repeat' (first | (with_reducible exact up_refl _) | (with_reducible assumption) | (with_reducible refine up_alloc ?_ _) | (with_reducible refine up_drewN ?_ _) | (with_reducible refine up_drew ?_) | (with_reducible refine up_set ?_ (by first | (simp; done) | (simp; omega) | omega) _) | (refine up_trans ?_ (by with_reducible assumption)))) ?_ ?_).mono ?_); (· go_cell); (· go_cell); rintro e w1 ⟨rfl, hb1⟩)
    | (go_at_call 50; (with_reducible refine (unhide HPD _ (by repeat' (first | (with_reducible exact up_refl _) | (with_reducible assumption) | (with_reducible refine up_alloc ?_ _) | (with_reducible refine up_drewN ?_ _) | (with_reducible refine up_drew ?_) | (with_reducible refine up_set ?_ (by first | (simp; done) | (simp; omega) | omega) _) | (refine up_trans ?_ (by with_reducible assumption))))).mono ?_); rintro e w2 ⟨v, rfl, hD⟩; have HD := hide hD; have hu2 : Up w1 w2 := hD.choose_spec.choose_spec.choose_spec.2.2.2.2.2.2; clear hD)
    | (go_at_call 52; (with_reducible refine (unhide HPK _ _ _ (unhide HD)).mono ?_); rintro e w3 ⟨rfl, hb3⟩))
  go_ret2
  exact ⟨rfl, (by repeat' (first | (with_reducible exact up_refl _) | (with_reducible assumption) | (with_reducible refine up_alloc ?_ _) | (with_reducible refine up_drewN ?_ _) | (with_reducible refine up_drew ?_) | (with_reducible refine up_set ?_ (by first | (simp; done) | (simp; omega) | omega) _) | (refine up_trans ?_ (by with_reducible assumption))))⟩
end Go.Proofs.Ytihckoenfklhpaa
