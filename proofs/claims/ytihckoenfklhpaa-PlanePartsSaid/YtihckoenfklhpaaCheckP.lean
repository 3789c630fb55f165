/- Whether a line parts two hulls, as the program finds it. -/
import Derived.Test.YtihckoenfklhpaaPart
namespace Go.Proofs.Ytihckoenfklhpaa
open Go.RowKit Go.Proofs.Gn
def inM (n m : Int) : Bool := decide (-m ≤ n ∧ n ≤ m)
theorem p_beyondB (n m : Int) (w : World) (h1 : -9223372036854775807 ≤ m) (h2 : m ≤ 9223372036854775807) : Calls Try.prog 54 #[.int .i64 n, .int .i64 m] w fun e w' => e = .returned (.bool (!inM n m)) ∧ w = w' :=
  (p_beyond n m w h1 h2).mono fun e w' ⟨he, hw⟩ => ⟨by rw [he]; exact ret_bool (by unfold inM; rw [Bool.eq_iff_iff]; simp; try omega), hw⟩
def cpV (a b : Pl) (x y k : Int) : Int :=
  if inM x 67108864 && (inM y 67108864 && inM k 4503599627370496) then if decide (hiV a (x, y) ≤ k) && decide (k < loV b (x, y)) then 0 else 16 else 3
theorem cp_no {a b : Pl} (h : Gx.Diffs a b (0, 0)) (x y k : Int) : cpV a b x y k ≠ 0 := by
  unfold cpV
  split
  · split
    · rename_i h2
      simp only [Bool.and_eq_true, decide_eq_true_eq] at h2
      exact absurd h (part_no h2.1 h2.2)
    · decide
  · decide
theorem cp_yes {a b : Pl} (ha : HV a) {n : Int × Int} (h : sepB a b n = true) (h1 : -67108864 ≤ n.1 ∧ n.1 ≤ 67108864) (h2 : -67108864 ≤ n.2 ∧ n.2 ≤ 67108864) : cpV a b n.1 n.2 (hiV a n) = 0 := by
  have hs : hiV a n < loV b n := of_decide_eq_true h
  obtain ⟨p, hp, e⟩ := hiV_at ha.pos n
  have pb := List.all_eq_true.1 ha.ok p hp
  have q1 := okc_yes (okp_yes pb).1
  have q2 := okc_yes (okp_yes pb).2
  have key : ∀ u v : Int, -16777216 ≤ u → u ≤ 16777216 → -67108864 ≤ v → v ≤ 67108864 → -1125899906842624 ≤ u * v ∧ u * v ≤ 1125899906842624 := fun u v a b c d => by
    have p1 := Int.mul_nonneg (show 0 ≤ 16777216 - u by omega) (show 0 ≤ 67108864 - v by omega)
    have p2 := Int.mul_nonneg (show 0 ≤ 16777216 + u by omega) (show 0 ≤ 67108864 + v by omega)
    have p3 := Int.mul_nonneg (show 0 ≤ 16777216 - u by omega) (show 0 ≤ 67108864 + v by omega)
    have p4 := Int.mul_nonneg (show 0 ≤ 16777216 + u by omega) (show 0 ≤ 67108864 - v by omega)
    constructor <;> grind
  have k1 := key p.1 n.1 q1.1 q1.2 h1.1 h1.2
  have k2 := key p.2 n.2 q2.1 q2.2 h2.1 h2.2
  have e2 : hiV a n = p.1 * n.1 + p.2 * n.2 := e
  have en : (n.1, n.2) = n := rfl
  have i1 : inM n.1 67108864 = true := by unfold inM; simp; omega
  have i2 : inM n.2 67108864 = true := by unfold inM; simp; omega
  have i3 : inM (hiV a n) 4503599627370496 = true := by unfold inM; rw [e2]; simp; omega
  unfold cpV
  rw [en, i1, i2, i3]
  simp only [Bool.and_self, if_true, decide_eq_true (Int.le_refl (hiV a n)), decide_eq_true hs]
set_option maxRecDepth 100000 in
set_option maxHeartbeats 4000000 in
theorem p_CheckPart {a b : Pl} (ha : HV a) (hb : HV b) {ga oa ca gb ob cb : Nat} (w : World) (h1 : At w ga oa ca a) (h2 : At w gb ob cb b) (x y k : Int) :
    Calls Try.prog 24 #[.slice (some ⟨ga, oa, none⟩) a.length ca, .slice (some ⟨gb, ob, none⟩) b.length cb, ln x y k] w fun e w' => e = .returned (.int .i64 (cpV a b x y k)) ∧ Up w w' := by
  have PC : ∀ (B : Nat) (W : World), Up w W → W.cell? ⟨B, 0, none⟩ = some (.slice (some ⟨ga, oa, none⟩) a.length ca) → W.cell? ⟨B, 1, none⟩ = some (.slice (some ⟨gb, ob, none⟩) b.length cb) → Calls Try.prog 37 #[.slice (some ⟨B, 0, none⟩) 2 2] W fun e w' => e = .returned (.int .i64 0) ∧ Up W w' :=
    fun B W hu k1 k2 => p_chk2 ha hb B W (h1.up hu) (h2.up hu) k1 k2
  have P1 := fun W => p_beyondB x 67108864 W (by omega) (by omega)
  have P2 := fun W => p_beyondB y 67108864 W (by omega) (by omega)
  have P3 := fun W => p_beyondB k 4503599627370496 W (by omega) (by omega)
  have PH : ∀ (W : World), inM x 67108864 = true → inM y 67108864 = true → Up w W → Calls Try.prog 55 #[.slice (some ⟨ga, oa, none⟩) a.length ca, pt x y] W fun e w' => e = .returned (.int .i64 (hiV a (x, y))) ∧ Up W w' := fun W i1 i2 hu =>
    p_highest ga oa a ca x y W (h1.up hu).pts ha.pos (by have := ha.len; omega) ha.bd (by have q1 := of_decide_eq_true i1; have q2 := of_decide_eq_true i2; unfold Dn; simp only; omega)
  have PL : ∀ (W : World), inM x 67108864 = true → inM y 67108864 = true → Up w W → Calls Try.prog 56 #[.slice (some ⟨gb, ob, none⟩) b.length cb, pt x y] W fun e w' => e = .returned (.int .i64 (loV b (x, y))) ∧ Up W w' := fun W i1 i2 hu =>
    p_lowest gb ob b cb x y W (h2.up hu).pts hb.pos (by have := hb.len; omega) hb.bd (by have q1 := of_decide_eq_true i1; have q2 := of_decide_eq_true i2; unfold Dn; simp only; omega)
  unfold cpV
  obtain ⟨V1, hV1⟩ : ∃ V, hiV a (x, y) = V := ⟨_, rfl⟩
  obtain ⟨V2, hV2⟩ : ∃ V, loV b (x, y) = V := ⟨_, rfl⟩
  rw [hV1] at PH ⊢
  rw [hV2] at PL ⊢
  obtain ⟨n1, e1⟩ : ∃ n, a.length = n := ⟨_, rfl⟩
  obtain ⟨n2, e2⟩ : ∃ n, b.length = n := ⟨_, rfl⟩
  rw [e1] at PC PH ⊢
  rw [e2] at PC PL ⊢
  have HPC := hide PC
  have BL := bx_new w [.int .i64 x, .int .i64 y, .int .i64 k] 39
  have HBL := hide BL
  clear h1 h2 hV1 hV2 e1 e2 PC BL
  cases i1 : inM x 67108864
  · rw [i1] at P1
    have HP1 := hide P1
    clear P1 P2 P3 PH PL i1
    go_enter Try.func24, Try.ntmps24
    go_wp2_with (first
      | (go_at_call 37; (with_reducible refine (unhide HPC _ _ (by repeat' (first | (with_reducible exact up_refl _) | (with_reducible assumption) | (with_reducible refine up_alloc ?_ _) | (with_reducible refine up_drewN ?_ _) | (with_reducible refine up_drew ?_) | (with_reducible refine up_set ?_ (by first | (simp; done) | (simp; omega) | omega) _) | (refine up_trans ?_ (by with_reducible assumption)))) ?_ ?_).mono ?_); (· go_cell); (· go_cell); rintro e w1 ⟨rfl, hb1⟩; have B := bx_up (bx_alloc (unhide HBL) _) hb1; have z0 := (bx3 B).1; have z1 := (bx3 B).2.1; have z2 := (bx3 B).2.2; clear B)
      | (go_at_call 54; (with_reducible refine (unhide HP1 _).mono ?_); rintro e w2 ⟨rfl, rfl⟩))
    go_ret
    exact ⟨rfl, (by repeat' (first | (with_reducible exact up_refl _) | (with_reducible assumption) | (with_reducible refine up_alloc ?_ _) | (with_reducible refine up_drewN ?_ _) | (with_reducible refine up_drew ?_) | (with_reducible refine up_set ?_ (by first | (simp; done) | (simp; omega) | omega) _) | (refine up_trans ?_ (by with_reducible assumption))))⟩
  rw [i1] at P1
  cases i2 : inM y 67108864
  · rw [i2] at P2
    have HP1 := hide P1
    have HP2 := hide P2
    clear P1 P2 P3 PH PL i1 i2
    go_enter Try.func24, Try.ntmps24
    go_wp2_with (first
      | (go_at_call 37; (with_reducible refine (unhide HPC _ _ (by repeat' (first | (with_reducible exact up_refl _) | (with_reducible assumption) | (with_reducible refine up_alloc ?_ _) | (with_reducible refine up_drewN ?_ _) | (with_reducible refine up_drew ?_) | (with_reducible refine up_set ?_ (by first | (simp; done) | (simp; omega) | omega) _) | (refine up_trans ?_ (by with_reducible assumption)))) ?_ ?_).mono ?_); (· go_cell); (· go_cell); rintro e w1 ⟨rfl, hb1⟩; have B := bx_up (bx_alloc (unhide HBL) _) hb1; have z0 := (bx3 B).1; have z1 := (bx3 B).2.1; have z2 := (bx3 B).2.2; clear B)
      | (go_at_call 54; (with_reducible refine (unhide HP1 _).mono ?_); rintro e w2 ⟨rfl, rfl⟩)
      | (go_at_call 54; (with_reducible refine (unhide HP2 _).mono ?_); rintro e w2 ⟨rfl, rfl⟩))
    go_ret
    exact ⟨rfl, (by repeat' (first | (with_reducible exact up_refl _) | (with_reducible assumption) | (with_reducible refine up_alloc ?_ _) | (with_reducible refine up_drewN ?_ _) | (with_reducible refine up_drew ?_) | (with_reducible refine up_set ?_ (by first | (simp; done) | (simp; omega) | omega) _) | (refine up_trans ?_ (by with_reducible assumption))))⟩
  rw [i2] at P2
  cases i3 : inM k 4503599627370496
  · rw [i3] at P3
    have HP1 := hide P1
    have HP2 := hide P2
    have HP3 := hide P3
    clear P1 P2 P3 PH PL i1 i2 i3
    go_enter Try.func24, Try.ntmps24
    go_wp2_with (first
      | (go_at_call 37; (with_reducible refine (unhide HPC _ _ (by repeat' (first | (with_reducible exact up_refl _) | (with_reducible assumption) | (with_reducible refine up_alloc ?_ _) | (with_reducible refine up_drewN ?_ _) | (with_reducible refine up_drew ?_) | (with_reducible refine up_set ?_ (by first | (simp; done) | (simp; omega) | omega) _) | (refine up_trans ?_ (by with_reducible assumption)))) ?_ ?_).mono ?_); (· go_cell); (· go_cell); rintro e w1 ⟨rfl, hb1⟩; have B := bx_up (bx_alloc (unhide HBL) _) hb1; have z0 := (bx3 B).1; have z1 := (bx3 B).2.1; have z2 := (bx3 B).2.2; clear B)
      | (go_at_call 54; (with_reducible refine (unhide HP1 _).mono ?_); rintro e w2 ⟨rfl, rfl⟩)
      | (go_at_call 54; (with_reducible refine (unhide HP2 _).mono ?_); rintro e w2 ⟨rfl, rfl⟩)
      | (go_at_call 54; (with_reducible refine (unhide HP3 _).mono ?_); rintro e w2 ⟨rfl, rfl⟩))
    go_ret
    exact ⟨rfl, (by repeat' (first | (with_reducible exact up_refl _) | (with_reducible assumption) | (with_reducible refine up_alloc ?_ _) | (with_reducible refine up_drewN ?_ _) | (with_reducible refine up_drew ?_) | (with_reducible refine up_set ?_ (by first | (simp; done) | (simp; omega) | omega) _) | (refine up_trans ?_ (by with_reducible assumption))))⟩
  rw [i3] at P3
  have PH' := fun W hu => PH W i1 i2 hu
  have PL' := fun W hu => PL W i1 i2 hu
  have HP1 := hide P1
  have HP2 := hide P2
  have HP3 := hide P3
  have HPH := hide PH'
  have HPL := hide PL'
  clear P1 P2 P3 PH PL PH' PL' i1 i2 i3
  obtain ⟨P, hP⟩ : ∃ P, (decide (V1 ≤ k) && decide (k < V2)) = P := ⟨_, rfl⟩
  rw [hP]
  go_enter Try.func24, Try.ntmps24
  go_upto_region 7 with (first
    | (go_at_call 37; (with_reducible refine (unhide HPC _ _ (by repeat' (first | (with_reducible exact up_refl _) | (with_reducible assumption) | (with_reducible refine up_alloc ?_ _) | (with_reducible refine up_drewN ?_ _) | (with_reducible refine up_drew ?_) | (with_reducible refine up_set ?_ (by first | (simp; done) | (simp; omega) | omega) _) | (refine up_trans ?_ (by with_reducible assumption)))) ?_ ?_).mono ?_); (· go_cell); (· go_cell); rintro e w1 ⟨rfl, hb1⟩; have B := bx_up (bx_alloc (unhide HBL) _) hb1; have z0 := (bx3 B).1; have z1 := (bx3 B).2.1; have z2 := (bx3 B).2.2; clear B)
    | (go_at_call 54; (with_reducible refine (unhide HP1 _).mono ?_); rintro e w2 ⟨rfl, rfl⟩)
    | (go_at_call 54; (with_reducible refine (unhide HP2 _).mono ?_); rintro e w2 ⟨rfl, rfl⟩)
    | (go_at_call 54; (with_reducible refine (unhide HP3 _).mono ?_); rintro e w2 ⟨rfl, rfl⟩))
  have hw : Up w w1 := (by repeat' (first | (with_reducible exact up_refl _) | (with_reducible assumption) | (with_reducible refine up_alloc ?_ _) | (with_reducible refine up_drewN ?_ _) | (with_reducible refine up_drew ?_) | (with_reducible refine up_set ?_ (by first | (simp; done) | (simp; omega) | omega) _) | (refine up_trans ?_ (by with_reducible assumption))))
  clear hb1
  go_cut [47] (fun s wx => s = .bool (!P) ∧ Up w wx)
  case first => as_aux_lemma =>
    have B := bx_new w1 [.int .i64 x, .int .i64 y] 24
    have m0 : ∀ p : UpW (w1.alloc (.cells #[.int .i64 x, .int .i64 y] 24)), p.v.cell? ⟨w1.heap.size, 0, none⟩ = some (.int .i64 x) := fun p => (bx2 (bx_up B p.up)).1
    have m1 : ∀ p : UpW (w1.alloc (.cells #[.int .i64 x, .int .i64 y] 24)), p.v.cell? ⟨w1.heap.size, 1, none⟩ = some (.int .i64 y) := fun p => (bx2 (bx_up B p.up)).2
    have m2 : ∀ p : UpW (w1.alloc (.cells #[.int .i64 x, .int .i64 y] 24)), p.v.cell? ⟨w.heap.size, 2, none⟩ = some (.int .i64 k) := fun p => up_cell p.up (alloc_cell _ z2)
    have hu : ∀ p : UpW (w1.alloc (.cells #[.int .i64 x, .int .i64 y] 24)), Up w p.v := fun p => up_trans (up_alloc hw _) p.up
    clear B z0 z1 z2 HPC HP1 HP2 HP3
    by_cases c1 : V1 ≤ k
    · have g1 : decide (k < V1) = false := decide_eq_false (by omega)
      rw [decide_eq_true c1] at hP
      by_cases c2 : k < V2
      · have g2 : decide (V2 ≤ k) = false := decide_eq_false (by omega)
        rw [decide_eq_true c2] at hP
        subst hP
        refine wp_upq (by kernel_rfl) (by kernel_rfl) ?_; (repeat (go_big_quiet_step ((first | (go_at_call 55; exact upq (unhide HPH _ (hu _))) | (go_at_call 56; exact upq (unhide HPL _ (hu _))))))); refine wpQuiet_nil ?_; intro _ hw'; obtain ⟨pq, hw''⟩ := hw'; subst hw''; have hpq := pq.up
        go_wp2_with fail
        go_meet
        exact ⟨rfl, up_trans (up_alloc hw _) hpq⟩
      · have g2 : decide (V2 ≤ k) = true := decide_eq_true (by omega)
        rw [decide_eq_false c2] at hP
        subst hP
        refine wp_upq (by kernel_rfl) (by kernel_rfl) ?_; (repeat (go_big_quiet_step ((first | (go_at_call 55; exact upq (unhide HPH _ (hu _))) | (go_at_call 56; exact upq (unhide HPL _ (hu _))))))); refine wpQuiet_nil ?_; intro _ hw'; obtain ⟨pq, hw''⟩ := hw'; subst hw''; have hpq := pq.up
        go_wp2_with fail
        go_meet
        exact ⟨rfl, up_trans (up_alloc hw _) hpq⟩
    · have g1 : decide (k < V1) = true := decide_eq_true (by omega)
      rw [decide_eq_false c1] at hP
      subst hP
      refine wp_upq (by kernel_rfl) (by kernel_rfl) ?_; (repeat (go_big_quiet_step ((first | (go_at_call 55; exact upq (unhide HPH _ (hu _))) | (go_at_call 56; exact upq (unhide HPL _ (hu _))))))); refine wpQuiet_nil ?_; intro _ hw'; obtain ⟨pq, hw''⟩ := hw'; subst hw''; have hpq := pq.up
      go_wp2_with fail
      go_meet
      exact ⟨rfl, up_trans (up_alloc hw _) hpq⟩
  case rest =>
  obtain ⟨rfl, hU⟩ := hcut
  clear hP
  cases P <;> (go_wp2_with fail; go_ret; exact ⟨rfl, hU⟩)
end Go.Proofs.Ytihckoenfklhpaa
