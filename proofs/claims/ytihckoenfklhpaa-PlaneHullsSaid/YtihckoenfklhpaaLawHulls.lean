/- PlaneHulls: the law's function returns true. -/
import Derived.Test.YtihckoenfklhpaaGrowA
import Derived.Test.YtihckoenfklhpaaWorks
namespace Go.Proofs.Ytihckoenfklhpaa
open Go.RowKit Go.Proofs.Gn
theorem own_caps {W : World} {base e n : Nat} {v : Value} {ps : Pl} (h : W.ownsRow base e 2 v n (cellsPl ps)) : ∃ A cap, v = .slice A ps.length cap ∧ Pts W A ps ∧ ps.length ≤ cap ∧ cap ≤ 9223372036854775807 := by
  obtain rfl := own_len h
  rcases Nat.eq_zero_or_pos ps.length with c | c
  · have e := List.eq_nil_of_length_eq_zero c
    subst e
    rcases h.2 with ⟨h1, _⟩ | ⟨g, cap, cur, h1, _, _, h2, h3, _⟩
    · exact ⟨none, 0, h1, .inl rfl, by simp, by omega⟩
    · exact ⟨_, cap, h1, .inl rfl, by simp, by simp [maxLen] at h3; omega⟩
  · obtain ⟨g, cap, rfl, _, h1, h2⟩ := own_some h c
    exact ⟨_, cap, rfl, own_p h, h1, h2⟩
/-- The list that a Hull returns. -/
def huV (ps : Pl) : Pl := if hulLE ps = 0 then Gx.hullF ps else []
theorem huV_len (ps : Pl) : (huV ps).length ≤ 512 := by
  unfold huV
  split
  · rename_i h
    unfold hulLE at h
    split at h
    · rename_i h1
      have := (ptsE_zero h1).1
      have := hullF_len ps
      omega
    · rename_i h1; exact absurd h h1
  · simp
def HullU (ps : Pl) (e : Ending) (W : World) : Prop := ∃ A c, e = .returned (.tuple #[.slice A (huV ps).length c, .int .i64 (hulLE ps)]) ∧ Pts W A (huV ps) ∧ (huV ps).length ≤ c ∧ c ≤ 9223372036854775807
theorem hullU {base : Nat} {ps : Pl} {e : Ending} {W : World} (h : HullR base ps e W) : HullU ps e W := by
  rcases h with ⟨h1, h2⟩ | ⟨h1, v, h2, h3⟩
  · exact ⟨none, 0, by unfold huV; rw [if_neg h1]; exact h2, by unfold huV; rw [if_neg h1]; exact .inl rfl, by unfold huV; rw [if_neg h1]; simp, by omega⟩
  · obtain ⟨A, c, rfl, hp, h4, h5⟩ := own_caps h3
    exact ⟨A, c, by unfold huV; rw [if_pos h1, h1]; exact h2, by unfold huV; rw [if_pos h1]; exact hp, by unfold huV; rw [if_pos h1]; exact h4, h5⟩
def grV (ps : Pl) (t : Int) : Pl := if grE ps t = 0 then grL ps t else []
def GrowU (ps : Pl) (t : Int) (e : Ending) (W : World) : Prop := ∃ A c, e = .returned (.tuple #[.slice A (grV ps t).length c, .int .i64 (grE ps t)]) ∧ Pts W A (grV ps t)
theorem growU {base : Nat} {ps : Pl} {t : Int} {e : Ending} {W : World} (h : GrowR base ps t e W) : GrowU ps t e W := by
  rcases h with ⟨h1, h2⟩ | ⟨h1, v, h2, h3⟩
  · exact ⟨none, 0, by unfold grV; rw [if_neg h1]; exact h2, by unfold grV; rw [if_neg h1]; exact .inl rfl⟩
  · obtain ⟨A, c, rfl, hp, _, _⟩ := own_caps h3
    exact ⟨A, c, by unfold grV; rw [if_pos h1, h1]; exact h2, by unfold grV; rw [if_pos h1]; exact hp⟩
theorem grV_len (ps : Pl) (t : Int) : (grV ps t).length ≤ 256 := by
  unfold grV
  split
  · rename_i h
    unfold grE at h
    split at h
    · split at h
      · split at h
        · assumption
        · cases h
      · cases h
    · rename_i h1; exact absurd h h1
  · simp
theorem p_HullU (A : Option Addr) (ps : Pl) (cap : Nat) (w : World) (h : Pts w A ps) (hn : ps.length ≤ 9223372036854775807) :
    Calls Try.prog 9 #[.slice A ps.length cap] w fun e w' => HullU ps e w' ∧ Up w w' := by
  by_cases c : ptsE ps = 0
  · by_cases c0 : ps.length = 0
    · have e := List.eq_nil_of_length_eq_zero c0
      subst e
      refine (p_HullNone A cap w).mono fun e w' ⟨he, hu⟩ => ⟨hullU (base := 0) (.inl ?_), hu⟩
      have z : hulLE [] = 5 := by unfold hulLE; rw [if_pos c]; rfl
      rw [z]
      exact ⟨by decide, he⟩
    · have z : hulLE ps = 0 := by unfold hulLE; rw [if_pos c, if_neg c0]
      exact (p_Hull A ps cap w h (by omega) (ptsE_zero c).1 (ptsE_zero c).2).mono fun e w' ⟨v, he, ho, hu⟩ => ⟨hullU (.inr ⟨z, v, he, ho⟩), hu⟩
  · have z : hulLE ps = ptsE ps := by unfold hulLE; rw [if_neg c]
    refine (p_HullE A ps cap w h hn c).mono fun e w' ⟨he, hu⟩ => ⟨hullU (base := 0) (.inl ?_), hu⟩
    rw [z]
    exact ⟨c, he⟩
theorem is_eq (ps : Pl) : decide (hul1 ps = 0) = isRB ps := by
  rw [Bool.eq_iff_iff, decide_eq_true_eq]
  exact (isRB_hul (ps := ps)).1
/-- What the law asks of a list, at a world and later. -/
structure Asks (w0 : World) (A : Option Addr) (ps : Pl) (cap : Nat) (x y t : Int) (b1 : Bool) (z1 u1 z2 z3 : Int) (G : Pl) : Prop where
  in1 : ∀ W, Up w0 W → Calls Try.prog 14 #[.slice A ps.length cap, pt x y] W fun e w' => e = .returned (.tuple #[.bool b1, .int .i64 z1]) ∧ Up W w'
  in2 : ∀ W, Up w0 W → Calls Try.prog 15 #[.slice A ps.length cap, pt x y] W fun e w' => e = .returned (.tuple #[.bool b1, .int .i64 z1]) ∧ Up W w'
  ar1 : ∀ W, Up w0 W → Calls Try.prog 16 #[.slice A ps.length cap] W fun e w' => e = .returned (.tuple #[.int .i64 u1, .int .i64 z2]) ∧ Up W w'
  ar2 : ∀ W, Up w0 W → Calls Try.prog 17 #[.slice A ps.length cap] W fun e w' => e = .returned (.tuple #[.int .i64 u1, .int .i64 z2]) ∧ Up W w'
  gr1 : ∀ W, Up w0 W → Calls Try.prog 18 #[.slice A ps.length cap, .int .i64 t] W fun e w' => ∃ A c, e = .returned (.tuple #[.slice A G.length c, .int .i64 z3]) ∧ Pts w' A G ∧ Up W w'
  gr2 : ∀ W, Up w0 W → Calls Try.prog 19 #[.slice A ps.length cap, .int .i64 t] W fun e w' => ∃ A c, e = .returned (.tuple #[.slice A G.length c, .int .i64 z3]) ∧ Pts w' A G ∧ Up W w'
theorem asks {w0 : World} {A : Option Addr} {ps : Pl} {cap : Nat} (h : Pts w0 A ps) (hn : ps.length ≤ 60000) (h1 : ps.length ≤ cap) (h2 : cap ≤ 9223372036854775807) (x y t : Int) :
    Asks w0 A ps cap x y t (inV ps x y) (inE ps x y) (arV ps) (hulR ps ps) (grE ps t) (grV ps t) where
  in1 := fun W hu => p_InsideA A ps cap x y W (pts_up h hu) h1 h2
  in2 := fun W hu => r_Inside A ps cap x y W (pts_up h hu) hn
  ar1 := fun W hu => p_AreaA A ps cap W (pts_up h hu) h1 h2
  ar2 := fun W hu => r_AreaA A ps cap W (pts_up h hu) hn
  gr1 := fun W hu => (p_GrowA A ps cap t W (pts_up h hu) h1 h2).mono fun e w' ⟨hg, hup⟩ => by
    obtain ⟨A, c, he, hp⟩ := growU hg
    exact ⟨A, c, he, hp, hup⟩
  gr2 := fun W hu => (r_Grow A ps cap t W (pts_up h hu) hn).mono fun e w' ⟨hg, hup⟩ => by
    obtain ⟨A, c, he, hp⟩ := growU hg
    exact ⟨A, c, he, hp, hup⟩
set_option maxRecDepth 100000 in
set_option maxHeartbeats 4000000 in
theorem l_Hulls_long (A : Option Addr) (n cap : Nat) (x y t : Int) (w : World) (hl : (40 < n ∧ n ≤ 256) ∨ 400 < n) :
    Calls Try.prog 3 #[.slice A n cap, pt x y, .int .i64 t] w fun e w' => e = .returned (.bool true) ∧ Below w.heap.size w w' := by
  have k1 : decide ((40 : Int) < (n : Int)) = true := decide_eq_true (by omega)
  by_cases c : n ≤ 256
  · have k2 : decide ((n : Int) ≤ 256) = true := decide_eq_true (by omega)
    go_enter Try.func3, Try.ntmps3
    go_wp2_with (go_at_call 8; refine (l_works _).mono ?_; rintro e w5 ⟨rfl, hb5⟩)
    exact bodyPost_ret (v := .bool true) (by simp [results, Try.results3, go_sem]) rfl ⟨rfl, (by repeat' (first | (with_reducible exact up_refl _) | (with_reducible assumption) | (with_reducible refine up_alloc ?_ _) | (with_reducible refine up_drewN ?_ _) | (with_reducible refine up_drew ?_) | (with_reducible refine up_set ?_ (by first | (simp; done) | (simp; omega) | omega) _) | (refine up_trans ?_ (by with_reducible assumption))))⟩
  · have k2 : decide ((n : Int) ≤ 256) = false := decide_eq_false (by omega)
    have k3 : decide ((400 : Int) < (n : Int)) = true := decide_eq_true (by omega)
    go_enter Try.func3, Try.ntmps3
    go_wp2_with (go_at_call 8; refine (l_works _).mono ?_; rintro e w5 ⟨rfl, hb5⟩)
    exact bodyPost_ret (v := .bool true) (by simp [results, Try.results3, go_sem]) rfl ⟨rfl, (by repeat' (first | (with_reducible exact up_refl _) | (with_reducible assumption) | (with_reducible refine up_alloc ?_ _) | (with_reducible refine up_drewN ?_ _) | (with_reducible refine up_drew ?_) | (with_reducible refine up_set ?_ (by first | (simp; done) | (simp; omega) | omega) _) | (refine up_trans ?_ (by with_reducible assumption))))⟩
set_option maxRecDepth 100000 in
set_option maxHeartbeats 40000000 in
theorem l_Hulls_some (A : Option Addr) (ps : Pl) (cap : Nat) (x y t : Int) (w : World) (h : Pts w A ps) (h1 : ps.length ≤ cap) (h2 : cap ≤ 9223372036854775807) (hl : ps.length ≤ 40 ∨ (256 < ps.length ∧ ps.length ≤ 400)) :
    Calls Try.prog 3 #[.slice A ps.length cap, pt x y, .int .i64 t] w fun e w' => e = .returned (.bool true) ∧ Below w.heap.size w w' := by
  have hl4 : ps.length ≤ 400 := by omega
  have PH : ∀ W, Up w W → Calls Try.prog 9 #[.slice A ps.length cap] W fun e w' => HullU ps e w' ∧ Up W w' := fun W hu => p_HullU A ps cap W (pts_up h hu) (by omega)
  have RH : ∀ W, Up w W → Calls Try.prog 10 #[.slice A ps.length cap] W fun e w' => HullU ps e w' ∧ Up W w' := fun W hu => (r_Hull A ps cap W (pts_up h hu) (by omega)).mono fun e w' ⟨hr, hup⟩ => ⟨hullU hr, hup⟩
  have I1 : ∀ W, Up w W → Calls Try.prog 12 #[.slice A ps.length cap] W fun e w' => e = .returned (.bool (isRB ps)) ∧ Up W w' := fun W hu => by rw [← is_eq]; exact p_IsHullA A ps cap W (pts_up h hu) h1 h2
  have I2 : ∀ W, Up w W → Calls Try.prog 13 #[.slice A ps.length cap] W fun e w' => e = .returned (.bool (isRB ps)) ∧ Up W w' := fun W hu => r_IsHull A ps cap W (pts_up h hu) (by omega)
  have SM : ∀ (Q : Pl), Q.length ≤ 1000 → ∀ (A1 A2 : Option Addr) (c1 c2 : Nat) (W : World), Pts W A1 Q → Pts W A2 Q → Calls Try.prog 11 #[.slice A1 Q.length c1, .slice A2 Q.length c2] W fun e w' => e = .returned (.bool true) ∧ Up W w' := fun Q hQ A1 A2 c1 c2 W q1 q2 =>
    (r_Same A1 A2 Q Q c1 c2 W q1 q2 (by omega)).mono fun e w' ⟨he, hu⟩ => ⟨by rw [he]; simp, hu⟩
  have AS0 := hide (asks h (by omega) h1 h2 x y t)
  have hH := huV_len ps
  have S0 := SM (huV ps) (by omega)
  have S1 := SM (grV ps t) (by have := grV_len ps t; omega)
  have S2 := SM (grV (huV ps) t) (by have := grV_len (huV ps) t; omega)
  have AS1 : ∀ (w0 : World) (A1 : Option Addr) (c1 : Nat), Pts w0 A1 (huV ps) → (huV ps).length ≤ c1 → c1 ≤ 9223372036854775807 → Asks w0 A1 (huV ps) c1 x y t (inV (huV ps) x y) (inE (huV ps) x y) (arV (huV ps)) (hulR (huV ps) (huV ps)) (grE (huV ps) t) (grV (huV ps) t) := fun w0 A1 c1 q1 q2 q3 => asks q1 (by omega) q2 q3 x y t
  unfold HullU at PH RH
  obtain ⟨H, hHe⟩ : ∃ H, huV ps = H := ⟨_, rfl⟩
  rw [hHe] at PH RH S0 S2 AS1
  obtain ⟨zh, hzh⟩ : ∃ z, hulLE ps = z := ⟨_, rfl⟩
  rw [hzh] at PH RH
  obtain ⟨R, hR⟩ : ∃ z, isRB ps = z := ⟨_, rfl⟩
  rw [hR] at I1 I2
  obtain ⟨b0, hb0⟩ : ∃ z, inV ps x y = z := ⟨_, rfl⟩
  obtain ⟨b1, hb1⟩ : ∃ z, inV H x y = z := ⟨_, rfl⟩
  obtain ⟨e0, he0⟩ : ∃ z, inE ps x y = z := ⟨_, rfl⟩
  obtain ⟨e1, he1⟩ : ∃ z, inE H x y = z := ⟨_, rfl⟩
  obtain ⟨u0, hu0⟩ : ∃ z, arV ps = z := ⟨_, rfl⟩
  obtain ⟨u1, hu1⟩ : ∃ z, arV H = z := ⟨_, rfl⟩
  obtain ⟨r0, hr0⟩ : ∃ z, hulR ps ps = z := ⟨_, rfl⟩
  obtain ⟨r1, hr1⟩ : ∃ z, hulR H H = z := ⟨_, rfl⟩
  obtain ⟨g0, hg0⟩ : ∃ z, grE ps t = z := ⟨_, rfl⟩
  obtain ⟨g1, hg1⟩ : ∃ z, grE H t = z := ⟨_, rfl⟩
  obtain ⟨G0, hG0⟩ : ∃ z, grV ps t = z := ⟨_, rfl⟩
  obtain ⟨G1, hG1⟩ : ∃ z, grV H t = z := ⟨_, rfl⟩
  rw [hb0, he0, hu0, hr0, hg0, hG0] at AS0
  rw [hb1, he1, hu1, hr1, hg1, hG1] at AS1
  rw [hG0] at S1
  rw [hG1] at S2
  have HPH := hide PH
  have HRH := hide RH
  have HI1 := hide I1
  have HI2 := hide I2
  have HS0 := hide S0
  have HS1 := hide S1
  have HS2 := hide S2
  have HAS := hide AS1
  have BX := hide (bx_new w [.int .i64 x, .int .i64 y] 24)
  clear PH RH I1 I2 S0 S1 S2 AS1 SM hHe hzh hR hb0 hb1 he0 he1 hu0 hu1 hr0 hr1 hg0 hg1 hG0 hG1 hH h h1 h2
  have k3 : decide ((400 : Int) < (ps.length : Int)) = false := decide_eq_false (by omega)
  have k12 : (decide ((40 : Int) < (ps.length : Int)) = false) ∨ (decide ((40 : Int) < (ps.length : Int)) = true ∧ decide ((ps.length : Int) ≤ 256) = false) := by
    rcases hl with c | c
    · exact .inl (decide_eq_false (by omega))
    · exact .inr ⟨decide_eq_true (by omega), decide_eq_false (by omega)⟩
  clear hl
  go_enter Try.func3, Try.ntmps3
  go_upto_region 1 with fail
  go_cut [35] (fun s wx => s = .bool false ∧ Up (w.alloc (.cells #[.int .i64 x, .int .i64 y] 24)) wx)
  case first => as_aux_lemma =>
    rcases k12 with k1 | ⟨k1, k2⟩
    · go_wp2_with fail
      go_meet
      exact ⟨rfl, up_refl _⟩
    · go_wp2_with fail
      go_meet
      exact ⟨rfl, up_refl _⟩
  case rest =>
  obtain ⟨rfl, hcb⟩ := hcut
  have hw : Up w wc := up_trans (up_alloc (up_refl _) _) hcb
  have BX1 := hide (bx_up (unhide BX) hcb)
  clear hcb BX k12 k3
  go_wp2_with (first
    | (go_at_call 9; (with_reducible refine (unhide HPH _ (by repeat' (first | (with_reducible exact up_refl _) | (with_reducible assumption) | (with_reducible refine up_alloc ?_ _) | (with_reducible refine up_drewN ?_ _) | (with_reducible refine up_drew ?_) | (with_reducible refine up_set ?_ (by first | (simp; done) | (simp; omega) | omega) _) | (refine up_trans ?_ (by with_reducible assumption))))).mono ?_); rintro e w1 ⟨⟨A1, c1, rfl, p1, q1, q2⟩, hb1⟩; have P1 := hide p1; clear p1)
    | (go_at_call 10; (with_reducible refine (unhide HRH _ (by repeat' (first | (with_reducible exact up_refl _) | (with_reducible assumption) | (with_reducible refine up_alloc ?_ _) | (with_reducible refine up_drewN ?_ _) | (with_reducible refine up_drew ?_) | (with_reducible refine up_set ?_ (by first | (simp; done) | (simp; omega) | omega) _) | (refine up_trans ?_ (by with_reducible assumption))))).mono ?_); rintro e w2 ⟨⟨A2, c2, rfl, p2, q3, q4⟩, hb2⟩; have P2 := hide p2; clear p2)
    | (go_at_call 11; (with_reducible refine (unhide HS0 _ _ _ _ _ (pts_up (unhide P1) hb2) (unhide P2)).mono ?_); rintro e w3 ⟨rfl, hb3⟩)
    | (go_at_call 12; (with_reducible refine (unhide HI1 _ (by repeat' (first | (with_reducible exact up_refl _) | (with_reducible assumption) | (with_reducible refine up_alloc ?_ _) | (with_reducible refine up_drewN ?_ _) | (with_reducible refine up_drew ?_) | (with_reducible refine up_set ?_ (by first | (simp; done) | (simp; omega) | omega) _) | (refine up_trans ?_ (by with_reducible assumption))))).mono ?_); rintro e w4 ⟨rfl, hb4⟩)
    | (go_at_call 13; (with_reducible refine (unhide HI2 _ (by repeat' (first | (with_reducible exact up_refl _) | (with_reducible assumption) | (with_reducible refine up_alloc ?_ _) | (with_reducible refine up_drewN ?_ _) | (with_reducible refine up_drew ?_) | (with_reducible refine up_set ?_ (by first | (simp; done) | (simp; omega) | omega) _) | (refine up_trans ?_ (by with_reducible assumption))))).mono ?_); rintro e w5 ⟨rfl, hb5⟩))
  have AS2 := hide (unhide HAS w2 A2 c2 (unhide P2) q3 q4)
  have Bb := bx_new w5 [.slice A ps.length cap, .slice A2 H.length c2] 22
  have hw25 : Up w2 w5 := up_trans (up_trans hb3 hb4) hb5
  have hwc5 : Up wc w5 := up_trans (up_trans hb1 hb2) hw25
  have hw5 : Up w w5 := up_trans hw hwc5
  obtain ⟨wB, hwB⟩ : ∃ wB, w5.alloc (.cells #[.slice A ps.length cap, .slice A2 H.length c2] 22) = wB := ⟨_, rfl⟩
  have e5 : Up w5 wB := by rw [← hwB]; exact up_alloc (up_refl _) _
  have f0 : wB.cell? ⟨w5.heap.size, 0, none⟩ = some (.slice A ps.length cap) := by rw [← hwB]; exact (bx2 Bb).1
  have f1 : wB.cell? ⟨w5.heap.size, 1, none⟩ = some (.slice A2 H.length c2) := by rw [← hwB]; exact (bx2 Bb).2
  have f2 := up_cell (up_trans hwc5 e5) (bx2 (unhide BX1)).1
  have f3 := up_cell (up_trans hwc5 e5) (bx2 (unhide BX1)).2
  have hwb := up_trans hw5 e5
  have hw2b := up_trans hw25 e5
  rw [hwB]
  clear hwB Bb hw25 hwc5 hw5 e5 BX1 P1 P2 HPH HRH HI1 HI2 HS0 HAS hb1 hb2 hb3 hb4 hb5 hw q1 q2 q3 q4
  go_loopw [12] (fun s12 wr => ∃ k : Nat, k ≤ 2 ∧ s12 = .int .i64 k ∧ Up wB wr) (fun s12 _ => 2 - (intOf s12).toNat)
  case atStart => exact ⟨0, by omega, rfl, up_refl _⟩
  case round =>
    obtain ⟨k, hk, rfl, hu⟩ := hrel
    have c0 := up_cell hu f0
    have c1 := up_cell hu f1
    have d0 := up_cell hu f2
    have d1 := up_cell hu f3
    by_cases hk0 : k = 0
    · obtain rfl : 0 = k := hk0.symm
      have hb : Up w wr := up_trans hwb hu
      have AB := hide (fun p : UpW wr => (up_trans hb p.up : Up w p.v))
      go_upto_region 11 with fail
      go_cut [13, 14] (fun s13 s14 wx => s13 = .bool b0 ∧ s14 = .int .i64 e0 ∧ Up wr wx)
      case first => as_aux_lemma =>
        have n0 : ∀ p : UpW wr, p.v.cell? ⟨w5.heap.size, 0, none⟩ = some (.slice A ps.length cap) := fun p => up_cell p.up c0
        have n1 : ∀ p : UpW wr, p.v.cell? ⟨w.heap.size, 0, none⟩ = some (.int .i64 x) := fun p => up_cell p.up d0
        have n2 : ∀ p : UpW wr, p.v.cell? ⟨w.heap.size, 1, none⟩ = some (.int .i64 y) := fun p => up_cell p.up d1
        refine wp_upq (by kernel_rfl) (by kernel_rfl) ?_; (repeat (go_big_quiet_step ((go_at_call 14; exact upq ((unhide AS0).in1 _ (unhide AB _)))))); refine wpQuiet_nil ?_; intro _ hw'; obtain ⟨pq, hw''⟩ := hw'; subst hw''; have hpq := pq.up
        go_wp2_with fail
        go_meet
        exact ⟨rfl, rfl, hpq⟩
      case rest =>
      obtain ⟨rfl, rfl, hv1⟩ := hcut
      obtain ⟨wd, rfl⟩ : ∃ wd, wd = wc := ⟨_, rfl⟩
      have c0' := up_cell hv1 c0
      have d0' := up_cell hv1 d0
      have d1' := up_cell hv1 d1
      have hb' : Up w wd := up_trans hb hv1
      have AB2 := hide (fun p : UpW wd => (up_trans hb' p.up : Up w p.v))
      go_upto_region 12 with fail
      go_cut [15, 16] (fun s13 s14 wx => s13 = .bool b0 ∧ s14 = .int .i64 e0 ∧ Up wd wx)
      case first => as_aux_lemma =>
        have n0 : ∀ p : UpW wd, p.v.cell? ⟨w5.heap.size, 0, none⟩ = some (.slice A ps.length cap) := fun p => up_cell p.up c0'
        have n1 : ∀ p : UpW wd, p.v.cell? ⟨w.heap.size, 0, none⟩ = some (.int .i64 x) := fun p => up_cell p.up d0'
        have n2 : ∀ p : UpW wd, p.v.cell? ⟨w.heap.size, 1, none⟩ = some (.int .i64 y) := fun p => up_cell p.up d1'
        refine wp_upq (by kernel_rfl) (by kernel_rfl) ?_; (repeat (go_big_quiet_step ((go_at_call 15; exact upq ((unhide AS0).in2 _ (unhide AB2 _)))))); refine wpQuiet_nil ?_; intro _ hw'; obtain ⟨pq, hw''⟩ := hw'; subst hw''; have hpq := pq.up
        go_wp2_with fail
        go_meet
        exact ⟨rfl, rfl, hpq⟩
      case rest =>
      obtain ⟨rfl, rfl, hv2⟩ := hcut
      have hv3 : Up wB wc := up_trans hu (up_trans hv1 hv2)
      have hb2 : Up w wc := up_trans hb' hv2
      have k0 := up_cell hv2 c0'
      clear c0' d0' d1' AB AB2
      go_wp2_with (first
        | (go_at_call 16; (with_reducible refine ((unhide AS0).ar1 _ (by repeat' (first | (with_reducible exact up_refl _) | (with_reducible assumption) | (with_reducible refine up_alloc ?_ _) | (with_reducible refine up_drewN ?_ _) | (with_reducible refine up_drew ?_) | (with_reducible refine up_set ?_ (by first | (simp; done) | (simp; omega) | omega) _) | (refine up_trans ?_ (by with_reducible assumption))))).mono ?_); rintro e w11 ⟨rfl, hb11⟩; have k0a := up_cell hb11 k0)
        | (go_at_call 17; (with_reducible refine ((unhide AS0).ar2 _ (by repeat' (first | (with_reducible exact up_refl _) | (with_reducible assumption) | (with_reducible refine up_alloc ?_ _) | (with_reducible refine up_drewN ?_ _) | (with_reducible refine up_drew ?_) | (with_reducible refine up_set ?_ (by first | (simp; done) | (simp; omega) | omega) _) | (refine up_trans ?_ (by with_reducible assumption))))).mono ?_); rintro e w12 ⟨rfl, hb12⟩; have k0b := up_cell hb12 k0a)
        | (go_at_call 18; (with_reducible refine ((unhide AS0).gr1 _ (by repeat' (first | (with_reducible exact up_refl _) | (with_reducible assumption) | (with_reducible refine up_alloc ?_ _) | (with_reducible refine up_drewN ?_ _) | (with_reducible refine up_drew ?_) | (with_reducible refine up_set ?_ (by first | (simp; done) | (simp; omega) | omega) _) | (refine up_trans ?_ (by with_reducible assumption))))).mono ?_); rintro e w13 ⟨A13, c13, rfl, p13, hb13⟩; have P13 := hide p13; have k0c := up_cell hb13 k0b; clear p13)
        | (go_at_call 19; (with_reducible refine ((unhide AS0).gr2 _ (by repeat' (first | (with_reducible exact up_refl _) | (with_reducible assumption) | (with_reducible refine up_alloc ?_ _) | (with_reducible refine up_drewN ?_ _) | (with_reducible refine up_drew ?_) | (with_reducible refine up_set ?_ (by first | (simp; done) | (simp; omega) | omega) _) | (refine up_trans ?_ (by with_reducible assumption))))).mono ?_); rintro e w14 ⟨A14, c14, rfl, p14, hb14⟩; have P14 := hide p14; clear p14)
        | (go_at_call 11; (with_reducible refine (unhide HS1 _ _ _ _ _ (pts_up (unhide P13) hb14) (unhide P14)).mono ?_); rintro e w15 ⟨rfl, hb15⟩))
      first
        | exact ⟨⟨0 + 1, by omega, by go_num, (by repeat' (first | (with_reducible exact up_refl _) | (with_reducible assumption) | (with_reducible refine up_alloc ?_ _) | (with_reducible refine up_drewN ?_ _) | (with_reducible refine up_drew ?_) | (with_reducible refine up_set ?_ (by first | (simp; done) | (simp; omega) | omega) _) | (refine up_trans ?_ (by with_reducible assumption))))⟩, by simp [intOf]⟩
        | (go_roundw; (case rel => exact ⟨0 + 1, by omega, by go_num, (by repeat' (first | (with_reducible exact up_refl _) | (with_reducible assumption) | (with_reducible refine up_alloc ?_ _) | (with_reducible refine up_drewN ?_ _) | (with_reducible refine up_drew ?_) | (with_reducible refine up_set ?_ (by first | (simp; done) | (simp; omega) | omega) _) | (refine up_trans ?_ (by with_reducible assumption))))⟩); (case measure => simp [intOf]))
    · by_cases hk1 : k = 1
      · obtain rfl : 1 = k := hk1.symm
        have hb : Up w2 wr := up_trans hw2b hu
        have AB := hide (fun p : UpW wr => (up_trans hb p.up : Up w2 p.v))
        go_upto_region 11 with fail
        go_cut [13, 14] (fun s13 s14 wx => s13 = .bool b1 ∧ s14 = .int .i64 e1 ∧ Up wr wx)
        case first => as_aux_lemma =>
          have n0 : ∀ p : UpW wr, p.v.cell? ⟨w5.heap.size, 1, none⟩ = some (.slice A2 H.length c2) := fun p => up_cell p.up c1
          have n1 : ∀ p : UpW wr, p.v.cell? ⟨w.heap.size, 0, none⟩ = some (.int .i64 x) := fun p => up_cell p.up d0
          have n2 : ∀ p : UpW wr, p.v.cell? ⟨w.heap.size, 1, none⟩ = some (.int .i64 y) := fun p => up_cell p.up d1
          refine wp_upq (by kernel_rfl) (by kernel_rfl) ?_; (repeat (go_big_quiet_step ((go_at_call 14; exact upq ((unhide AS2).in1 _ (unhide AB _)))))); refine wpQuiet_nil ?_; intro _ hw'; obtain ⟨pq, hw''⟩ := hw'; subst hw''; have hpq := pq.up
          go_wp2_with fail
          go_meet
          exact ⟨rfl, rfl, hpq⟩
        case rest =>
        obtain ⟨rfl, rfl, hv1⟩ := hcut
        obtain ⟨wd, rfl⟩ : ∃ wd, wd = wc := ⟨_, rfl⟩
        have c1' := up_cell hv1 c1
        have d0' := up_cell hv1 d0
        have d1' := up_cell hv1 d1
        have hb' : Up w2 wd := up_trans hb hv1
        have AB2 := hide (fun p : UpW wd => (up_trans hb' p.up : Up w2 p.v))
        go_upto_region 12 with fail
        go_cut [15, 16] (fun s13 s14 wx => s13 = .bool b1 ∧ s14 = .int .i64 e1 ∧ Up wd wx)
        case first => as_aux_lemma =>
          have n0 : ∀ p : UpW wd, p.v.cell? ⟨w5.heap.size, 1, none⟩ = some (.slice A2 H.length c2) := fun p => up_cell p.up c1'
          have n1 : ∀ p : UpW wd, p.v.cell? ⟨w.heap.size, 0, none⟩ = some (.int .i64 x) := fun p => up_cell p.up d0'
          have n2 : ∀ p : UpW wd, p.v.cell? ⟨w.heap.size, 1, none⟩ = some (.int .i64 y) := fun p => up_cell p.up d1'
          refine wp_upq (by kernel_rfl) (by kernel_rfl) ?_; (repeat (go_big_quiet_step ((go_at_call 15; exact upq ((unhide AS2).in2 _ (unhide AB2 _)))))); refine wpQuiet_nil ?_; intro _ hw'; obtain ⟨pq, hw''⟩ := hw'; subst hw''; have hpq := pq.up
          go_wp2_with fail
          go_meet
          exact ⟨rfl, rfl, hpq⟩
        case rest =>
        obtain ⟨rfl, rfl, hv2⟩ := hcut
        have hv3 : Up wB wc := up_trans hu (up_trans hv1 hv2)
        have hb2 : Up w2 wc := up_trans hb' hv2
        have k1 := up_cell hv2 c1'
        clear c1' d0' d1' AB AB2
        go_wp2_with (first
          | (go_at_call 16; (with_reducible refine ((unhide AS2).ar1 _ (by repeat' (first | (with_reducible exact up_refl _) | (with_reducible assumption) | (with_reducible refine up_alloc ?_ _) | (with_reducible refine up_drewN ?_ _) | (with_reducible refine up_drew ?_) | (with_reducible refine up_set ?_ (by first | (simp; done) | (simp; omega) | omega) _) | (refine up_trans ?_ (by with_reducible assumption))))).mono ?_); rintro e w11 ⟨rfl, hb11⟩; have k1a := up_cell hb11 k1)
          | (go_at_call 17; (with_reducible refine ((unhide AS2).ar2 _ (by repeat' (first | (with_reducible exact up_refl _) | (with_reducible assumption) | (with_reducible refine up_alloc ?_ _) | (with_reducible refine up_drewN ?_ _) | (with_reducible refine up_drew ?_) | (with_reducible refine up_set ?_ (by first | (simp; done) | (simp; omega) | omega) _) | (refine up_trans ?_ (by with_reducible assumption))))).mono ?_); rintro e w12 ⟨rfl, hb12⟩; have k1b := up_cell hb12 k1a)
          | (go_at_call 18; (with_reducible refine ((unhide AS2).gr1 _ (by repeat' (first | (with_reducible exact up_refl _) | (with_reducible assumption) | (with_reducible refine up_alloc ?_ _) | (with_reducible refine up_drewN ?_ _) | (with_reducible refine up_drew ?_) | (with_reducible refine up_set ?_ (by first | (simp; done) | (simp; omega) | omega) _) | (refine up_trans ?_ (by with_reducible assumption))))).mono ?_); rintro e w13 ⟨A13, c13, rfl, p13, hb13⟩; have P13 := hide p13; have k1c := up_cell hb13 k1b; clear p13)
          | (go_at_call 19; (with_reducible refine ((unhide AS2).gr2 _ (by repeat' (first | (with_reducible exact up_refl _) | (with_reducible assumption) | (with_reducible refine up_alloc ?_ _) | (with_reducible refine up_drewN ?_ _) | (with_reducible refine up_drew ?_) | (with_reducible refine up_set ?_ (by first | (simp; done) | (simp; omega) | omega) _) | (refine up_trans ?_ (by with_reducible assumption))))).mono ?_); rintro e w14 ⟨A14, c14, rfl, p14, hb14⟩; have P14 := hide p14; clear p14)
          | (go_at_call 11; (with_reducible refine (unhide HS2 _ _ _ _ _ (pts_up (unhide P13) hb14) (unhide P14)).mono ?_); rintro e w15 ⟨rfl, hb15⟩))
        first
          | exact ⟨⟨1 + 1, by omega, by go_num, (by repeat' (first | (with_reducible exact up_refl _) | (with_reducible assumption) | (with_reducible refine up_alloc ?_ _) | (with_reducible refine up_drewN ?_ _) | (with_reducible refine up_drew ?_) | (with_reducible refine up_set ?_ (by first | (simp; done) | (simp; omega) | omega) _) | (refine up_trans ?_ (by with_reducible assumption))))⟩, by simp [intOf]⟩
          | (go_roundw; (case rel => exact ⟨1 + 1, by omega, by go_num, (by repeat' (first | (with_reducible exact up_refl _) | (with_reducible assumption) | (with_reducible refine up_alloc ?_ _) | (with_reducible refine up_drewN ?_ _) | (with_reducible refine up_drew ?_) | (with_reducible refine up_set ?_ (by first | (simp; done) | (simp; omega) | omega) _) | (refine up_trans ?_ (by with_reducible assumption))))⟩); (case measure => simp [intOf]))
      · obtain rfl : 2 = k := by omega
        clear c0 c1 d0 d1 f0 f1 f2 f3 AS0 AS2 HS1 HS2
        go_wp2_with (go_at_call 8; refine (l_works _).mono ?_; rintro e w19 ⟨rfl, hb19⟩)
        exact bodyPost_ret (v := .bool true) (by simp [results, Try.results3, go_sem]) rfl ⟨rfl, up_trans hwb (up_trans hu hb19)⟩
theorem l_Hulls (A : Option Addr) (ps : Pl) (cap : Nat) (x y t : Int) (w : World) (h : Pts w A ps) (h1 : ps.length ≤ cap) (h2 : cap ≤ 9223372036854775807) :
    Calls Try.prog 3 #[.slice A ps.length cap, pt x y, .int .i64 t] w fun e w' => e = .returned (.bool true) ∧ Below w.heap.size w w' := by
  by_cases hl : (40 < ps.length ∧ ps.length ≤ 256) ∨ 400 < ps.length
  · exact l_Hulls_long A ps.length cap x y t w hl
  · exact l_Hulls_some A ps cap x y t w h h1 h2 (by omega)
end Go.Proofs.Ytihckoenfklhpaa
