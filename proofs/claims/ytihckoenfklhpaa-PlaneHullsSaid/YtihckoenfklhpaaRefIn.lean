/- The reference's hulls and Inside. -/
import Derived.Test.YtihckoenfklhpaaRefHull
import Derived.Test.YtihckoenfklhpaaPolyU
import Derived.Test.YtihckoenfklhpaaMeet
namespace Go.Proofs.Ytihckoenfklhpaa
open Go.RowKit Go.Proofs.Gn
theorem isRB_hv {ps : Pl} (h : isRB ps = true) : HV ps := by
  unfold isRB at h
  simp only [Bool.and_eq_true, decide_eq_true_eq] at h
  obtain ⟨h1, h2, h3⟩ := h
  obtain ⟨l, o⟩ := ptsE_zero h1
  have P := (Gx.hullF_poly (List.ne_nil_of_length_pos h2)).1
  rw [h3] at P
  exact ⟨P, l, o⟩
theorem isRB_is {ps : Pl} (h0 : 0 < ps.length) (hl : ps.length ≤ 256) (ho : okL ps = true) : isRB ps = isHB ps := by
  have e : ptsE ps = 0 := by unfold ptsE; rw [if_pos hl, if_pos ho]
  unfold isRB
  rw [decide_eq_true e, decide_eq_true h0, Bool.true_and, Bool.true_and, Bool.eq_iff_iff, decide_eq_true_eq]
  constructor
  · intro h
    have P := (Gx.hullF_poly (List.ne_nil_of_length_pos h0)).1
    rw [h] at P
    exact isHB_iff.2 P.toIsH
  · intro h
    exact Gx.hullF_self (Gx.isH_poly (isHB_iff.1 h))
/-- The errors of two hulls. -/
def hulR (a b : Pl) : Int := if decide (256 < a.length) || decide (256 < b.length) then 6 else if !decide (ptsE a = 0) || (!decide (ptsE b = 0) || (!isRB a || !isRB b)) then 2 else 0
theorem hulR_zero {a b : Pl} (h : hulR a b = 0) : HV a ∧ HV b := by
  unfold hulR at h
  split at h
  · cases h
  · split at h
    · cases h
    · rename_i c
      simp only [Bool.or_eq_true, Bool.not_eq_true', not_or, Bool.not_eq_false] at c
      exact ⟨isRB_hv c.2.2.1, isRB_hv c.2.2.2⟩
set_option maxHeartbeats 4000000 in
theorem r_hulls (A B : Option Addr) (a b : Pl) (ca cb : Nat) (w : World) (ha : Pts w A a) (hb : Pts w B b) (la : a.length ≤ 70000) (lb : b.length ≤ 70000) :
    Calls Try.prog 40 #[.slice A a.length ca, .slice B b.length cb] w fun e w' => e = .returned (.int .i64 (hulR a b)) ∧ Up w w' := by
  have P1 : ∀ W : World, Up w W → Calls Try.prog 35 #[.slice A a.length ca] W fun e w' => e = .returned (.int .i64 (ptsE a)) ∧ Up W w' := fun W hu => r_points A a ca W (pts_up ha hu) (by omega)
  have P2 : ∀ W : World, Up w W → Calls Try.prog 35 #[.slice B b.length cb] W fun e w' => e = .returned (.int .i64 (ptsE b)) ∧ Up W w' := fun W hu => r_points B b cb W (pts_up hb hu) (by omega)
  have I1 : ∀ W : World, Up w W → Calls Try.prog 13 #[.slice A a.length ca] W fun e w' => e = .returned (.bool (isRB a)) ∧ Up W w' := fun W hu => r_IsHull A a ca W (pts_up ha hu) la
  have I2 : ∀ W : World, Up w W → Calls Try.prog 13 #[.slice B b.length cb] W fun e w' => e = .returned (.bool (isRB b)) ∧ Up W w' := fun W hu => r_IsHull B b cb W (pts_up hb hu) lb
  unfold hulR
  obtain ⟨i1, e1⟩ : ∃ i, isRB a = i := ⟨_, rfl⟩
  obtain ⟨i2, e2⟩ : ∃ i, isRB b = i := ⟨_, rfl⟩
  obtain ⟨q1, f1⟩ : ∃ i, ptsE a = i := ⟨_, rfl⟩
  obtain ⟨q2, f2⟩ : ∃ i, ptsE b = i := ⟨_, rfl⟩
  obtain ⟨n, g1⟩ : ∃ i, a.length = i := ⟨_, rfl⟩
  obtain ⟨m, g2⟩ : ∃ i, b.length = i := ⟨_, rfl⟩
  rw [e1] at I1 ⊢
  rw [e2] at I2 ⊢
  rw [f1] at P1 ⊢
  rw [f2] at P2 ⊢
  rw [g1] at P1 I1 ⊢
  rw [g2] at P2 I2 ⊢
  have HP1 := hide P1
  have HP2 := hide P2
  have HI1 := hide I1
  have HI2 := hide I2
  clear P1 P2 I1 I2 ha hb e1 e2 f1 f2 g1 g2 la lb
  by_cases c1 : 256 < n
  · rw [decide_eq_true c1]
    have k1 : decide ((256 : Int) < (n : Int)) = true := decide_eq_true (by omega)
    go_enter Try.func40, Try.ntmps40
    go_wp2_with fail
    go_ret
    exact ⟨rfl, (by repeat' (first | (with_reducible exact up_refl _) | (with_reducible assumption) | (with_reducible refine up_alloc ?_ _) | (with_reducible refine up_drewN ?_ _) | (with_reducible refine up_drew ?_) | (with_reducible refine up_set ?_ (by first | (simp; done) | (simp; omega) | omega) _) | (refine up_trans ?_ (by with_reducible assumption))))⟩
  rw [decide_eq_false c1]
  have k1 : decide ((256 : Int) < (n : Int)) = false := decide_eq_false (by omega)
  by_cases c2 : 256 < m
  · rw [decide_eq_true c2]
    have k2 : decide ((256 : Int) < (m : Int)) = true := decide_eq_true (by omega)
    go_enter Try.func40, Try.ntmps40
    go_wp2_with fail
    go_ret
    exact ⟨rfl, (by repeat' (first | (with_reducible exact up_refl _) | (with_reducible assumption) | (with_reducible refine up_alloc ?_ _) | (with_reducible refine up_drewN ?_ _) | (with_reducible refine up_drew ?_) | (with_reducible refine up_set ?_ (by first | (simp; done) | (simp; omega) | omega) _) | (refine up_trans ?_ (by with_reducible assumption))))⟩
  rw [decide_eq_false c2]
  have k2 : decide ((256 : Int) < (m : Int)) = false := decide_eq_false (by omega)
  clear c1 c2
  by_cases c3 : q1 = 0
  · subst c3
    by_cases c4 : q2 = 0
    · subst c4
      cases i1 <;> cases i2 <;> (
        go_enter Try.func40, Try.ntmps40
        go_wp2_with (first
          | (go_at_call 35; (with_reducible refine (unhide HP1 _ (by repeat' (first | (with_reducible exact up_refl _) | (with_reducible assumption) | (with_reducible refine up_alloc ?_ _) | (with_reducible refine up_drewN ?_ _) | (with_reducible refine up_drew ?_) | (with_reducible refine up_set ?_ (by first | (simp; done) | (simp; omega) | omega) _) | (refine up_trans ?_ (by with_reducible assumption))))).mono ?_); rintro e w1 ⟨rfl, hb1⟩)
          | (go_at_call 35; (with_reducible refine (unhide HP2 _ (by repeat' (first | (with_reducible exact up_refl _) | (with_reducible assumption) | (with_reducible refine up_alloc ?_ _) | (with_reducible refine up_drewN ?_ _) | (with_reducible refine up_drew ?_) | (with_reducible refine up_set ?_ (by first | (simp; done) | (simp; omega) | omega) _) | (refine up_trans ?_ (by with_reducible assumption))))).mono ?_); rintro e w2 ⟨rfl, hb2⟩)
          | (go_at_call 13; (with_reducible refine (unhide HI1 _ (by repeat' (first | (with_reducible exact up_refl _) | (with_reducible assumption) | (with_reducible refine up_alloc ?_ _) | (with_reducible refine up_drewN ?_ _) | (with_reducible refine up_drew ?_) | (with_reducible refine up_set ?_ (by first | (simp; done) | (simp; omega) | omega) _) | (refine up_trans ?_ (by with_reducible assumption))))).mono ?_); rintro e w3 ⟨rfl, hb3⟩)
          | (go_at_call 13; (with_reducible refine (unhide HI2 _ (by repeat' (first | (with_reducible exact up_refl _) | (with_reducible assumption) | (with_reducible refine up_alloc ?_ _) | (with_reducible refine up_drewN ?_ _) | (with_reducible refine up_drew ?_) | (with_reducible refine up_set ?_ (by first | (simp; done) | (simp; omega) | omega) _) | (refine up_trans ?_ (by with_reducible assumption))))).mono ?_); rintro e w4 ⟨rfl, hb4⟩))
        go_ret
        exact ⟨rfl, (by repeat' (first | (with_reducible exact up_refl _) | (with_reducible assumption) | (with_reducible refine up_alloc ?_ _) | (with_reducible refine up_drewN ?_ _) | (with_reducible refine up_drew ?_) | (with_reducible refine up_set ?_ (by first | (simp; done) | (simp; omega) | omega) _) | (refine up_trans ?_ (by with_reducible assumption))))⟩)
    · rw [decide_eq_false c4]
      have z2 : (q2 == 0) = false := beq_false_of_ne c4
      go_enter Try.func40, Try.ntmps40
      go_wp2_with (first
        | (go_at_call 35; (with_reducible refine (unhide HP1 _ (by repeat' (first | (with_reducible exact up_refl _) | (with_reducible assumption) | (with_reducible refine up_alloc ?_ _) | (with_reducible refine up_drewN ?_ _) | (with_reducible refine up_drew ?_) | (with_reducible refine up_set ?_ (by first | (simp; done) | (simp; omega) | omega) _) | (refine up_trans ?_ (by with_reducible assumption))))).mono ?_); rintro e w1 ⟨rfl, hb1⟩)
        | (go_at_call 35; (with_reducible refine (unhide HP2 _ (by repeat' (first | (with_reducible exact up_refl _) | (with_reducible assumption) | (with_reducible refine up_alloc ?_ _) | (with_reducible refine up_drewN ?_ _) | (with_reducible refine up_drew ?_) | (with_reducible refine up_set ?_ (by first | (simp; done) | (simp; omega) | omega) _) | (refine up_trans ?_ (by with_reducible assumption))))).mono ?_); rintro e w2 ⟨rfl, hb2⟩))
      go_ret
      exact ⟨rfl, (by repeat' (first | (with_reducible exact up_refl _) | (with_reducible assumption) | (with_reducible refine up_alloc ?_ _) | (with_reducible refine up_drewN ?_ _) | (with_reducible refine up_drew ?_) | (with_reducible refine up_set ?_ (by first | (simp; done) | (simp; omega) | omega) _) | (refine up_trans ?_ (by with_reducible assumption))))⟩
  · rw [decide_eq_false c3]
    have z1 : (q1 == 0) = false := beq_false_of_ne c3
    go_enter Try.func40, Try.ntmps40
    go_wp2_with (go_at_call 35; (with_reducible refine (unhide HP1 _ (by repeat' (first | (with_reducible exact up_refl _) | (with_reducible assumption) | (with_reducible refine up_alloc ?_ _) | (with_reducible refine up_drewN ?_ _) | (with_reducible refine up_drew ?_) | (with_reducible refine up_set ?_ (by first | (simp; done) | (simp; omega) | omega) _) | (refine up_trans ?_ (by with_reducible assumption))))).mono ?_); rintro e w1 ⟨rfl, hb1⟩)
    go_ret
    exact ⟨rfl, (by repeat' (first | (with_reducible exact up_refl _) | (with_reducible assumption) | (with_reducible refine up_alloc ?_ _) | (with_reducible refine up_drewN ?_ _) | (with_reducible refine up_drew ?_) | (with_reducible refine up_set ?_ (by first | (simp; done) | (simp; omega) | omega) _) | (refine up_trans ?_ (by with_reducible assumption))))⟩
/-- What Inside returns: the document's answer. -/
def inE (ps : Pl) (x y : Int) : Int := if hulR ps ps = 0 then if okp x y then 0 else 2 else hulR ps ps
def inV (ps : Pl) (x y : Int) : Bool := decide (hulR ps ps = 0) && (okp x y && decide (Gx.hullF (ps ++ [(x, y)]) = ps))
theorem r_Inside (A : Option Addr) (ps : Pl) (cap : Nat) (x y : Int) (w : World) (h : Pts w A ps) (hn : ps.length ≤ 60000) :
    Calls Try.prog 15 #[.slice A ps.length cap, pt x y] w fun e w' => e = .returned (.tuple #[.bool (inV ps x y), .int .i64 (inE ps x y)]) ∧ Up w w' := by
  have PH : ∀ W : World, Up w W → Calls Try.prog 40 #[.slice A ps.length cap, .slice A ps.length cap] W fun e w' => e = .returned (.int .i64 (hulR ps ps)) ∧ Up W w' := fun W hu => r_hulls A A ps ps cap cap W (pts_up h hu) (pts_up h hu) (by omega) (by omega)
  have PI : ∀ W : World, Calls Try.prog 41 #[pt x y] W fun e w' => e = .returned (.bool (okp x y)) ∧ Up W w' := fun W => r_Is x y W
  have PS : hulR ps ps = 0 → okp x y = true → ∀ W : World, Up w W → Calls Try.prog 42 #[.slice A ps.length cap, pt x y] W fun e w' => e = .returned (.bool (decide (Gx.hullF (ps ++ [(x, y)]) = ps))) ∧ Up W w' := fun hz ho W hu => by
    obtain ⟨hv, _⟩ := hulR_zero hz
    obtain ⟨b, off, rfl, hc⟩ := h.resolve_left (by intro e; have := hv.pos; rw [e] at this; simp at this)
    exact r_Has b off ps cap x y W (pts_up (.inr ⟨b, off, rfl, hc⟩) hu) hn hv.bd (okp_bd ho).1 (okp_bd ho).2
  have BN := hide (bx_new w [.int .i64 x, .int .i64 y] 24)
  unfold inV inE
  obtain ⟨n, hN⟩ : ∃ n, ps.length = n := ⟨_, rfl⟩
  obtain ⟨R, hR⟩ : ∃ R, decide (Gx.hullF (ps ++ [(x, y)]) = ps) = R := ⟨_, rfl⟩
  rw [hN] at PH PS ⊢
  rw [hR] at PS ⊢
  clear hN hR h hn
  by_cases c : hulR ps ps = 0
  · have PS' := PS c
    rw [c] at PH
    rw [c]
    simp only [decide_true, Bool.true_and, if_true]
    cases o : okp x y
    · rw [o] at PI
      have HPH := hide PH
      have HPI := hide PI
      clear PH PI PS PS' c o
      go_enter Try.func15, Try.ntmps15
      go_wp2_with (first
        | (go_at_call 40; (with_reducible refine (unhide HPH _ (by repeat' (first | (with_reducible exact up_refl _) | (with_reducible assumption) | (with_reducible refine up_alloc ?_ _) | (with_reducible refine up_drewN ?_ _) | (with_reducible refine up_drew ?_) | (with_reducible refine up_set ?_ (by first | (simp; done) | (simp; omega) | omega) _) | (refine up_trans ?_ (by with_reducible assumption))))).mono ?_); rintro e w1 ⟨rfl, hb1⟩; have y0 := (bx2 (bx_up (unhide BN) hb1)).1; have y1 := (bx2 (bx_up (unhide BN) hb1)).2)
        | (go_at_call 41; (with_reducible refine (unhide HPI _).mono ?_); rintro e w2 ⟨rfl, hb2⟩))
      go_ret2
      exact ⟨rfl, (by repeat' (first | (with_reducible exact up_refl _) | (with_reducible assumption) | (with_reducible refine up_alloc ?_ _) | (with_reducible refine up_drewN ?_ _) | (with_reducible refine up_drew ?_) | (with_reducible refine up_set ?_ (by first | (simp; done) | (simp; omega) | omega) _) | (refine up_trans ?_ (by with_reducible assumption))))⟩
    · have PS2 := PS' o
      rw [o] at PI
      have HPH := hide PH
      have HPI := hide PI
      have HPS := hide PS2
      clear PH PI PS PS' PS2 c o
      go_enter Try.func15, Try.ntmps15
      go_wp2_with (first
        | (go_at_call 40; (with_reducible refine (unhide HPH _ (by repeat' (first | (with_reducible exact up_refl _) | (with_reducible assumption) | (with_reducible refine up_alloc ?_ _) | (with_reducible refine up_drewN ?_ _) | (with_reducible refine up_drew ?_) | (with_reducible refine up_set ?_ (by first | (simp; done) | (simp; omega) | omega) _) | (refine up_trans ?_ (by with_reducible assumption))))).mono ?_); rintro e w1 ⟨rfl, hb1⟩; have y0 := (bx2 (bx_up (unhide BN) hb1)).1; have y1 := (bx2 (bx_up (unhide BN) hb1)).2)
        | (go_at_call 41; (with_reducible refine (unhide HPI _).mono ?_); rintro e w2 ⟨rfl, hb2⟩; have x0 := up_cell hb2 y0; have x1 := up_cell hb2 y1)
        | (go_at_call 42; (with_reducible refine (unhide HPS _ (by repeat' (first | (with_reducible exact up_refl _) | (with_reducible assumption) | (with_reducible refine up_alloc ?_ _) | (with_reducible refine up_drewN ?_ _) | (with_reducible refine up_drew ?_) | (with_reducible refine up_set ?_ (by first | (simp; done) | (simp; omega) | omega) _) | (refine up_trans ?_ (by with_reducible assumption))))).mono ?_); rintro e w3 ⟨rfl, hb3⟩))
      go_ret2
      exact ⟨rfl, (by repeat' (first | (with_reducible exact up_refl _) | (with_reducible assumption) | (with_reducible refine up_alloc ?_ _) | (with_reducible refine up_drewN ?_ _) | (with_reducible refine up_drew ?_) | (with_reducible refine up_set ?_ (by first | (simp; done) | (simp; omega) | omega) _) | (refine up_trans ?_ (by with_reducible assumption))))⟩
  · rw [decide_eq_false c, if_neg c]
    obtain ⟨z, hZ⟩ : ∃ z, hulR ps ps = z := ⟨_, rfl⟩
    rw [hZ] at PH c ⊢
    have HPH := hide PH
    have z1 : (z == 0) = false := beq_false_of_ne c
    clear PH PI PS hZ
    go_enter Try.func15, Try.ntmps15
    go_wp2_with (first
      | (go_at_call 40; (with_reducible refine (unhide HPH _ (by repeat' (first | (with_reducible exact up_refl _) | (with_reducible assumption) | (with_reducible refine up_alloc ?_ _) | (with_reducible refine up_drewN ?_ _) | (with_reducible refine up_drew ?_) | (with_reducible refine up_set ?_ (by first | (simp; done) | (simp; omega) | omega) _) | (refine up_trans ?_ (by with_reducible assumption))))).mono ?_); rintro e w1 ⟨rfl, hb1⟩))
    go_ret2
    exact ⟨rfl, (by repeat' (first | (with_reducible exact up_refl _) | (with_reducible assumption) | (with_reducible refine up_alloc ?_ _) | (with_reducible refine up_drewN ?_ _) | (with_reducible refine up_drew ?_) | (with_reducible refine up_set ?_ (by first | (simp; done) | (simp; omega) | omega) _) | (refine up_trans ?_ (by with_reducible assumption))))⟩
end Go.Proofs.Ytihckoenfklhpaa
