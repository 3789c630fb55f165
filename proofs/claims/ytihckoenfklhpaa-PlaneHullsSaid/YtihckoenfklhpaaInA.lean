/- Inside, for any list and any point: it answers as the reference does. -/
import Derived.Test.YtihckoenfklhpaaHullsA
import Derived.Test.YtihckoenfklhpaaRefIn
namespace Go.Proofs.Ytihckoenfklhpaa
open Go.RowKit Go.Proofs.Gn
theorem isRB_hul {ps : Pl} : (hul1 ps = 0 ↔ isRB ps = true) ∧ hul1 ps = hulR ps ps := by
  by_cases h1 : ps.length ≤ 256
  · have g1 : decide (256 < ps.length) = false := decide_eq_false (by omega)
    by_cases h2 : okL ps = true
    · have e : ptsE ps = 0 := by unfold ptsE; rw [if_pos h1, if_pos h2]
      rcases Nat.eq_zero_or_pos ps.length with c | c
      · have e2 := List.eq_nil_of_length_eq_zero c
        subst e2
        have r0 : isRB [] = false := by unfold isRB; simp
        have z : hul1 [] = 2 := by unfold hul1; rw [isHB_nil]; simp
        have z2 : hulR [] [] = 2 := by unfold hulR; rw [r0]; simp
        rw [z, z2, r0]
        simp
      · have r := isRB_is c h1 h2
        unfold hul1 hulR
        rw [g1, e, r, if_pos h1, if_pos h2]
        cases isHB ps <;> simp
    · have h2' : okL ps = false := by cases h : okL ps; rfl; exact absurd h h2
      have e : ptsE ps = 2 := by unfold ptsE; rw [if_pos h1, if_neg h2]
      unfold hul1 hulR isRB
      rw [g1, e, if_pos h1, h2']
      simp
  · have g1 : decide (256 < ps.length) = true := decide_eq_true (by omega)
    have e : ptsE ps = 6 := by unfold ptsE; rw [if_neg h1]
    unfold hul1 hulR isRB
    rw [g1, e, if_neg h1]
    simp
theorem p_InsideA (A : Option Addr) (ps : Pl) (cap : Nat) (x y : Int) (w : World) (h : Pts w A ps) (hcap : ps.length ≤ cap) (hcap2 : cap ≤ 9223372036854775807) :
    Calls Try.prog 14 #[.slice A ps.length cap, pt x y] w fun e w' => e = .returned (.tuple #[.bool (inV ps x y), .int .i64 (inE ps x y)]) ∧ Up w w' := by
  have hh := (isRB_hul (ps := ps)).2
  by_cases c : hul1 ps = 0
  · have hv := isRB_hv ((isRB_hul (ps := ps)).1.1 c)
    have c' := c
    rw [hh] at c'
    obtain ⟨b, off, rfl, hc⟩ := h.resolve_left (by intro e; have := hv.pos; rw [e] at this; simp at this)
    cases o : okp x y
    · have e1 : inV ps x y = false := by unfold inV; rw [o]; simp
      have e2 : inE ps x y = 2 := by unfold inE; rw [if_pos c', o]; rfl
      rw [e1, e2]
      have PC : ∀ (B : Nat) W, Up w W → W.cell? ⟨B, 0, none⟩ = some (.slice (some ⟨b, off, none⟩) ps.length cap) → Calls Try.prog 37 #[.slice (some ⟨B, 0, none⟩) 1 1] W fun e w' => e = .returned (.int .i64 0) ∧ Up W w' := fun B W hu hw => by
        have q := p_check1 _ ps cap B W (pts_up (.inr ⟨b, off, rfl, hc⟩) hu) hcap hcap2 hw
        rw [c] at q
        exact q
      have PK : ∀ W, Calls Try.prog 38 #[pt x y] W fun e w' => e = .returned (.int .i64 2) ∧ Up W w' := fun W => by
        have q := p_Check x y W
        unfold chk at q
        rw [o] at q
        exact q
      obtain ⟨n, hN⟩ : ∃ n, ps.length = n := ⟨_, rfl⟩
      rw [hN] at PC ⊢
      have HPC := hide PC
      have HPK := hide PK
      clear PC PK hN hc hh c c' hv h hcap hcap2 o e1 e2
      go_enter Try.func14, Try.ntmps14
      go_wp2_with (first | (go_at_call 37; (with_reducible refine (unhide HPC _ _ (by repeat' (first | (with_reducible exact up_refl _) | (with_reducible assumption) | (with_reducible refine up_alloc ?_ _) | (with_reducible refine up_drewN ?_ _) | (with_reducible refine up_drew ?_) | (with_reducible refine up_set ?_ (by first | (simp; done) | (simp; omega) | omega) _) | (refine up_trans ?_ (by with_reducible assumption)))) ?_).mono ?_); (· go_cell); rintro e w1 ⟨rfl, hb1⟩; have p0 : w1.cell? ⟨w.heap.size, 0, none⟩ = some (.int .i64 x) := up_cell hb1 (by go_cell); have p1 : w1.cell? ⟨w.heap.size, 1, none⟩ = some (.int .i64 y) := up_cell hb1 (by go_cell)) | (go_at_call 38; (with_reducible refine (unhide HPK _).mono ?_); rintro e w2 ⟨rfl, hb2⟩))
      go_ret2
      exact ⟨rfl, (by repeat' (first | (with_reducible exact up_refl _) | (with_reducible assumption) | (with_reducible refine up_alloc ?_ _) | (with_reducible refine up_drewN ?_ _) | (with_reducible refine up_drew ?_) | (with_reducible refine up_set ?_ (by first | (simp; done) | (simp; omega) | omega) _) | (refine up_trans ?_ (by with_reducible assumption))))⟩
    · refine (p_Inside b off ps cap x y w (.inr ⟨b, off, rfl, hc⟩) hv.pos hv.len hv.ok hcap hcap2 hv.is o).mono fun e w' ⟨⟨v, he, hvv⟩, hu⟩ => ⟨?_, hu⟩
      have e2 : inE ps x y = 0 := by unfold inE; rw [if_pos c', o]; rfl
      have e1 : inV ps x y = v := by
        unfold inV
        rw [decide_eq_true c', o, Bool.true_and, Bool.true_and, Bool.eq_iff_iff, decide_eq_true_eq, Gx.hullF_has hv.poly, hvv]
      rw [he, e1, e2]
  · have c' := c
    rw [hh] at c'
    have e1 : inV ps x y = false := by unfold inV; rw [decide_eq_false c']; rfl
    have e2 : inE ps x y = hul1 ps := by unfold inE; rw [if_neg c', hh]
    rw [e1, e2]
    have PC : ∀ (B : Nat) W, Up w W → W.cell? ⟨B, 0, none⟩ = some (.slice A ps.length cap) → Calls Try.prog 37 #[.slice (some ⟨B, 0, none⟩) 1 1] W fun e w' => e = .returned (.int .i64 (hul1 ps)) ∧ Up W w' := fun B W hu hw => p_check1 _ ps cap B W (pts_up h hu) hcap hcap2 hw
    obtain ⟨z, hZ⟩ : ∃ z, hul1 ps = z := ⟨_, rfl⟩
    rw [hZ] at PC c ⊢
    have z1 : (z == 0) = false := beq_false_of_ne c
    obtain ⟨n, hN⟩ : ∃ n, ps.length = n := ⟨_, rfl⟩
    rw [hN] at PC ⊢
    have HPC := hide PC
    clear PC hN h hcap hcap2 hh c' e1 e2 hZ
    go_enter Try.func14, Try.ntmps14
    go_wp2_with (go_at_call 37; (with_reducible refine (unhide HPC _ _ (by repeat' (first | (with_reducible exact up_refl _) | (with_reducible assumption) | (with_reducible refine up_alloc ?_ _) | (with_reducible refine up_drewN ?_ _) | (with_reducible refine up_drew ?_) | (with_reducible refine up_set ?_ (by first | (simp; done) | (simp; omega) | omega) _) | (refine up_trans ?_ (by with_reducible assumption)))) ?_).mono ?_); (· go_cell); rintro e w1 ⟨rfl, hb1⟩)
    go_ret2
    exact ⟨rfl, (by repeat' (first | (with_reducible exact up_refl _) | (with_reducible assumption) | (with_reducible refine up_alloc ?_ _) | (with_reducible refine up_drewN ?_ _) | (with_reducible refine up_drew ?_) | (with_reducible refine up_set ?_ (by first | (simp; done) | (simp; omega) | omega) _) | (refine up_trans ?_ (by with_reducible assumption))))⟩
end Go.Proofs.Ytihckoenfklhpaa
