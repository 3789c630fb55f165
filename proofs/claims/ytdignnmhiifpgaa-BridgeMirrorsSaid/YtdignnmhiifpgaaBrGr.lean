/- Whether a bridge or a train is too large for a statement. -/
import Derived.Test.YtdignnmhiifpgaaBrKC
namespace Go.Proofs.Ytdignnmhiifpgaa
open Go.RowKit Go.Proofs.Gn
set_option linter.unusedVariables false
def grB (n0 n1 n2 m : Nat) : Bool := decide (10 < n0) || (decide (10 < n1) || (decide (10 < n2) || decide (70 < m)))
set_option maxRecDepth 100000 in
set_option maxHeartbeats 4000000 in
theorem l_great6 (b : Brg) (A : Option Addr) (m cap : Nat) (w : World) :
    Calls Try.prog 20 #[bgV b, .slice A m cap] w fun e w' => e = .returned (.bool (grB b.sp.length b.mo.length b.sh.length m)) ∧ Up w w' := by
  unfold grB bgV
  obtain ⟨n0, h0⟩ : ∃ n, b.sp.length = n := ⟨_, rfl⟩
  obtain ⟨n1, h1⟩ : ∃ n, b.mo.length = n := ⟨_, rfl⟩
  obtain ⟨n2, h2⟩ : ∃ n, b.sh.length = n := ⟨_, rfl⟩
  rw [h0, h1, h2]
  clear h0 h1 h2
  by_cases g0 : 10 < n0
  · have e0 : decide ((n0 : Int) > 10) = true := decide_eq_true (by omega)
    have e1 : decide (10 < (n0 : Int)) = true := decide_eq_true (by omega)
    have er : (decide (10 < n0) || (decide (10 < n1) || (decide (10 < n2) || decide (70 < m)))) = true := by simp [g0]
    rw [er]
    clear er g0
    go_enter Try.func20, Try.ntmps20
    go_wp2_with fail
    go_ret
    exact ⟨rfl, (by repeat' (first | (with_reducible exact up_refl _) | (with_reducible assumption) | (with_reducible refine up_alloc ?_ _) | (with_reducible refine up_drewN ?_ _) | (with_reducible refine up_drew ?_) | (with_reducible refine up_set ?_ (by first | (simp; done) | (simp; omega) | omega) _) | (refine up_trans ?_ (by with_reducible assumption))))⟩
  by_cases g1 : 10 < n1
  · have e0 : decide ((n0 : Int) > 10) = false := decide_eq_false (by omega)
    have e1 : decide (10 < (n0 : Int)) = false := decide_eq_false (by omega)
    have e2 : decide ((n1 : Int) > 10) = true := decide_eq_true (by omega)
    have e3 : decide (10 < (n1 : Int)) = true := decide_eq_true (by omega)
    have er : (decide (10 < n0) || (decide (10 < n1) || (decide (10 < n2) || decide (70 < m)))) = true := by simp [g1]
    rw [er]
    clear er g0 g1
    go_enter Try.func20, Try.ntmps20
    go_wp2_with fail
    go_ret
    exact ⟨rfl, (by repeat' (first | (with_reducible exact up_refl _) | (with_reducible assumption) | (with_reducible refine up_alloc ?_ _) | (with_reducible refine up_drewN ?_ _) | (with_reducible refine up_drew ?_) | (with_reducible refine up_set ?_ (by first | (simp; done) | (simp; omega) | omega) _) | (refine up_trans ?_ (by with_reducible assumption))))⟩
  by_cases g2 : 10 < n2
  · have e0 : decide ((n0 : Int) > 10) = false := decide_eq_false (by omega)
    have e1 : decide (10 < (n0 : Int)) = false := decide_eq_false (by omega)
    have e2 : decide ((n1 : Int) > 10) = false := decide_eq_false (by omega)
    have e3 : decide (10 < (n1 : Int)) = false := decide_eq_false (by omega)
    have e4 : decide ((n2 : Int) > 10) = true := decide_eq_true (by omega)
    have e5 : decide (10 < (n2 : Int)) = true := decide_eq_true (by omega)
    have er : (decide (10 < n0) || (decide (10 < n1) || (decide (10 < n2) || decide (70 < m)))) = true := by simp [g2]
    rw [er]
    clear er g0 g1 g2
    go_enter Try.func20, Try.ntmps20
    go_wp2_with fail
    go_ret
    exact ⟨rfl, (by repeat' (first | (with_reducible exact up_refl _) | (with_reducible assumption) | (with_reducible refine up_alloc ?_ _) | (with_reducible refine up_drewN ?_ _) | (with_reducible refine up_drew ?_) | (with_reducible refine up_set ?_ (by first | (simp; done) | (simp; omega) | omega) _) | (refine up_trans ?_ (by with_reducible assumption))))⟩
  have e0 : decide ((n0 : Int) > 10) = false := decide_eq_false (by omega)
  have e1 : decide (10 < (n0 : Int)) = false := decide_eq_false (by omega)
  have e2 : decide ((n1 : Int) > 10) = false := decide_eq_false (by omega)
  have e3 : decide (10 < (n1 : Int)) = false := decide_eq_false (by omega)
  have e4 : decide ((n2 : Int) > 10) = false := decide_eq_false (by omega)
  have e5 : decide (10 < (n2 : Int)) = false := decide_eq_false (by omega)
  by_cases g3 : 70 < m
  · have e6 : decide ((m : Int) > 70) = true := decide_eq_true (by omega)
    have e7 : decide (70 < (m : Int)) = true := decide_eq_true (by omega)
    have er : (decide (10 < n0) || (decide (10 < n1) || (decide (10 < n2) || decide (70 < m)))) = true := by simp [g3]
    rw [er]
    clear er g0 g1 g2 g3
    go_enter Try.func20, Try.ntmps20
    go_wp2_with fail
    go_ret
    exact ⟨rfl, (by repeat' (first | (with_reducible exact up_refl _) | (with_reducible assumption) | (with_reducible refine up_alloc ?_ _) | (with_reducible refine up_drewN ?_ _) | (with_reducible refine up_drew ?_) | (with_reducible refine up_set ?_ (by first | (simp; done) | (simp; omega) | omega) _) | (refine up_trans ?_ (by with_reducible assumption))))⟩
  · have e6 : decide ((m : Int) > 70) = false := decide_eq_false (by omega)
    have e7 : decide (70 < (m : Int)) = false := decide_eq_false (by omega)
    have er : (decide (10 < n0) || (decide (10 < n1) || (decide (10 < n2) || decide (70 < m)))) = false := by simp [g0, g1, g2, g3]
    rw [er]
    clear er g0 g1 g2 g3
    go_enter Try.func20, Try.ntmps20
    go_wp2_with fail
    go_ret
    exact ⟨rfl, (by repeat' (first | (with_reducible exact up_refl _) | (with_reducible assumption) | (with_reducible refine up_alloc ?_ _) | (with_reducible refine up_drewN ?_ _) | (with_reducible refine up_drew ?_) | (with_reducible refine up_set ?_ (by first | (simp; done) | (simp; omega) | omega) _) | (refine up_trans ?_ (by with_reducible assumption))))⟩
theorem grB_no {n0 n1 n2 m : Nat} (h : grB n0 n1 n2 m = false) : n0 ≤ 10 ∧ n1 ≤ 10 ∧ n2 ≤ 10 ∧ m ≤ 70 := by
  unfold grB at h
  simp only [Bool.or_eq_false_iff, decide_eq_false_iff_not] at h
  omega
end Go.Proofs.Ytdignnmhiifpgaa
