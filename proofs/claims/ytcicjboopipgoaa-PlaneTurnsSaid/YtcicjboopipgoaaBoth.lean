/- Two turns one after another: the document's own answers. -/
import Derived.Test.YtcicjboopipgoaaGcd
namespace Go.Proofs.Ytcicjboopipgoaa
open Go.RowKit Go.Proofs.Gn
theorem r_Both_1 (c s n c' s' n' : Int) (w : World) (r1 : rotB c s n = false) :
    Calls Try.prog 56 #[rt c s n, rt c' s' n'] w fun e w' => e = .returned (.tuple #[rt 0 0 0, .int .i64 2]) ∧ Up w w' := by
  have e1 : rotE c s n = 2 := by unfold rotE; rw [r1]; rfl
  clear r1
  go_enter Try.func56, Try.ntmps56
  go_wp2_with (go_at_call 54; refine (r_CheckRot _ _ _ _).mono ?_; rintro e w' ⟨rfl, hb⟩; have k2_0 : w'.cell? ⟨w.heap.size + 1 + 1, 0, none⟩ = some (.int .i64 0) := up_cell hb (by first | (with_reducible assumption) | (refine alloc_cell _ ?_; with_reducible assumption) | go_cell); have f2_0 : w'.frozen? ⟨w.heap.size + 1 + 1, 0, none⟩ = false := up_frozen hb (v := .int .i64 0) (by first | (with_reducible assumption) | (refine alloc_cell _ ?_; with_reducible assumption) | go_cell) (by first | (with_reducible assumption) | (refine alloc_frozen (v := .int .i64 0) _ ?_ ?_ <;> with_reducible assumption) | (simp; done) | (go_simp; done)); have k2_1 : w'.cell? ⟨w.heap.size + 1 + 1, 1, none⟩ = some (.int .i64 0) := up_cell hb (by first | (with_reducible assumption) | (refine alloc_cell _ ?_; with_reducible assumption) | go_cell); have f2_1 : w'.frozen? ⟨w.heap.size + 1 + 1, 1, none⟩ = false := up_frozen hb (v := .int .i64 0) (by first | (with_reducible assumption) | (refine alloc_cell _ ?_; with_reducible assumption) | go_cell) (by first | (with_reducible assumption) | (refine alloc_frozen (v := .int .i64 0) _ ?_ ?_ <;> with_reducible assumption) | (simp; done) | (go_simp; done)); have k2_2 : w'.cell? ⟨w.heap.size + 1 + 1, 2, none⟩ = some (.int .i64 0) := up_cell hb (by first | (with_reducible assumption) | (refine alloc_cell _ ?_; with_reducible assumption) | go_cell); have f2_2 : w'.frozen? ⟨w.heap.size + 1 + 1, 2, none⟩ = false := up_frozen hb (v := .int .i64 0) (by first | (with_reducible assumption) | (refine alloc_cell _ ?_; with_reducible assumption) | go_cell) (by first | (with_reducible assumption) | (refine alloc_frozen (v := .int .i64 0) _ ?_ ?_ <;> with_reducible assumption) | (simp; done) | (go_simp; done)))
  refine bodyPost_ret (v := .tuple #[rt 0 0 0, .int .i64 2]) (by simp [results, Try.results56, go_sem, *]) rfl ⟨rfl, (by repeat' (first | (with_reducible exact up_refl _) | (with_reducible assumption) | (with_reducible refine up_alloc ?_ _) | (with_reducible refine up_drewN ?_ _) | (with_reducible refine up_drew ?_) | (with_reducible refine up_set ?_ (by first | (simp; done) | (simp; omega) | omega) _) | (refine up_trans ?_ (by with_reducible assumption))))⟩
theorem r_Both_2 (c s n c' s' n' : Int) (w : World) (r1 : rotB c s n = true) (r2 : rotB c' s' n' = false) :
    Calls Try.prog 56 #[rt c s n, rt c' s' n'] w fun e w' => e = .returned (.tuple #[rt 0 0 0, .int .i64 2]) ∧ Up w w' := by
  have e1 : rotE c s n = 0 := by unfold rotE; rw [r1]; rfl
  have e2 : rotE c' s' n' = 2 := by unfold rotE; rw [r2]; rfl
  clear r1 r2
  go_enter Try.func56, Try.ntmps56
  go_wp2_with (go_at_call 54; refine (r_CheckRot _ _ _ _).mono ?_; rintro e w' ⟨rfl, hb⟩; have k0_0 : w'.cell? ⟨w.heap.size, 0, none⟩ = some (.int .i64 c) := up_cell hb (by first | (with_reducible assumption) | (refine alloc_cell _ ?_; with_reducible assumption) | go_cell); have k0_1 : w'.cell? ⟨w.heap.size, 1, none⟩ = some (.int .i64 s) := up_cell hb (by first | (with_reducible assumption) | (refine alloc_cell _ ?_; with_reducible assumption) | go_cell); have k0_2 : w'.cell? ⟨w.heap.size, 2, none⟩ = some (.int .i64 n) := up_cell hb (by first | (with_reducible assumption) | (refine alloc_cell _ ?_; with_reducible assumption) | go_cell); have k1_0 : w'.cell? ⟨w.heap.size + 1, 0, none⟩ = some (.int .i64 c') := up_cell hb (by first | (with_reducible assumption) | (refine alloc_cell _ ?_; with_reducible assumption) | go_cell); have k1_1 : w'.cell? ⟨w.heap.size + 1, 1, none⟩ = some (.int .i64 s') := up_cell hb (by first | (with_reducible assumption) | (refine alloc_cell _ ?_; with_reducible assumption) | go_cell); have k1_2 : w'.cell? ⟨w.heap.size + 1, 2, none⟩ = some (.int .i64 n') := up_cell hb (by first | (with_reducible assumption) | (refine alloc_cell _ ?_; with_reducible assumption) | go_cell); have k2_0 : w'.cell? ⟨w.heap.size + 1 + 1, 0, none⟩ = some (.int .i64 0) := up_cell hb (by first | (with_reducible assumption) | (refine alloc_cell _ ?_; with_reducible assumption) | go_cell); have f2_0 : w'.frozen? ⟨w.heap.size + 1 + 1, 0, none⟩ = false := up_frozen hb (v := .int .i64 0) (by first | (with_reducible assumption) | (refine alloc_cell _ ?_; with_reducible assumption) | go_cell) (by first | (with_reducible assumption) | (refine alloc_frozen (v := .int .i64 0) _ ?_ ?_ <;> with_reducible assumption) | (simp; done) | (go_simp; done)); have k2_1 : w'.cell? ⟨w.heap.size + 1 + 1, 1, none⟩ = some (.int .i64 0) := up_cell hb (by first | (with_reducible assumption) | (refine alloc_cell _ ?_; with_reducible assumption) | go_cell); have f2_1 : w'.frozen? ⟨w.heap.size + 1 + 1, 1, none⟩ = false := up_frozen hb (v := .int .i64 0) (by first | (with_reducible assumption) | (refine alloc_cell _ ?_; with_reducible assumption) | go_cell) (by first | (with_reducible assumption) | (refine alloc_frozen (v := .int .i64 0) _ ?_ ?_ <;> with_reducible assumption) | (simp; done) | (go_simp; done)); have k2_2 : w'.cell? ⟨w.heap.size + 1 + 1, 2, none⟩ = some (.int .i64 0) := up_cell hb (by first | (with_reducible assumption) | (refine alloc_cell _ ?_; with_reducible assumption) | go_cell); have f2_2 : w'.frozen? ⟨w.heap.size + 1 + 1, 2, none⟩ = false := up_frozen hb (v := .int .i64 0) (by first | (with_reducible assumption) | (refine alloc_cell _ ?_; with_reducible assumption) | go_cell) (by first | (with_reducible assumption) | (refine alloc_frozen (v := .int .i64 0) _ ?_ ?_ <;> with_reducible assumption) | (simp; done) | (go_simp; done)))
  refine bodyPost_ret (v := .tuple #[rt 0 0 0, .int .i64 2]) (by simp [results, Try.results56, go_sem, *]) rfl ⟨rfl, (by repeat' (first | (with_reducible exact up_refl _) | (with_reducible assumption) | (with_reducible refine up_alloc ?_ _) | (with_reducible refine up_drewN ?_ _) | (with_reducible refine up_drew ?_) | (with_reducible refine up_set ?_ (by first | (simp; done) | (simp; omega) | omega) _) | (refine up_trans ?_ (by with_reducible assumption))))⟩
set_option maxHeartbeats 1000000 in
theorem r_Both_3 (c s n c' s' n' : Int) (w : World) (r1 : rotB c s n = true) (r2 : rotB c' s' n' = true) (hle : n * n' / (boG c s n c' s' n' : Int) ≤ 16777216) :
    Calls Try.prog 56 #[rt c s n, rt c' s' n'] w fun e w' => e = .returned (.tuple #[rt ((boC c s c' s').tdiv (boG c s n c' s' n')) ((boS c s c' s').tdiv (boG c s n c' s' n')) ((n * n').tdiv (boG c s n c' s' n')), .int .i64 0]) ∧ Up w w' := by
  have e1 : rotE c s n = 0 := by unfold rotE; rw [r1]; rfl
  have e2 : rotE c' s' n' = 0 := by unfold rotE; rw [r2]; rfl
  obtain ⟨g1, g, hG, G1, G2, G3, hgi, hg2, hg3, m1, m2, m3, m4, m5, hq, ht⟩ := bo_facts r1 r2
  rw [hG] at hle ⊢
  rw [ht]
  unfold boC boS
  obtain ⟨a1, a2, a3, a4, a5, a6, -⟩ := rotB_yes r1
  obtain ⟨b1, b2, b3, b4, b5, b6, -⟩ := rotB_yes r2
  clear hG ht r1 r2
  go_enter Try.func56, Try.ntmps56
  go_wp2_with (first | (go_at_call 54; refine (r_CheckRot _ _ _ _).mono ?_; rintro e w' ⟨rfl, hb⟩; have k0_0 : w'.cell? ⟨w.heap.size, 0, none⟩ = some (.int .i64 c) := up_cell hb (by first | (with_reducible assumption) | (refine alloc_cell _ ?_; with_reducible assumption) | go_cell); have k0_1 : w'.cell? ⟨w.heap.size, 1, none⟩ = some (.int .i64 s) := up_cell hb (by first | (with_reducible assumption) | (refine alloc_cell _ ?_; with_reducible assumption) | go_cell); have k0_2 : w'.cell? ⟨w.heap.size, 2, none⟩ = some (.int .i64 n) := up_cell hb (by first | (with_reducible assumption) | (refine alloc_cell _ ?_; with_reducible assumption) | go_cell); have k1_0 : w'.cell? ⟨w.heap.size + 1, 0, none⟩ = some (.int .i64 c') := up_cell hb (by first | (with_reducible assumption) | (refine alloc_cell _ ?_; with_reducible assumption) | go_cell); have k1_1 : w'.cell? ⟨w.heap.size + 1, 1, none⟩ = some (.int .i64 s') := up_cell hb (by first | (with_reducible assumption) | (refine alloc_cell _ ?_; with_reducible assumption) | go_cell); have k1_2 : w'.cell? ⟨w.heap.size + 1, 2, none⟩ = some (.int .i64 n') := up_cell hb (by first | (with_reducible assumption) | (refine alloc_cell _ ?_; with_reducible assumption) | go_cell); have k2_0 : w'.cell? ⟨w.heap.size + 1 + 1, 0, none⟩ = some (.int .i64 0) := up_cell hb (by first | (with_reducible assumption) | (refine alloc_cell _ ?_; with_reducible assumption) | go_cell); have f2_0 : w'.frozen? ⟨w.heap.size + 1 + 1, 0, none⟩ = false := up_frozen hb (v := .int .i64 0) (by first | (with_reducible assumption) | (refine alloc_cell _ ?_; with_reducible assumption) | go_cell) (by first | (with_reducible assumption) | (refine alloc_frozen (v := .int .i64 0) _ ?_ ?_ <;> with_reducible assumption) | (simp; done) | (go_simp; done)); have k2_1 : w'.cell? ⟨w.heap.size + 1 + 1, 1, none⟩ = some (.int .i64 0) := up_cell hb (by first | (with_reducible assumption) | (refine alloc_cell _ ?_; with_reducible assumption) | go_cell); have f2_1 : w'.frozen? ⟨w.heap.size + 1 + 1, 1, none⟩ = false := up_frozen hb (v := .int .i64 0) (by first | (with_reducible assumption) | (refine alloc_cell _ ?_; with_reducible assumption) | go_cell) (by first | (with_reducible assumption) | (refine alloc_frozen (v := .int .i64 0) _ ?_ ?_ <;> with_reducible assumption) | (simp; done) | (go_simp; done)); have k2_2 : w'.cell? ⟨w.heap.size + 1 + 1, 2, none⟩ = some (.int .i64 0) := up_cell hb (by first | (with_reducible assumption) | (refine alloc_cell _ ?_; with_reducible assumption) | go_cell); have f2_2 : w'.frozen? ⟨w.heap.size + 1 + 1, 2, none⟩ = false := up_frozen hb (v := .int .i64 0) (by first | (with_reducible assumption) | (refine alloc_cell _ ?_; with_reducible assumption) | go_cell) (by first | (with_reducible assumption) | (refine alloc_frozen (v := .int .i64 0) _ ?_ ?_ <;> with_reducible assumption) | (simp; done) | (go_simp; done)); have hz := up_size hb; try simp only [World.size_alloc] at hz))
  have hne : w'.heap.size ≠ w.heap.size + 1 + 1 := by omega
  go_cut [7] (fun s7 wx => s7 = .int .i64 g ∧ wx.cell? ⟨w'.heap.size, 0, none⟩ = some (.int .i64 (c * c' - s * s')) ∧ wx.cell? ⟨w'.heap.size, 1, none⟩ = some (.int .i64 (s * c' + c * s')) ∧ wx.cell? ⟨w'.heap.size, 2, none⟩ = some (.int .i64 (n * n')) ∧ wx.frozen? ⟨w'.heap.size, 0, none⟩ = false ∧ wx.frozen? ⟨w'.heap.size, 1, none⟩ = false ∧ wx.frozen? ⟨w'.heap.size, 2, none⟩ = false ∧ Up w' wx)
  case first =>
    have hw1 : IntKind.i64.wrap (-(c * c' - s * s')) = -(c * c' - s * s') := IntWalk.i64_in _ ⟨by omega, by omega⟩
    have hw2 : IntKind.i64.wrap (-(s * c' + c * s')) = -(s * c' + c * s') := IntWalk.i64_in _ ⟨by omega, by omega⟩
    have hm1 : (if (c * c' - s * s') < -(c * c' - s * s') then -(c * c' - s * s') else (c * c' - s * s')) = ((c * c' - s * s').natAbs : Int) := by split <;> omega
    have hm2 : (if (s * c' + c * s') < -(s * c' + c * s') then -(s * c' + c * s') else (s * c' + c * s')) = ((s * c' + c * s').natAbs : Int) := by split <;> omega
    go_region_held3 (fun w2 => w2.cell? ⟨w'.heap.size, 0, none⟩ = some (.int .i64 (c * c' - s * s')) ∧ w2.cell? ⟨w'.heap.size, 1, none⟩ = some (.int .i64 (s * c' + c * s')) ∧ w2.cell? ⟨w'.heap.size, 2, none⟩ = some (.int .i64 (n * n'))) ((first | (exact ⟨by go_cell, by go_cell, by go_cell⟩) | (with_reducible assumption)))
      (first | (go_at_call 108; refine (r_commonG _ _ _ _ (by omega) (by omega) (by omega) (by omega) (by first | exact G1 | exact G3)).mono ?_; rintro e w2 ⟨rfl, rfl⟩))
    all_goals
      go_wp2_with fail
      go_meet
      exact ⟨rfl, by go_cell, by go_cell, by go_cell, by simp, by simp, by simp, (by repeat' (first | (with_reducible exact up_refl _) | (with_reducible assumption) | (with_reducible refine up_alloc ?_ _) | (with_reducible refine up_drewN ?_ _) | (with_reducible refine up_drew ?_) | (with_reducible refine up_set ?_ (by first | (simp; done) | (simp; omega) | omega) _) | (refine up_trans ?_ (by with_reducible assumption))))⟩
  case rest =>
  obtain ⟨rfl, q0, q1, q2, q3, q4, q5, hu0⟩ := hcut
  have hu1 : Up w wc := up_trans (by repeat' (first | (with_reducible exact up_refl _) | (with_reducible assumption) | (with_reducible refine up_alloc ?_ _) | (with_reducible refine up_drewN ?_ _) | (with_reducible refine up_drew ?_) | (with_reducible refine up_set ?_ (by first | (simp; done) | (simp; omega) | omega) _) | (refine up_trans ?_ (by with_reducible assumption)))) hu0
  replace f2_0 := up_frozen hu0 k2_0 f2_0
  replace f2_1 := up_frozen hu0 k2_1 f2_1
  replace f2_2 := up_frozen hu0 k2_2 f2_2
  replace k2_0 := up_cell hu0 k2_0
  replace k2_1 := up_cell hu0 k2_1
  replace k2_2 := up_cell hu0 k2_2
  have hz2 : w.heap.size ≤ w'.heap.size := by omega
  clear k0_0 k0_1 k0_2 k1_0 k1_1 k1_2 hb hu0
  go_wp2
  go_cut [7] (fun s7 wx => s7 = .int .i64 g ∧ wx.cell? ⟨w'.heap.size, 0, none⟩ = some (.int .i64 ((c * c' - s * s').tdiv g)) ∧ wx.cell? ⟨w'.heap.size, 1, none⟩ = some (.int .i64 ((s * c' + c * s').tdiv g)) ∧ wx.cell? ⟨w'.heap.size, 2, none⟩ = some (.int .i64 (n * n' / g)) ∧ wx.cell? ⟨w.heap.size + 1 + 1, 0, none⟩ = some (.int .i64 0) ∧ wx.cell? ⟨w.heap.size + 1 + 1, 1, none⟩ = some (.int .i64 0) ∧ wx.cell? ⟨w.heap.size + 1 + 1, 2, none⟩ = some (.int .i64 0) ∧ wx.frozen? ⟨w.heap.size + 1 + 1, 0, none⟩ = false ∧ wx.frozen? ⟨w.heap.size + 1 + 1, 1, none⟩ = false ∧ wx.frozen? ⟨w.heap.size + 1 + 1, 2, none⟩ = false ∧ Up w wx)
  case first =>
    go_region
    go_wp2_with fail
    go_meet
    have hne2 : w.heap.size + 1 + 1 ≠ w'.heap.size := fun h => hne h.symm
    refine ⟨rfl, by go_cell, by go_cell, by go_cell, ?_, ?_, ?_, ?_, ?_, ?_, (by repeat' (first | (with_reducible exact up_refl _) | (with_reducible assumption) | (with_reducible refine up_alloc ?_ _) | (with_reducible refine up_drewN ?_ _) | (with_reducible refine up_drew ?_) | (with_reducible refine up_set ?_ (by first | (simp; done) | (simp; omega) | omega) _) | (refine up_trans ?_ (by with_reducible assumption))))⟩
    all_goals first | go_cell | (simp [*]; done)
  case rest =>
    obtain ⟨rfl, d0, d1, d2, d3, d4, d5, d6, d7, d8, hu⟩ := hcut
    clear k2_0 k2_1 k2_2 f2_0 f2_1 f2_2 q0 q1 q2 q3 q4 q5 hu1
    go_wp2
    refine bodyPost_ret (v := .tuple #[rt ((c * c' - s * s').tdiv g) ((s * c' + c * s').tdiv g) (n * n' / g), .int .i64 0]) (by simp [results, Try.results56, go_sem, *]) rfl ⟨rfl, (by repeat' (first | (with_reducible exact up_refl _) | (with_reducible assumption) | (with_reducible refine up_alloc ?_ _) | (with_reducible refine up_drewN ?_ _) | (with_reducible refine up_drew ?_) | (with_reducible refine up_set ?_ (by first | (simp; done) | (simp; omega) | omega) _) | (refine up_trans ?_ (by with_reducible assumption))))⟩
set_option maxHeartbeats 1000000 in
theorem r_Both_4 (c s n c' s' n' : Int) (w : World) (r1 : rotB c s n = true) (r2 : rotB c' s' n' = true) (hle : 16777216 < n * n' / (boG c s n c' s' n' : Int)) :
    Calls Try.prog 56 #[rt c s n, rt c' s' n'] w fun e w' => e = .returned (.tuple #[rt 0 0 0, .int .i64 4]) ∧ Up w w' := by
  have e1 : rotE c s n = 0 := by unfold rotE; rw [r1]; rfl
  have e2 : rotE c' s' n' = 0 := by unfold rotE; rw [r2]; rfl
  obtain ⟨g1, g, hG, G1, G2, G3, hgi, hg2, hg3, m1, m2, m3, m4, m5, hq, ht⟩ := bo_facts r1 r2
  rw [hG] at hle
  obtain ⟨a1, a2, a3, a4, a5, a6, -⟩ := rotB_yes r1
  obtain ⟨b1, b2, b3, b4, b5, b6, -⟩ := rotB_yes r2
  clear hG ht r1 r2
  go_enter Try.func56, Try.ntmps56
  go_wp2_with (first | (go_at_call 54; refine (r_CheckRot _ _ _ _).mono ?_; rintro e w' ⟨rfl, hb⟩; have k0_0 : w'.cell? ⟨w.heap.size, 0, none⟩ = some (.int .i64 c) := up_cell hb (by first | (with_reducible assumption) | (refine alloc_cell _ ?_; with_reducible assumption) | go_cell); have k0_1 : w'.cell? ⟨w.heap.size, 1, none⟩ = some (.int .i64 s) := up_cell hb (by first | (with_reducible assumption) | (refine alloc_cell _ ?_; with_reducible assumption) | go_cell); have k0_2 : w'.cell? ⟨w.heap.size, 2, none⟩ = some (.int .i64 n) := up_cell hb (by first | (with_reducible assumption) | (refine alloc_cell _ ?_; with_reducible assumption) | go_cell); have k1_0 : w'.cell? ⟨w.heap.size + 1, 0, none⟩ = some (.int .i64 c') := up_cell hb (by first | (with_reducible assumption) | (refine alloc_cell _ ?_; with_reducible assumption) | go_cell); have k1_1 : w'.cell? ⟨w.heap.size + 1, 1, none⟩ = some (.int .i64 s') := up_cell hb (by first | (with_reducible assumption) | (refine alloc_cell _ ?_; with_reducible assumption) | go_cell); have k1_2 : w'.cell? ⟨w.heap.size + 1, 2, none⟩ = some (.int .i64 n') := up_cell hb (by first | (with_reducible assumption) | (refine alloc_cell _ ?_; with_reducible assumption) | go_cell); have k2_0 : w'.cell? ⟨w.heap.size + 1 + 1, 0, none⟩ = some (.int .i64 0) := up_cell hb (by first | (with_reducible assumption) | (refine alloc_cell _ ?_; with_reducible assumption) | go_cell); have f2_0 : w'.frozen? ⟨w.heap.size + 1 + 1, 0, none⟩ = false := up_frozen hb (v := .int .i64 0) (by first | (with_reducible assumption) | (refine alloc_cell _ ?_; with_reducible assumption) | go_cell) (by first | (with_reducible assumption) | (refine alloc_frozen (v := .int .i64 0) _ ?_ ?_ <;> with_reducible assumption) | (simp; done) | (go_simp; done)); have k2_1 : w'.cell? ⟨w.heap.size + 1 + 1, 1, none⟩ = some (.int .i64 0) := up_cell hb (by first | (with_reducible assumption) | (refine alloc_cell _ ?_; with_reducible assumption) | go_cell); have f2_1 : w'.frozen? ⟨w.heap.size + 1 + 1, 1, none⟩ = false := up_frozen hb (v := .int .i64 0) (by first | (with_reducible assumption) | (refine alloc_cell _ ?_; with_reducible assumption) | go_cell) (by first | (with_reducible assumption) | (refine alloc_frozen (v := .int .i64 0) _ ?_ ?_ <;> with_reducible assumption) | (simp; done) | (go_simp; done)); have k2_2 : w'.cell? ⟨w.heap.size + 1 + 1, 2, none⟩ = some (.int .i64 0) := up_cell hb (by first | (with_reducible assumption) | (refine alloc_cell _ ?_; with_reducible assumption) | go_cell); have f2_2 : w'.frozen? ⟨w.heap.size + 1 + 1, 2, none⟩ = false := up_frozen hb (v := .int .i64 0) (by first | (with_reducible assumption) | (refine alloc_cell _ ?_; with_reducible assumption) | go_cell) (by first | (with_reducible assumption) | (refine alloc_frozen (v := .int .i64 0) _ ?_ ?_ <;> with_reducible assumption) | (simp; done) | (go_simp; done)); have hz := up_size hb; try simp only [World.size_alloc] at hz))
  have hne : w'.heap.size ≠ w.heap.size + 1 + 1 := by omega
  go_cut [7] (fun s7 wx => s7 = .int .i64 g ∧ wx.cell? ⟨w'.heap.size, 0, none⟩ = some (.int .i64 (c * c' - s * s')) ∧ wx.cell? ⟨w'.heap.size, 1, none⟩ = some (.int .i64 (s * c' + c * s')) ∧ wx.cell? ⟨w'.heap.size, 2, none⟩ = some (.int .i64 (n * n')) ∧ wx.frozen? ⟨w'.heap.size, 0, none⟩ = false ∧ wx.frozen? ⟨w'.heap.size, 1, none⟩ = false ∧ wx.frozen? ⟨w'.heap.size, 2, none⟩ = false ∧ Up w' wx)
  case first =>
    have hw1 : IntKind.i64.wrap (-(c * c' - s * s')) = -(c * c' - s * s') := IntWalk.i64_in _ ⟨by omega, by omega⟩
    have hw2 : IntKind.i64.wrap (-(s * c' + c * s')) = -(s * c' + c * s') := IntWalk.i64_in _ ⟨by omega, by omega⟩
    have hm1 : (if (c * c' - s * s') < -(c * c' - s * s') then -(c * c' - s * s') else (c * c' - s * s')) = ((c * c' - s * s').natAbs : Int) := by split <;> omega
    have hm2 : (if (s * c' + c * s') < -(s * c' + c * s') then -(s * c' + c * s') else (s * c' + c * s')) = ((s * c' + c * s').natAbs : Int) := by split <;> omega
    go_region_held3 (fun w2 => w2.cell? ⟨w'.heap.size, 0, none⟩ = some (.int .i64 (c * c' - s * s')) ∧ w2.cell? ⟨w'.heap.size, 1, none⟩ = some (.int .i64 (s * c' + c * s')) ∧ w2.cell? ⟨w'.heap.size, 2, none⟩ = some (.int .i64 (n * n'))) ((first | (exact ⟨by go_cell, by go_cell, by go_cell⟩) | (with_reducible assumption)))
      (first | (go_at_call 108; refine (r_commonG _ _ _ _ (by omega) (by omega) (by omega) (by omega) (by first | exact G1 | exact G3)).mono ?_; rintro e w2 ⟨rfl, rfl⟩))
    all_goals
      go_wp2_with fail
      go_meet
      exact ⟨rfl, by go_cell, by go_cell, by go_cell, by simp, by simp, by simp, (by repeat' (first | (with_reducible exact up_refl _) | (with_reducible assumption) | (with_reducible refine up_alloc ?_ _) | (with_reducible refine up_drewN ?_ _) | (with_reducible refine up_drew ?_) | (with_reducible refine up_set ?_ (by first | (simp; done) | (simp; omega) | omega) _) | (refine up_trans ?_ (by with_reducible assumption))))⟩
  case rest =>
  obtain ⟨rfl, q0, q1, q2, q3, q4, q5, hu0⟩ := hcut
  have hu1 : Up w wc := up_trans (by repeat' (first | (with_reducible exact up_refl _) | (with_reducible assumption) | (with_reducible refine up_alloc ?_ _) | (with_reducible refine up_drewN ?_ _) | (with_reducible refine up_drew ?_) | (with_reducible refine up_set ?_ (by first | (simp; done) | (simp; omega) | omega) _) | (refine up_trans ?_ (by with_reducible assumption)))) hu0
  replace f2_0 := up_frozen hu0 k2_0 f2_0
  replace f2_1 := up_frozen hu0 k2_1 f2_1
  replace f2_2 := up_frozen hu0 k2_2 f2_2
  replace k2_0 := up_cell hu0 k2_0
  replace k2_1 := up_cell hu0 k2_1
  replace k2_2 := up_cell hu0 k2_2
  have hz2 : w.heap.size ≤ w'.heap.size := by omega
  clear k0_0 k0_1 k0_2 k1_0 k1_1 k1_2 hb hu0
  go_wp2
  go_cut [7] (fun s7 wx => s7 = .int .i64 g ∧ wx.cell? ⟨w'.heap.size, 0, none⟩ = some (.int .i64 ((c * c' - s * s').tdiv g)) ∧ wx.cell? ⟨w'.heap.size, 1, none⟩ = some (.int .i64 ((s * c' + c * s').tdiv g)) ∧ wx.cell? ⟨w'.heap.size, 2, none⟩ = some (.int .i64 (n * n' / g)) ∧ wx.cell? ⟨w.heap.size + 1 + 1, 0, none⟩ = some (.int .i64 0) ∧ wx.cell? ⟨w.heap.size + 1 + 1, 1, none⟩ = some (.int .i64 0) ∧ wx.cell? ⟨w.heap.size + 1 + 1, 2, none⟩ = some (.int .i64 0) ∧ wx.frozen? ⟨w.heap.size + 1 + 1, 0, none⟩ = false ∧ wx.frozen? ⟨w.heap.size + 1 + 1, 1, none⟩ = false ∧ wx.frozen? ⟨w.heap.size + 1 + 1, 2, none⟩ = false ∧ Up w wx)
  case first =>
    go_region
    go_wp2_with fail
    go_meet
    have hne2 : w.heap.size + 1 + 1 ≠ w'.heap.size := fun h => hne h.symm
    refine ⟨rfl, by go_cell, by go_cell, by go_cell, ?_, ?_, ?_, ?_, ?_, ?_, (by repeat' (first | (with_reducible exact up_refl _) | (with_reducible assumption) | (with_reducible refine up_alloc ?_ _) | (with_reducible refine up_drewN ?_ _) | (with_reducible refine up_drew ?_) | (with_reducible refine up_set ?_ (by first | (simp; done) | (simp; omega) | omega) _) | (refine up_trans ?_ (by with_reducible assumption))))⟩
    all_goals first | go_cell | (simp [*]; done)
  case rest =>
    obtain ⟨rfl, d0, d1, d2, d3, d4, d5, d6, d7, d8, hu⟩ := hcut
    clear k2_0 k2_1 k2_2 f2_0 f2_1 f2_2 q0 q1 q2 q3 q4 q5 hu1
    go_wp2
    refine bodyPost_ret (v := .tuple #[rt 0 0 0, .int .i64 4]) (by simp [results, Try.results56, go_sem, *]) rfl ⟨rfl, (by repeat' (first | (with_reducible exact up_refl _) | (with_reducible assumption) | (with_reducible refine up_alloc ?_ _) | (with_reducible refine up_drewN ?_ _) | (with_reducible refine up_drew ?_) | (with_reducible refine up_set ?_ (by first | (simp; done) | (simp; omega) | omega) _) | (refine up_trans ?_ (by with_reducible assumption))))⟩
theorem r_Both (c s n c' s' n' : Int) (w : World) :
    Calls Try.prog 56 #[rt c s n, rt c' s' n'] w fun e w' => e = .returned (.tuple #[rt (boV c s n c' s' n' (boC c s c' s')) (boV c s n c' s' n' (boS c s c' s')) (boV c s n c' s' n' (n * n')), .int .i64 (boE c s n c' s' n')]) ∧ Up w w' := by
  unfold boV boE boB
  cases r1 : rotB c s n
  · exact (r_Both_1 c s n c' s' n' w r1).mono fun e w' ⟨he, hu⟩ => ⟨by rw [he]; simp, hu⟩
  cases r2 : rotB c' s' n'
  · exact (r_Both_2 c s n c' s' n' w r1 r2).mono fun e w' ⟨he, hu⟩ => ⟨by rw [he]; simp, hu⟩
  by_cases hle : n * n' / (boG c s n c' s' n' : Int) ≤ 16777216
  · exact (r_Both_3 c s n c' s' n' w r1 r2 hle).mono fun e w' ⟨he, hu⟩ => ⟨by rw [he]; simp [hle], hu⟩
  · exact (r_Both_4 c s n c' s' n' w r1 r2 (by omega)).mono fun e w' ⟨he, hu⟩ => ⟨by rw [he]; simp [hle], hu⟩
end Go.Proofs.Ytcicjboopipgoaa
