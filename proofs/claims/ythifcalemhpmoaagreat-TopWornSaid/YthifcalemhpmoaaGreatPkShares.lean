/- What each axle of a group carries. Which group proves that a platform tips. The parts as they are handed out; which group proves that a platform tips. Which group's part is below 0; the sums and the parts as they are handed out. -/
import Derived.Test.YthifcalemhpmoaaGreatPkTip
import Derived.Deep.RegionWith
import Derived.Deep.DeepCutAuto
namespace Go.Proofs.YthifcalemhpmoaaGreat
open Go.RowKit Go.Proofs.Gn
def lif (a b c : Int) : Int := if a < 0 then 0 else if b < 0 then 1 else if c < 0 then 2 else -1
theorem lif_bd (a b c : Int) : -1 ≤ lif a b c ∧ lif a b c ≤ 2 := by
  unfold lif
  split
  · omega
  · split
    · omega
    · split <;> omega
theorem p_neg (a : Int) (w : World) : Calls Tryz.prog 99 #[.int .i64 a] w fun e w' => e = .returned (.bool (decide (a < 0))) ∧ w = w' := by
  go_enter Tryz.func99, Tryz.ntmps99
  go_wp2
  go_ret
  exact ⟨rfl, rfl⟩
set_option maxHeartbeats 1000000 in
theorem p_IndexFunc (a b c : Int) (B : Nat) (w : World) (h0 : w.cell? ⟨B, 0, none⟩ = some (.int .i64 a)) (h1 : w.cell? ⟨B, 1, none⟩ = some (.int .i64 b)) (h2 : w.cell? ⟨B, 2, none⟩ = some (.int .i64 c)) :
    Calls Tryz.prog 98 #[.slice (some ⟨B, 0, none⟩) 3 3, .func (.func 99) #[] #[]] w fun e w' => e = .returned (.int .i64 (lif a b c)) ∧ w = w' := by
  have Ha := hide (fun W => p_neg a W)
  have Hb := hide (fun W => p_neg b W)
  have Hc := hide (fun W => p_neg c W)
  unfold lif
  by_cases ca : a < 0
  · rw [if_pos ca]
    have da := decide_eq_true ca
    go_enter Tryz.func98, Tryz.ntmps98
    go_wp2_with fail
    refine wp_loop_rounds 4 ?_
    rw [rounds_succ]
    go_wp2_with (go_at_call 99; (with_reducible refine (unhide Ha _).mono ?_); rintro e w1 ⟨rfl, rfl⟩)
    go_ret
    exact ⟨rfl, rfl⟩
  rw [if_neg ca]
  have da := decide_eq_false ca
  by_cases cb : b < 0
  · rw [if_pos cb]
    have db := decide_eq_true cb
    go_enter Tryz.func98, Tryz.ntmps98
    go_wp2_with fail
    refine wp_loop_rounds 4 ?_
    rw [rounds_succ]
    go_wp2_with (go_at_call 99; (with_reducible refine (unhide Ha _).mono ?_); rintro e w1 ⟨rfl, rfl⟩)
    rw [rounds_succ]
    go_wp2_with (go_at_call 99; (with_reducible refine (unhide Hb _).mono ?_); rintro e w1 ⟨rfl, rfl⟩)
    go_ret
    exact ⟨rfl, rfl⟩
  rw [if_neg cb]
  have db := decide_eq_false cb
  by_cases cc : c < 0
  · rw [if_pos cc]
    have dc := decide_eq_true cc
    go_enter Tryz.func98, Tryz.ntmps98
    go_wp2_with fail
    refine wp_loop_rounds 4 ?_
    rw [rounds_succ]
    go_wp2_with (go_at_call 99; (with_reducible refine (unhide Ha _).mono ?_); rintro e w1 ⟨rfl, rfl⟩)
    rw [rounds_succ]
    go_wp2_with (go_at_call 99; (with_reducible refine (unhide Hb _).mono ?_); rintro e w1 ⟨rfl, rfl⟩)
    rw [rounds_succ]
    go_wp2_with (go_at_call 99; (with_reducible refine (unhide Hc _).mono ?_); rintro e w1 ⟨rfl, rfl⟩)
    go_ret
    exact ⟨rfl, rfl⟩
  · rw [if_neg cc]
    have dc := decide_eq_false cc
    go_enter Tryz.func98, Tryz.ntmps98
    go_wp2_with fail
    refine wp_loop_rounds 4 ?_
    rw [rounds_succ]
    go_wp2_with (go_at_call 99; (with_reducible refine (unhide Ha _).mono ?_); rintro e w1 ⟨rfl, rfl⟩)
    rw [rounds_succ]
    go_wp2_with (go_at_call 99; (with_reducible refine (unhide Hb _).mono ?_); rintro e w1 ⟨rfl, rfl⟩)
    rw [rounds_succ]
    go_wp2_with (go_at_call 99; (with_reducible refine (unhide Hc _).mono ?_); rintro e w1 ⟨rfl, rfl⟩)
    rw [rounds_succ]
    go_wp2_with fail
    go_ret
    exact ⟨rfl, rfl⟩
theorem p_lifted (a b c : Int) (w : World) :
    Calls Tryz.prog 62 #[.agg #[.int .i64 a, .int .i64 b, .int .i64 c]] w fun e w' => e = .returned (.int .i64 (lif a b c)) ∧ Up w w' := by
  go_enter Tryz.func62, Tryz.ntmps62
  go_wp2_with (go_at_call 98; refine (p_IndexFunc a b c _ _ (by go_cell) (by go_cell) (by go_cell)).mono ?_; rintro e w1 ⟨rfl, rfl⟩)
  go_ret
  exact ⟨rfl, (by repeat' (first | (with_reducible exact up_refl _) | (with_reducible assumption) | (with_reducible refine up_alloc ?_ _) | (with_reducible refine up_drewN ?_ _) | (with_reducible refine up_drew ?_) | (with_reducible refine up_set ?_ (by first | (simp; done) | (simp; omega) | omega) _) | (refine up_trans ?_ (by with_reducible assumption))))⟩
/-- What Sums returns. -/
def suV (ps : List Gs.Sup) (v : Int) : Int := if chE ps = 0 then v else 0
theorem chE_ok {ps : List Gs.Sup} (h : chE ps = 0) : Gs.okA ps = true ∧ ps.length ≤ 48 ∧ 3 ≤ ps.length ∧ Gs.wh ps ≠ 0 := by
  unfold chE at h
  split at h
  · cases h
  · split at h
    · split at h
      · cases h
      · exact ⟨by assumption, by omega, by omega, by assumption⟩
    · cases h
end Go.Proofs.YthifcalemhpmoaaGreat
namespace Go.Proofs.YthifcalemhpmoaaGreat
open Go.RowKit Go.Proofs.Gn
def paD (ps : List Gs.Sup) : Int := pv (Gs.wh ps) (Gs.wh ps)
def pa0 (ps : List Gs.Sup) (X Y : Int) : Int := pv (Gs.wh ps) (Gs.q0 ps X Y)
def pa1 (ps : List Gs.Sup) (X Y : Int) : Int := pv (Gs.wh ps) (Gs.q1 ps X Y)
def pa2 (ps : List Gs.Sup) (X Y : Int) : Int := pv (Gs.wh ps) (Gs.q2 ps X Y)
theorem ptE_ok {X Y : Int} (h : ptE X Y = 0) : (-262144 ≤ X ∧ X ≤ 262144) ∧ (-262144 ≤ Y ∧ Y ≤ 262144) := by
  unfold ptE ptB at h
  split at h
  · rename_i h2
    rw [Bool.and_eq_true, win_iff, win_iff] at h2
    exact h2
  · cases h
theorem atE_ok {ps : List Gs.Sup} {X Y : Int} (h : atE ps X Y = 0) : chE ps = 0 ∧ ptE X Y = 0 := by
  unfold atE at h
  split at h
  · exact ⟨by assumption, h⟩
  · exact absurd h (by assumption)
theorem p_parts9 {ps : List Gs.Sup} {X Y : Int} (h : atE ps X Y = 0) (w : World) :
    Calls Tryz.prog 61 #[n9 ps, pt X Y] w fun e w' => e = .returned (.tuple #[.agg #[.int .i64 (pa0 ps X Y), .int .i64 (pa1 ps X Y), .int .i64 (pa2 ps X Y)], .int .i64 (paD ps)]) ∧ Up w w' := by
  obtain ⟨h1, h2⟩ := atE_ok h
  obtain ⟨o1, o2, o3, o4⟩ := chE_ok h1
  obtain ⟨a, b⟩ := ptE_ok h2
  exact p_parts (Gs.row_of o1 o2 0 (.inl rfl)) (Gs.row_of o1 o2 1 (.inr (.inl rfl))) (Gs.row_of o1 o2 2 (.inr (.inr rfl))) a b w
def paV (ps : List Gs.Sup) (X Y v : Int) : Int := if atE ps X Y = 0 then v else 0
end Go.Proofs.YthifcalemhpmoaaGreat
namespace Go.Proofs.YthifcalemhpmoaaGreat
open Go.RowKit Go.Proofs.Gn
def lf (ps : List Gs.Sup) (X Y : Int) : Int := lif (pa0 ps X Y) (pa1 ps X Y) (pa2 ps X Y)
def tiE (ps : List Gs.Sup) (X Y : Int) : Int := if atE ps X Y = 0 then (if 0 ≤ lf ps X Y then 0 else 5) else atE ps X Y
def tiV (ps : List Gs.Sup) (X Y : Int) : Int := if atE ps X Y = 0 then (if 0 ≤ lf ps X Y then lf ps X Y else 0) else 0
end Go.Proofs.YthifcalemhpmoaaGreat
namespace Go.Proofs.YthifcalemhpmoaaGreat
open Go.RowKit Go.Proofs.Gn
theorem at_x {F : Act → World → Prop} {a : Act} {w : World} (h : ∀ W, W = w → F a W) : F a w := h w rfl
def boE (ps : List Gs.Sup) (m X Y : Int) : Int := if chE ps = 0 then (if msE m = 0 then ptE X Y else msE m) else chE ps
theorem boE_ok {ps : List Gs.Sup} {m X Y : Int} (h : boE ps m X Y = 0) : atE ps X Y = 0 ∧ 1 ≤ m ∧ m ≤ 16777216 := by
  unfold boE at h
  split at h
  · split at h
    · rename_i h1 h2
      unfold msE at h2
      split at h2
      · rename_i h3
        rw [win_iff] at h3
        exact ⟨by unfold atE; rw [if_pos h1]; exact h, h3.1, h3.2⟩
      · cases h2
    · exact absurd h (by assumption)
  · exact absurd h (by assumption)
theorem p_checkBorne (A : Option Addr) (ps : List Gs.Sup) (cap : Nat) (m X Y : Int) (hn : ps.length ≤ 9223372036854775807) (w : World) (h : Sups w A ps) :
    Calls Tryz.prog 60 #[.slice A ps.length cap, .int .i64 m, pt X Y] w fun e w' => e = .returned (.int .i64 (boE ps m X Y)) ∧ Up w w' := by
  have hC := hide (fun (W : World) (hW : Up w W) => p_CheckS A ps cap W (sups_up h hW) hn)
  have hM := hide (fun W => p_checkMass m W)
  have hP := hide (fun W => p_checkPoint X Y W)
  unfold boE
  clear h hn
  obtain ⟨n, hN⟩ : ∃ n, ps.length = n := ⟨_, rfl⟩
  rw [hN] at hC ⊢
  clear hN
  generalize chE ps = C at *
  generalize msE m = M at *
  generalize ptE X Y = D at *
  by_cases c : C = 0
  · subst c
    rw [if_pos rfl]
    by_cases cM : M = 0
    · subst cM
      rw [if_pos rfl]
      go_enter Tryz.func60, Tryz.ntmps60
      go_wp2_with (first | (go_at_call 25; (with_reducible refine (unhide hC _ (by repeat' (first | (with_reducible exact up_refl _) | (with_reducible assumption) | (with_reducible refine up_alloc ?_ _) | (with_reducible refine up_drewN ?_ _) | (with_reducible refine up_drew ?_) | (with_reducible refine up_set ?_ (by first | (simp; done) | (simp; omega) | omega) _) | (refine up_trans ?_ (by with_reducible assumption))))).mono ?_); rintro e w1 ⟨rfl, hb⟩; have k0_0 : w1.cell? ⟨w.heap.size, 0, none⟩ = some (.int .i64 X) := up_cell hb (by first | (with_reducible assumption) | (refine alloc_cell _ ?_; with_reducible assumption) | go_cell); have k0_1 : w1.cell? ⟨w.heap.size, 1, none⟩ = some (.int .i64 Y) := up_cell hb (by first | (with_reducible assumption) | (refine alloc_cell _ ?_; with_reducible assumption) | go_cell)) | (go_at_call 48; (with_reducible refine (unhide hM _).mono ?_); rintro e w2 ⟨rfl, rfl⟩) | (go_at_call 96; (with_reducible refine (unhide hP _).mono ?_); rintro e w2 ⟨rfl, hb2⟩))
      go_ret
      exact ⟨rfl, (by repeat' (first | (with_reducible exact up_refl _) | (with_reducible assumption) | (with_reducible refine up_alloc ?_ _) | (with_reducible refine up_drewN ?_ _) | (with_reducible refine up_drew ?_) | (with_reducible refine up_set ?_ (by first | (simp; done) | (simp; omega) | omega) _) | (refine up_trans ?_ (by with_reducible assumption))))⟩
    · rw [if_neg cM]
      have c2 : (M == 0) = false := by simp; exact cM
      go_enter Tryz.func60, Tryz.ntmps60
      go_wp2_with (first | (go_at_call 25; (with_reducible refine (unhide hC _ (by repeat' (first | (with_reducible exact up_refl _) | (with_reducible assumption) | (with_reducible refine up_alloc ?_ _) | (with_reducible refine up_drewN ?_ _) | (with_reducible refine up_drew ?_) | (with_reducible refine up_set ?_ (by first | (simp; done) | (simp; omega) | omega) _) | (refine up_trans ?_ (by with_reducible assumption))))).mono ?_); rintro e w1 ⟨rfl, hb⟩; have k0_0 : w1.cell? ⟨w.heap.size, 0, none⟩ = some (.int .i64 X) := up_cell hb (by first | (with_reducible assumption) | (refine alloc_cell _ ?_; with_reducible assumption) | go_cell); have k0_1 : w1.cell? ⟨w.heap.size, 1, none⟩ = some (.int .i64 Y) := up_cell hb (by first | (with_reducible assumption) | (refine alloc_cell _ ?_; with_reducible assumption) | go_cell)) | (go_at_call 48; (with_reducible refine (unhide hM _).mono ?_); rintro e w2 ⟨rfl, rfl⟩))
      go_ret
      exact ⟨rfl, (by repeat' (first | (with_reducible exact up_refl _) | (with_reducible assumption) | (with_reducible refine up_alloc ?_ _) | (with_reducible refine up_drewN ?_ _) | (with_reducible refine up_drew ?_) | (with_reducible refine up_set ?_ (by first | (simp; done) | (simp; omega) | omega) _) | (refine up_trans ?_ (by with_reducible assumption))))⟩
  · rw [if_neg c]
    have c2 : (C == 0) = false := by simp; exact c
    go_enter Tryz.func60, Tryz.ntmps60
    go_wp2_with (first | (go_at_call 25; (with_reducible refine (unhide hC _ (by repeat' (first | (with_reducible exact up_refl _) | (with_reducible assumption) | (with_reducible refine up_alloc ?_ _) | (with_reducible refine up_drewN ?_ _) | (with_reducible refine up_drew ?_) | (with_reducible refine up_set ?_ (by first | (simp; done) | (simp; omega) | omega) _) | (refine up_trans ?_ (by with_reducible assumption))))).mono ?_); rintro e w1 ⟨rfl, hb⟩; have k0_0 : w1.cell? ⟨w.heap.size, 0, none⟩ = some (.int .i64 X) := up_cell hb (by first | (with_reducible assumption) | (refine alloc_cell _ ?_; with_reducible assumption) | go_cell); have k0_1 : w1.cell? ⟨w.heap.size, 1, none⟩ = some (.int .i64 Y) := up_cell hb (by first | (with_reducible assumption) | (refine alloc_cell _ ?_; with_reducible assumption) | go_cell)))
    go_ret
    exact ⟨rfl, (by repeat' (first | (with_reducible exact up_refl _) | (with_reducible assumption) | (with_reducible refine up_alloc ?_ _) | (with_reducible refine up_drewN ?_ _) | (with_reducible refine up_drew ?_) | (with_reducible refine up_set ?_ (by first | (simp; done) | (simp; omega) | omega) _) | (refine up_trans ?_ (by with_reducible assumption))))⟩
/-! ### What the parts are -/
theorem pv_pos {D q : Int} (h : 0 < D) : pv D q = q := by unfold pv; rw [if_neg (by omega), if_pos h]
theorem pv_neg {D q : Int} (h : D < 0) : pv D q = -q := by unfold pv; rw [if_pos h]
theorem pa_sum {ps : List Gs.Sup} (h : Gs.wh ps ≠ 0) (X Y : Int) : 0 < paD ps ∧ pa0 ps X Y * Gs.cN 0 ps + pa1 ps X Y * Gs.cN 1 ps + pa2 ps X Y * Gs.cN 2 ps = paD ps ∧ pa0 ps X Y * Gs.cX 0 ps + pa1 ps X Y * Gs.cX 1 ps + pa2 ps X Y * Gs.cX 2 ps = paD ps * X ∧ pa0 ps X Y * Gs.cY 0 ps + pa1 ps X Y * Gs.cY 1 ps + pa2 ps X Y * Gs.cY 2 ps = paD ps * Y := by
  have a := Gs.cramN ps X Y
  have b := Gs.cramX ps X Y
  have c := Gs.cramY ps X Y
  unfold paD pa0 pa1 pa2
  by_cases hp : 0 < Gs.wh ps
  · simp only [pv_pos hp]
    exact ⟨hp, a, b, c⟩
  · have hm : Gs.wh ps < 0 := by omega
    simp only [pv_neg hm, Int.neg_mul]
    exact ⟨by omega, by omega, by omega, by omega⟩
theorem pa_bd {ps : List Gs.Sup} {X Y : Int} (h : atE ps X Y = 0) : paD ps ≤ 11399736556781568 ∧ (-11399736556781568 ≤ pa0 ps X Y ∧ pa0 ps X Y ≤ 11399736556781568) ∧ (-11399736556781568 ≤ pa1 ps X Y ∧ pa1 ps X Y ≤ 11399736556781568) ∧ (-11399736556781568 ≤ pa2 ps X Y ∧ pa2 ps X Y ≤ 11399736556781568) := by
  obtain ⟨h1, h2⟩ := atE_ok h
  obtain ⟨o1, o2, o3, o4⟩ := chE_ok h1
  obtain ⟨a, b⟩ := ptE_ok h2
  have r0 := Gs.row_of o1 o2 0 (.inl rfl)
  have r1 := Gs.row_of o1 o2 1 (.inr (.inl rfl))
  have r2 := Gs.row_of o1 o2 2 (.inr (.inr rfl))
  have rp := row_pt a b
  exact ⟨(pv_bd (Gs.dt_bd r0 r1 r2)).2, pv_bd (Gs.dt_bd rp r1 r2), pv_bd (Gs.dt_bd r0 rp r2), pv_bd (Gs.dt_bd r0 r1 rp)⟩
theorem lif_none {a b c : Int} (h : ¬ 0 ≤ lif a b c) : 0 ≤ a ∧ 0 ≤ b ∧ 0 ≤ c := by
  unfold lif at h
  split at h
  · omega
  · split at h
    · omega
    · split at h <;> omega
theorem share_bd {ps : List Gs.Sup} {X Y : Int} (h : atE ps X Y = 0) (hl : ¬ 0 ≤ lif (pa0 ps X Y) (pa1 ps X Y) (pa2 ps X Y)) :
    (1 ≤ paD ps ∧ paD ps ≤ 11399736556781568) ∧ (0 ≤ pa0 ps X Y ∧ pa0 ps X Y ≤ paD ps) ∧ (0 ≤ pa1 ps X Y ∧ pa1 ps X Y ≤ paD ps) ∧ (0 ≤ pa2 ps X Y ∧ pa2 ps X Y ≤ paD ps) := by
  obtain ⟨o1, o2, o3, o4⟩ := chE_ok (atE_ok h).1
  obtain ⟨s1, s2, _, _⟩ := pa_sum o4 X Y
  have b := pa_bd h
  obtain ⟨n0, n1, n2⟩ := Gs.wh_pos o1 o4
  obtain ⟨l0, l1, l2⟩ := lif_none hl
  have m0 : pa0 ps X Y * 1 ≤ pa0 ps X Y * Gs.cN 0 ps := Int.mul_le_mul_of_nonneg_left n0 l0
  have m1 : pa1 ps X Y * 1 ≤ pa1 ps X Y * Gs.cN 1 ps := Int.mul_le_mul_of_nonneg_left n1 l1
  have m2 : pa2 ps X Y * 1 ≤ pa2 ps X Y * Gs.cN 2 ps := Int.mul_le_mul_of_nonneg_left n2 l2
  omega
theorem share_q {m l D : Int} (hm : 1 ≤ m ∧ m ≤ 16777216) (hD : 1 ≤ D) (hl : 0 ≤ l ∧ l ≤ D) : amt m * amt l < D * 4611686018427387904 := by
  rw [amt_pos (by omega), amt_pos (by omega)]
  have a : m * l ≤ 16777216 * D := Int.mul_le_mul hm.2 hl.2 hl.1 (by omega)
  omega
/-- What a group carries, by its number; which loads are allowed. -/
def sel (g u0 u1 u2 : Int) : Int := if g = 0 then u0 else if g = 1 then u1 else u2
def fit (u0 u1 u2 : Int) (ps : List Gs.Sup) : Bool := ps.all fun s => decide (sel s.g u0 u1 u2 ≤ s.lim)
theorem fit_step {u0 u1 u2 : Int} {ps : List Gs.Sup} {k : Nat} (h : k < ps.length) (ho : fit u0 u1 u2 (ps.take k) = true) : (sel ps[k].g u0 u1 u2 ≤ ps[k].lim → fit u0 u1 u2 (ps.take (k + 1)) = true) ∧ (¬ sel ps[k].g u0 u1 u2 ≤ ps[k].lim → fit u0 u1 u2 ps = false) := by
  constructor
  · intro hs
    unfold fit at *
    rw [List.take_succ_eq_append_getElem h, List.all_append, ho]
    simp [hs]
  · intro hs
    unfold fit
    rw [List.all_eq_false]
    exact ⟨ps[k], List.getElem_mem h, by simp; omega⟩
theorem share_up {ps : List Gs.Sup} {m X Y : Int} (e : boE ps m X Y = 0) (l : ¬ 0 ≤ lif (pa0 ps X Y) (pa1 ps X Y) (pa2 ps X Y)) :
    (∀ W : World, Calls Tryz.prog 63 #[fr m (paD ps), .int .i64 (pa0 ps X Y)] W fun e w' => e = .returned (.int .i64 (up m (paD ps) (pa0 ps X Y))) ∧ Up W w') ∧
    (∀ W : World, Calls Tryz.prog 63 #[fr m (paD ps), .int .i64 (pa1 ps X Y)] W fun e w' => e = .returned (.int .i64 (up m (paD ps) (pa1 ps X Y))) ∧ Up W w') ∧
    (∀ W : World, Calls Tryz.prog 63 #[fr m (paD ps), .int .i64 (pa2 ps X Y)] W fun e w' => e = .returned (.int .i64 (up m (paD ps) (pa2 ps X Y))) ∧ Up W w') := by
  obtain ⟨h1, h2, h3⟩ := boE_ok e
  obtain ⟨⟨d1, d2⟩, b0, b1, b2⟩ := share_bd h1 l
  exact ⟨fun W => p_up _ _ _ W (by omega) (by omega) (by omega) (share_q ⟨h2, h3⟩ d1 b0), fun W => p_up _ _ _ W (by omega) (by omega) (by omega) (share_q ⟨h2, h3⟩ d1 b1), fun W => p_up _ _ _ W (by omega) (by omega) (by omega) (share_q ⟨h2, h3⟩ d1 b2)⟩
def uE (ps : List Gs.Sup) (m X Y : Int) : Int := if 0 ≤ lif (pa0 ps X Y) (pa1 ps X Y) (pa2 ps X Y) then 19 else if fit (up m (paD ps) (pa0 ps X Y)) (up m (paD ps) (pa1 ps X Y)) (up m (paD ps) (pa2 ps X Y)) ps then 0 else 14
def shE (ps : List Gs.Sup) (m X Y : Int) : Int := if boE ps m X Y = 0 then uE ps m X Y else boE ps m X Y
def shV (ps : List Gs.Sup) (m X Y v : Int) : Int := if shE ps m X Y = 0 then v else 0
set_option maxHeartbeats 16000000 in
theorem p_Shares (A : Option Addr) (ps : List Gs.Sup) (cap : Nat) (m X Y : Int) (hn : ps.length ≤ 9223372036854775807) (w : World) (h : Sups w A ps) :
    Calls Tryz.prog 27 #[.slice A ps.length cap, .int .i64 m, pt X Y] w fun e w' => e = .returned (.tuple #[.agg #[.int .i64 (shV ps m X Y (up m (paD ps) (pa0 ps X Y))), .int .i64 (shV ps m X Y (up m (paD ps) (pa1 ps X Y))), .int .i64 (shV ps m X Y (up m (paD ps) (pa2 ps X Y)))], .int .i64 (shE ps m X Y)]) ∧ Up w w' := by
  have hC := hide (fun (W : World) (hW : Up w W) => p_checkBorne A ps cap m X Y hn W (sups_up h hW))
  have hS := hide (fun (e : boE ps m X Y = 0) (W : World) (hW : Up w W) => p_sums9 A ps cap (chE_ok (atE_ok (boE_ok e).1).1).1 (chE_ok (atE_ok (boE_ok e).1).1).2.1 W (sups_up h hW))
  have hP := hide (fun (e : boE ps m X Y = 0) (W : World) => p_parts9 (boE_ok e).1 W)
  have hL := hide (fun (W : World) => p_lifted (pa0 ps X Y) (pa1 ps X Y) (pa2 ps X Y) W)
  have lb := lif_bd (pa0 ps X Y) (pa1 ps X Y) (pa2 ps X Y)
  have hO := hide (fun (e : boE ps m X Y = 0) => (chE_ok (atE_ok (boE_ok e).1).1))
  have hU := hide (fun (e : boE ps m X Y = 0) (l : ¬ 0 ≤ lif (pa0 ps X Y) (pa1 ps X Y) (pa2 ps X Y)) => share_up e l)
  unfold shV shE uE
  have HH := hide h
  clear h hn
  generalize pa0 ps X Y = l0 at *
  generalize pa1 ps X Y = l1 at *
  generalize pa2 ps X Y = l2 at *
  generalize paD ps = D at *
  generalize boE ps m X Y = C at *
  generalize up m D l0 = u0 at *
  generalize up m D l1 = u1 at *
  generalize up m D l2 = u2 at *
  generalize lif l0 l1 l2 = L at *
  obtain ⟨F, hF⟩ : ∃ F, fit u0 u1 u2 ps = F := ⟨_, rfl⟩
  rw [hF]
  obtain ⟨n, hN⟩ : ∃ n, ps.length = n := ⟨_, rfl⟩
  rw [hN] at hC hS ⊢
  have HN := hide hN
  have HF := hide hF
  clear hN hF
  by_cases c : C = 0
  · subst c
    simp only [if_pos]
    obtain ⟨E, hE⟩ : ∃ E : Int, (if 0 ≤ L then 19 else if F = true then 0 else 14) = E := ⟨_, rfl⟩
    rw [hE]
    obtain ⟨r0, hr0⟩ : ∃ r : Int, (if E = 0 then u0 else 0) = r := ⟨_, rfl⟩
    obtain ⟨r1, hr1⟩ : ∃ r : Int, (if E = 0 then u1 else 0) = r := ⟨_, rfl⟩
    obtain ⟨r2, hr2⟩ : ∃ r : Int, (if E = 0 then u2 else 0) = r := ⟨_, rfl⟩
    rw [hr0, hr1, hr2]
    have HE := hide (And.intro hE (And.intro hr0 (And.intro hr1 hr2)))
    clear hE hr0 hr1 hr2
    have hS2 := hide (unhide hS rfl)
    have hP2 := hide (unhide hP rfl)
    have hU2 := hide (unhide hU rfl)
    have hO2 := hide (unhide hO rfl)
    clear hS hP hU hO
    generalize n9 ps = mm at *
    go_enter Tryz.func27, Tryz.ntmps27
    go_wp2_with (go_at_call 60; (with_reducible refine (unhide hC _ (by repeat' (first | (with_reducible exact up_refl _) | (with_reducible assumption) | (with_reducible refine up_alloc ?_ _) | (with_reducible refine up_drewN ?_ _) | (with_reducible refine up_drew ?_) | (with_reducible refine up_set ?_ (by first | (simp; done) | (simp; omega) | omega) _) | (refine up_trans ?_ (by with_reducible assumption))))).mono ?_); rintro e w1 ⟨rfl, hb⟩; have k0_0 : w1.cell? ⟨w.heap.size, 0, none⟩ = some (.int .i64 X) := up_cell hb (by first | (with_reducible assumption) | (refine alloc_cell _ ?_; with_reducible assumption) | go_cell); have k0_1 : w1.cell? ⟨w.heap.size, 1, none⟩ = some (.int .i64 Y) := up_cell hb (by first | (with_reducible assumption) | (refine alloc_cell _ ?_; with_reducible assumption) | go_cell); have k1_0 : w1.cell? ⟨w.heap.size + 1, 0, none⟩ = some (.int .i64 0) := up_cell hb (by first | (with_reducible assumption) | (refine alloc_cell _ ?_; with_reducible assumption) | go_cell); have f1_0 : w1.frozen? ⟨w.heap.size + 1, 0, none⟩ = false := up_frozen hb (v := .int .i64 0) (by first | (with_reducible assumption) | (refine alloc_cell _ ?_; with_reducible assumption) | go_cell) (by first | (with_reducible assumption) | (refine alloc_frozen (v := .int .i64 0) _ ?_ ?_ <;> with_reducible assumption) | (simp; done) | (go_simp; done)); have k1_1 : w1.cell? ⟨w.heap.size + 1, 1, none⟩ = some (.int .i64 0) := up_cell hb (by first | (with_reducible assumption) | (refine alloc_cell _ ?_; with_reducible assumption) | go_cell); have f1_1 : w1.frozen? ⟨w.heap.size + 1, 1, none⟩ = false := up_frozen hb (v := .int .i64 0) (by first | (with_reducible assumption) | (refine alloc_cell _ ?_; with_reducible assumption) | go_cell) (by first | (with_reducible assumption) | (refine alloc_frozen (v := .int .i64 0) _ ?_ ?_ <;> with_reducible assumption) | (simp; done) | (go_simp; done)); have k1_2 : w1.cell? ⟨w.heap.size + 1, 2, none⟩ = some (.int .i64 0) := up_cell hb (by first | (with_reducible assumption) | (refine alloc_cell _ ?_; with_reducible assumption) | go_cell); have f1_2 : w1.frozen? ⟨w.heap.size + 1, 2, none⟩ = false := up_frozen hb (v := .int .i64 0) (by first | (with_reducible assumption) | (refine alloc_cell _ ?_; with_reducible assumption) | go_cell) (by first | (with_reducible assumption) | (refine alloc_frozen (v := .int .i64 0) _ ?_ ?_ <;> with_reducible assumption) | (simp; done) | (go_simp; done)))
    have U1 : Up w w1 := (by repeat' (first | (with_reducible exact up_refl _) | (with_reducible assumption) | (with_reducible refine up_alloc ?_ _) | (with_reducible refine up_drewN ?_ _) | (with_reducible refine up_drew ?_) | (with_reducible refine up_set ?_ (by first | (simp; done) | (simp; omega) | omega) _) | (refine up_trans ?_ (by with_reducible assumption))))
    have z1 := up_size hb
    simp at z1
    clear hb
    have a0 := fun o => alloc_cell o k0_0
    have a1 := fun o => alloc_cell o k0_1
    have a2 := fun o => alloc_cell (W := w1.drew) o k0_0
    have a3 := fun o => alloc_cell (W := w1.drew) o k0_1
    go_cut [9, 10] (fun sa sb wx => ∃ g : Nat, sa = .pointer (some ⟨g, 0, none⟩) ∧ sb = .int .i64 D ∧ Bx wx g [.int .i64 l0, .int .i64 l1, .int .i64 l2] ∧ w1.heap.size ≤ g ∧ Up w1 wx)
    case first =>
      go_region_with (first | (go_at_call 57; (with_reducible refine (unhide hS2 _ (by repeat' (first | (with_reducible exact up_refl _) | (with_reducible assumption) | (with_reducible refine up_alloc ?_ _) | (with_reducible refine up_drewN ?_ _) | (with_reducible refine up_drew ?_) | (with_reducible refine up_set ?_ (by first | (simp; done) | (simp; omega) | omega) _) | (refine up_trans ?_ (by with_reducible assumption))))).mono ?_); rintro e w2 ⟨rfl, hb2⟩; have zb := bx_up (bx_new _ [.int .i64 0, .int .i64 0, .int .i64 0] 29) hb2; have d0 := up_cell hb2 (p := ⟨w.heap.size, 0, none⟩) (v := .int .i64 X) (by go_cell); have d1 := up_cell hb2 (p := ⟨w.heap.size, 1, none⟩) (v := .int .i64 Y) (by go_cell); have e0 := fun o => alloc_cell o d0; have e1 := fun o => alloc_cell o d1) | (go_at_call 57; (with_reducible refine (unhide hS2 _ (by repeat' (first | (with_reducible exact up_refl _) | (with_reducible assumption) | (with_reducible refine up_alloc ?_ _) | (with_reducible refine up_drewN ?_ _) | (with_reducible refine up_drew ?_) | (with_reducible refine up_set ?_ (by first | (simp; done) | (simp; omega) | omega) _) | (refine up_trans ?_ (by with_reducible assumption))))).mono ?_); rintro e w2 ⟨rfl, hb2⟩; have zb := bx_up (bx_drew (bx_new _ [.int .i64 0, .int .i64 0, .int .i64 0] 29)) hb2; have d0 := up_cell hb2 (p := ⟨w.heap.size, 0, none⟩) (v := .int .i64 X) (by go_cell); have d1 := up_cell hb2 (p := ⟨w.heap.size, 1, none⟩) (v := .int .i64 Y) (by go_cell); have e0 := fun o => alloc_cell o d0; have e1 := fun o => alloc_cell o d1) | (go_at_call 57; (with_reducible refine (unhide hS2 _ (by repeat' (first | (with_reducible exact up_refl _) | (with_reducible assumption) | (with_reducible refine up_alloc ?_ _) | (with_reducible refine up_drewN ?_ _) | (with_reducible refine up_drew ?_) | (with_reducible refine up_set ?_ (by first | (simp; done) | (simp; omega) | omega) _) | (refine up_trans ?_ (by with_reducible assumption))))).mono ?_); rintro e w2 ⟨rfl, hb2⟩; have d0 := up_cell hb2 (p := ⟨w.heap.size, 0, none⟩) (v := .int .i64 X) (by go_cell); have d1 := up_cell hb2 (p := ⟨w.heap.size, 1, none⟩) (v := .int .i64 Y) (by go_cell); have e0 := fun o => alloc_cell o d0; have e1 := fun o => alloc_cell o d1) | (go_at_call 61; (with_reducible refine (unhide hP2 _).mono ?_); rintro e w3 ⟨rfl, hb3⟩; have zb2 := bx_up zb hb3; obtain ⟨z3, z4, z5⟩ := bx3 zb2; obtain ⟨f3, f4, f5⟩ := bxf3 zb2) | (go_at_call 61; (with_reducible refine (unhide hP2 _).mono ?_); rintro e w3 ⟨rfl, hb3⟩; have zb2 := bx_up (bx_new _ [.int .i64 0, .int .i64 0, .int .i64 0] 29) hb3; obtain ⟨z3, z4, z5⟩ := bx3 zb2; obtain ⟨f3, f4, f5⟩ := bxf3 zb2) | (go_at_call 61; (with_reducible refine (unhide hP2 _).mono ?_); rintro e w3 ⟨rfl, hb3⟩; have zb2 := bx_up (bx_drew (bx_new _ [.int .i64 0, .int .i64 0, .int .i64 0] 29)) hb3; obtain ⟨z3, z4, z5⟩ := bx3 zb2; obtain ⟨f3, f4, f5⟩ := bxf3 zb2) | (go_at_call 61; (with_reducible refine (unhide hP2 _).mono ?_); rintro e w3 ⟨rfl, hb3⟩))
      all_goals
        have u2 : Up w1 w2 := (by repeat' (first | (with_reducible exact up_refl _) | (with_reducible assumption) | (with_reducible refine up_alloc ?_ _) | (with_reducible refine up_drewN ?_ _) | (with_reducible refine up_drew ?_) | (with_reducible refine up_set ?_ (by first | (simp; done) | (simp; omega) | omega) _) | (refine up_trans ?_ (by with_reducible assumption))))
        have u3 : Up w1 w3 := (by repeat' (first | (with_reducible exact up_refl _) | (with_reducible assumption) | (with_reducible refine up_alloc ?_ _) | (with_reducible refine up_drewN ?_ _) | (with_reducible refine up_drew ?_) | (with_reducible refine up_set ?_ (by first | (simp; done) | (simp; omega) | omega) _) | (refine up_trans ?_ (by with_reducible assumption))))
        have t2 := up_size u2
        have t3 := up_size u3
        go_wp2_with fail
        go_meet
        first
          | (refine ⟨w3.heap.size, by with_reducible rfl, rfl, ?_, t3, (by repeat' (first | (with_reducible exact up_refl _) | (with_reducible assumption) | (with_reducible refine up_alloc ?_ _) | (with_reducible refine up_drewN ?_ _) | (with_reducible refine up_drew ?_) | (with_reducible refine up_set ?_ (by first | (simp; done) | (simp; omega) | omega) _) | (refine up_trans ?_ (by with_reducible assumption))))⟩; exact bx_new w3 _ 29)
          | (refine ⟨w1.heap.size, by with_reducible rfl, rfl, ?_, Nat.le_refl _, (by repeat' (first | (with_reducible exact up_refl _) | (with_reducible assumption) | (with_reducible refine up_alloc ?_ _) | (with_reducible refine up_drewN ?_ _) | (with_reducible refine up_drew ?_) | (with_reducible refine up_set ?_ (by first | (simp; done) | (simp; omega) | omega) _) | (refine up_trans ?_ (by with_reducible assumption))))⟩; exact bx_set3 zb2)
          | (refine ⟨w2.heap.size, by with_reducible rfl, rfl, ?_, t2, (by repeat' (first | (with_reducible exact up_refl _) | (with_reducible assumption) | (with_reducible refine up_alloc ?_ _) | (with_reducible refine up_drewN ?_ _) | (with_reducible refine up_drew ?_) | (with_reducible refine up_set ?_ (by first | (simp; done) | (simp; omega) | omega) _) | (refine up_trans ?_ (by with_reducible assumption))))⟩; exact bx_set3 zb2)
    case rest =>
      obtain ⟨g, rfl, rfl, hB, hg, hu⟩ := hcut
      have U2 := up_trans U1 hu
      have Z0 := bx_up (mk_bx3 k1_0 k1_1 k1_2 f1_0 f1_1 f1_2) hu
      obtain ⟨q0, q1, q2⟩ := bx3 hB
      clear a0 a1 a2 a3 k0_0 k0_1 k1_0 k1_1 k1_2 f1_0 f1_1 f1_2 hu hS2 hP2 hC
      by_cases cL : 0 ≤ L
      · obtain ⟨e1, e2, e3, e4⟩ := unhide HE
        rw [if_pos cL] at e1
        subst e1
        rw [if_neg (by omega)] at e2 e3 e4
        subst e2 e3 e4
        go_wp2_with (go_at_call 62; (with_reducible refine (unhide hL _).mono ?_); rintro e w4 ⟨rfl, hb4⟩; have Z1 := bx_up Z0 hb4; obtain ⟨y0, y1, y2⟩ := bx3 Z1; obtain ⟨y3, y4, y5⟩ := bxf3 Z1)
        obtain ⟨W9, hW9⟩ : ∃ W9 : World, W9 = (((w4.setCell ⟨w.heap.size + 1, 0, none⟩ (.int .i64 0)).setCell ⟨w.heap.size + 1, 1, none⟩ (.int .i64 0)).setCell ⟨w.heap.size + 1, 2, none⟩ (.int .i64 0)) := ⟨_, rfl⟩
        rw [← hW9]
        have B9 : Bx W9 (w.heap.size + 1) [.int .i64 0, .int .i64 0, .int .i64 0] := by rw [hW9]; exact bx_set3 Z1
        have U9 : Up w W9 := by rw [hW9]; exact (by repeat' (first | (with_reducible exact up_refl _) | (with_reducible assumption) | (with_reducible refine up_alloc ?_ _) | (with_reducible refine up_drewN ?_ _) | (with_reducible refine up_drew ?_) | (with_reducible refine up_set ?_ (by first | (simp; done) | (simp; omega) | omega) _) | (refine up_trans ?_ (by with_reducible assumption))))
        clear hW9 y0 y1 y2 y3 y4 y5
        obtain ⟨p0, p1, p2⟩ := bx3 B9
        refine bodyPost_ret (v := .tuple #[.agg #[.int .i64 0, .int .i64 0, .int .i64 0], .int .i64 19]) (by simp [results, Tryz.results27, go_sem, p0, p1, p2]) rfl ?_
        exact ⟨by first | rfl | (simp; done) | (simp [*]; done), U9⟩
      · have HE1 := unhide HE
        rw [if_neg cL] at HE1
        have HE2 := hide HE1
        clear HE HE1
        have hU3 := hide (unhide hU2 (by omega))
        clear hU2
        obtain ⟨G0, G1, G2⟩ := unhide hU3
        have HU0 := hide G0
        have HU1 := hide G1
        have HU2 := hide G2
        clear G0 G1 G2 hU3
        go_wp2_with (go_at_call 62; (with_reducible refine (unhide hL _).mono ?_); rintro e w4 ⟨rfl, hb4⟩)
        refine at_wp (fun W0 hW0 => ?_)
        have O0 : Bx W0 g [.int .i64 l0, .int .i64 l1, .int .i64 l2] := by rw [hW0]; exact bx_up hB hb4
        have Y0 : Bx W0 (w.heap.size + 1) [.int .i64 0, .int .i64 0, .int .i64 0] := by rw [hW0]; exact bx_up Z0 hb4
        have V0 : Up w W0 := by rw [hW0]; exact up_trans U2 hb4
        clear hW0 hb4 hB Z0 U2 q0 q1 q2
        refine wp_loop_rounds 4 ?_
        have m0 := bx_lt O0 (by simp)
        obtain ⟨x0, x1, x2⟩ := bx3 O0
        rw [rounds_succ]
        go_wp2_with (go_at_call 63; (with_reducible refine (unhide HU0 _).mono ?_); rintro e v1 ⟨rfl, hv⟩; have o3 := bx3 (bx_up O0 hv); have f3 := bxf3 (bx_up O0 hv); obtain ⟨o3, o4, o5⟩ := o3; obtain ⟨f3, f4, f5⟩ := f3)
        refine at_rounds (fun W1 hW1 => ?_)
        have O1 : Bx W1 g [.int .i64 u0, .int .i64 l1, .int .i64 l2] := by rw [hW1]; exact bx_set (bx_up O0 hv) 0 _
        have Y1 : Bx W1 (w.heap.size + 1) [.int .i64 0, .int .i64 0, .int .i64 0] := by rw [hW1]; exact bx_far (bx_up Y0 hv) (by simp; omega) _
        have V1 : Up w W1 := by rw [hW1]; exact up_set (up_trans V0 hv) (by have := up_size U1; simp; omega) _
        clear hW1 O0 Y0 V0 hv x0 x1 x2 o3 o4 o5 f3 f4 f5 m0
        have m0 := bx_lt O1 (by simp)
        obtain ⟨x0, x1, x2⟩ := bx3 O1
        rw [rounds_succ]
        go_wp2_with (go_at_call 63; (with_reducible refine (unhide HU1 _).mono ?_); rintro e v2 ⟨rfl, hv⟩; have o3 := bx3 (bx_up O1 hv); have f3 := bxf3 (bx_up O1 hv); obtain ⟨o3, o4, o5⟩ := o3; obtain ⟨f3, f4, f5⟩ := f3)
        refine at_rounds (fun W2 hW2 => ?_)
        have O2 : Bx W2 g [.int .i64 u0, .int .i64 u1, .int .i64 l2] := by rw [hW2]; exact bx_set (bx_up O1 hv) 1 _
        have Y2 : Bx W2 (w.heap.size + 1) [.int .i64 0, .int .i64 0, .int .i64 0] := by rw [hW2]; exact bx_far (bx_up Y1 hv) (by simp; omega) _
        have V2 : Up w W2 := by rw [hW2]; exact up_set (up_trans V1 hv) (by have := up_size U1; simp; omega) _
        clear hW2 O1 Y1 V1 hv x0 x1 x2 o3 o4 o5 f3 f4 f5 m0
        have m0 := bx_lt O2 (by simp)
        obtain ⟨x0, x1, x2⟩ := bx3 O2
        rw [rounds_succ]
        go_wp2_with (go_at_call 63; (with_reducible refine (unhide HU2 _).mono ?_); rintro e v3 ⟨rfl, hv⟩; have o3 := bx3 (bx_up O2 hv); have f3 := bxf3 (bx_up O2 hv); obtain ⟨o3, o4, o5⟩ := o3; obtain ⟨f3, f4, f5⟩ := f3)
        refine at_rounds (fun W3 hW3 => ?_)
        have O3 : Bx W3 g [.int .i64 u0, .int .i64 u1, .int .i64 u2] := by rw [hW3]; exact bx_set (bx_up O2 hv) 2 _
        have Y3 : Bx W3 (w.heap.size + 1) [.int .i64 0, .int .i64 0, .int .i64 0] := by rw [hW3]; exact bx_far (bx_up Y2 hv) (by simp; omega) _
        have V3 : Up w W3 := by rw [hW3]; exact up_set (up_trans V2 hv) (by have := up_size U1; simp; omega) _
        clear hW3 O2 Y2 V2 hv x0 x1 x2 o3 o4 o5 f3 f4 f5 m0
        rw [rounds_succ]
        go_wp2_with fail
        obtain ⟨x0, x1, x2⟩ := bx3 O3
        rcases (unhide HH) with rfl | ⟨b, off, rfl, hc⟩
        · have := unhide HN
          have := (unhide hO2).2.2.1
          simp at this
        have HC := hide hc
        clear hc HH
        go_loopw [51] (fun i wr => ∃ k : Nat, k ≤ n ∧ i = .int .i64 k ∧ Up w wr ∧ Bx wr g [.int .i64 u0, .int .i64 u1, .int .i64 u2] ∧ Bx wr (w.heap.size + 1) [.int .i64 0, .int .i64 0, .int .i64 0] ∧ Hid (fit u0 u1 u2 (ps.take k) = true)) (fun i _ => n - (intOf i).toNat)
        case atStart => exact ⟨0, by omega, rfl, V3, O3, Y3, rfl⟩
        case round =>
          clear O3 Y3 V3 x0 x1 x2
          obtain ⟨k, hk, rfl, hu, hB, hZ, ho⟩ := hrel
          have nn : n ≤ 48 := by have := (unhide hO2).2.1; have := unhide HN; omega
          by_cases hlt : k < n
          · have hl : k < ps.length := by rw [unhide HN]; exact hlt
            obtain ⟨d0, d1, d2, d3, d4, d5⟩ := supAt_up (unhide HC k hl) hu
            have og := (Gs.okS_yes (Gs.okA_get (unhide hO2).1 hl)).2.2.1
            have HT := hide (fit_step hl (unhide ho))
            obtain ⟨gg, hgg⟩ : ∃ x, ps[k].g = x := ⟨_, rfl⟩
            obtain ⟨lm, hlm⟩ : ∃ x, ps[k].lim = x := ⟨_, rfl⟩
            rw [hgg] at d2 og HT
            rw [hlm] at d3 HT
            clear hgg hlm ho
            obtain ⟨x0, x1, x2⟩ := bx3 hB
            have xx0 := fun o => alloc_cell o x0
            have xx1 := fun o => alloc_cell o x1
            have xx2 := fun o => alloc_cell o x2
            rcases (show gg = 0 ∨ gg = 1 ∨ gg = 2 by omega) with rfl | rfl | rfl
            · have HT2 := hide (unhide HT : (u0 ≤ lm → _) ∧ (¬ u0 ≤ lm → _))
              by_cases cf : u0 ≤ lm
              · have HV := hide ((unhide HT2).1 cf)
                clear HT HT2
                go_wp2_with fail
                go_quiet (fail)
                go_wp2_with fail
                go_roundw
                case rel => exact ⟨k + 1, by omega, by go_num, (by repeat' (first | (with_reducible exact up_refl _) | (with_reducible assumption) | (with_reducible refine up_alloc ?_ _) | (with_reducible refine up_drewN ?_ _) | (with_reducible refine up_drew ?_) | (with_reducible refine up_set ?_ (by first | (simp; done) | (simp; omega) | omega) _) | (refine up_trans ?_ (by with_reducible assumption)))), bx_drewN (bx_alloc hB _) _, bx_drewN (bx_alloc hZ _) _, unhide HV⟩
                case measure => simp [intOf]; omega
              · have HV := (unhide HT2).2 cf
                have HF2 := unhide HF
                rw [HV] at HF2
                subst HF2
                obtain ⟨e1, e2, e3, e4⟩ := unhide HE2
                rw [if_neg (by simp)] at e1
                subst e1
                rw [if_neg (by omega)] at e2 e3 e4
                subst e2 e3 e4
                clear HT HT2 HV HF
                go_wp2_with fail
                go_quiet (fail)
                refine at_x (fun WQ hWQ => ?_)
                have hZ4 : Bx WQ (w.heap.size + 1) [.int .i64 0, .int .i64 0, .int .i64 0] := by rw [hWQ]; exact bx_drewN (bx_alloc hZ _) _
                have U4 : Up w WQ := by rw [hWQ]; exact (by repeat' (first | (with_reducible exact up_refl _) | (with_reducible assumption) | (with_reducible refine up_alloc ?_ _) | (with_reducible refine up_drewN ?_ _) | (with_reducible refine up_drew ?_) | (with_reducible refine up_set ?_ (by first | (simp; done) | (simp; omega) | omega) _) | (refine up_trans ?_ (by with_reducible assumption))))
                clear hWQ hB hZ hu x0 x1 x2 xx0 xx1 xx2
                obtain ⟨y0, y1, y2⟩ := bx3 hZ4
                obtain ⟨y3, y4, y5⟩ := bxf3 hZ4
                go_wp2_with fail
                obtain ⟨W9, hW9⟩ : ∃ W9 : World, W9 = (((WQ.setCell ⟨w.heap.size + 1, 0, none⟩ (.int .i64 0)).setCell ⟨w.heap.size + 1, 1, none⟩ (.int .i64 0)).setCell ⟨w.heap.size + 1, 2, none⟩ (.int .i64 0)) := ⟨_, rfl⟩
                rw [← hW9]
                have B9 : Bx W9 (w.heap.size + 1) [.int .i64 0, .int .i64 0, .int .i64 0] := by rw [hW9]; exact bx_set3 hZ4
                have U9 : Up w W9 := by rw [hW9]; exact (by repeat' (first | (with_reducible exact up_refl _) | (with_reducible assumption) | (with_reducible refine up_alloc ?_ _) | (with_reducible refine up_drewN ?_ _) | (with_reducible refine up_drew ?_) | (with_reducible refine up_set ?_ (by first | (simp; done) | (simp; omega) | omega) _) | (refine up_trans ?_ (by with_reducible assumption))))
                clear hW9 y0 y1 y2 y3 y4 y5
                obtain ⟨p0, p1, p2⟩ := bx3 B9
                refine bodyPost_ret (v := .tuple #[.agg #[.int .i64 0, .int .i64 0, .int .i64 0], .int .i64 14]) (by simp [results, Tryz.results27, go_sem, p0, p1, p2]) rfl ?_
                exact ⟨by first | rfl | (simp; done) | (simp [*]; done), U9⟩
            · have HT2 := hide (unhide HT : (u1 ≤ lm → _) ∧ (¬ u1 ≤ lm → _))
              by_cases cf : u1 ≤ lm
              · have HV := hide ((unhide HT2).1 cf)
                clear HT HT2
                go_wp2_with fail
                go_quiet (fail)
                go_wp2_with fail
                go_roundw
                case rel => exact ⟨k + 1, by omega, by go_num, (by repeat' (first | (with_reducible exact up_refl _) | (with_reducible assumption) | (with_reducible refine up_alloc ?_ _) | (with_reducible refine up_drewN ?_ _) | (with_reducible refine up_drew ?_) | (with_reducible refine up_set ?_ (by first | (simp; done) | (simp; omega) | omega) _) | (refine up_trans ?_ (by with_reducible assumption)))), bx_drewN (bx_alloc hB _) _, bx_drewN (bx_alloc hZ _) _, unhide HV⟩
                case measure => simp [intOf]; omega
              · have HV := (unhide HT2).2 cf
                have HF2 := unhide HF
                rw [HV] at HF2
                subst HF2
                obtain ⟨e1, e2, e3, e4⟩ := unhide HE2
                rw [if_neg (by simp)] at e1
                subst e1
                rw [if_neg (by omega)] at e2 e3 e4
                subst e2 e3 e4
                clear HT HT2 HV HF
                go_wp2_with fail
                go_quiet (fail)
                refine at_x (fun WQ hWQ => ?_)
                have hZ4 : Bx WQ (w.heap.size + 1) [.int .i64 0, .int .i64 0, .int .i64 0] := by rw [hWQ]; exact bx_drewN (bx_alloc hZ _) _
                have U4 : Up w WQ := by rw [hWQ]; exact (by repeat' (first | (with_reducible exact up_refl _) | (with_reducible assumption) | (with_reducible refine up_alloc ?_ _) | (with_reducible refine up_drewN ?_ _) | (with_reducible refine up_drew ?_) | (with_reducible refine up_set ?_ (by first | (simp; done) | (simp; omega) | omega) _) | (refine up_trans ?_ (by with_reducible assumption))))
                clear hWQ hB hZ hu x0 x1 x2 xx0 xx1 xx2
                obtain ⟨y0, y1, y2⟩ := bx3 hZ4
                obtain ⟨y3, y4, y5⟩ := bxf3 hZ4
                go_wp2_with fail
                obtain ⟨W9, hW9⟩ : ∃ W9 : World, W9 = (((WQ.setCell ⟨w.heap.size + 1, 0, none⟩ (.int .i64 0)).setCell ⟨w.heap.size + 1, 1, none⟩ (.int .i64 0)).setCell ⟨w.heap.size + 1, 2, none⟩ (.int .i64 0)) := ⟨_, rfl⟩
                rw [← hW9]
                have B9 : Bx W9 (w.heap.size + 1) [.int .i64 0, .int .i64 0, .int .i64 0] := by rw [hW9]; exact bx_set3 hZ4
                have U9 : Up w W9 := by rw [hW9]; exact (by repeat' (first | (with_reducible exact up_refl _) | (with_reducible assumption) | (with_reducible refine up_alloc ?_ _) | (with_reducible refine up_drewN ?_ _) | (with_reducible refine up_drew ?_) | (with_reducible refine up_set ?_ (by first | (simp; done) | (simp; omega) | omega) _) | (refine up_trans ?_ (by with_reducible assumption))))
                clear hW9 y0 y1 y2 y3 y4 y5
                obtain ⟨p0, p1, p2⟩ := bx3 B9
                refine bodyPost_ret (v := .tuple #[.agg #[.int .i64 0, .int .i64 0, .int .i64 0], .int .i64 14]) (by simp [results, Tryz.results27, go_sem, p0, p1, p2]) rfl ?_
                exact ⟨by first | rfl | (simp; done) | (simp [*]; done), U9⟩
            · have HT2 := hide (unhide HT : (u2 ≤ lm → _) ∧ (¬ u2 ≤ lm → _))
              by_cases cf : u2 ≤ lm
              · have HV := hide ((unhide HT2).1 cf)
                clear HT HT2
                go_wp2_with fail
                go_quiet (fail)
                go_wp2_with fail
                go_roundw
                case rel => exact ⟨k + 1, by omega, by go_num, (by repeat' (first | (with_reducible exact up_refl _) | (with_reducible assumption) | (with_reducible refine up_alloc ?_ _) | (with_reducible refine up_drewN ?_ _) | (with_reducible refine up_drew ?_) | (with_reducible refine up_set ?_ (by first | (simp; done) | (simp; omega) | omega) _) | (refine up_trans ?_ (by with_reducible assumption)))), bx_drewN (bx_alloc hB _) _, bx_drewN (bx_alloc hZ _) _, unhide HV⟩
                case measure => simp [intOf]; omega
              · have HV := (unhide HT2).2 cf
                have HF2 := unhide HF
                rw [HV] at HF2
                subst HF2
                obtain ⟨e1, e2, e3, e4⟩ := unhide HE2
                rw [if_neg (by simp)] at e1
                subst e1
                rw [if_neg (by omega)] at e2 e3 e4
                subst e2 e3 e4
                clear HT HT2 HV HF
                go_wp2_with fail
                go_quiet (fail)
                refine at_x (fun WQ hWQ => ?_)
                have hZ4 : Bx WQ (w.heap.size + 1) [.int .i64 0, .int .i64 0, .int .i64 0] := by rw [hWQ]; exact bx_drewN (bx_alloc hZ _) _
                have U4 : Up w WQ := by rw [hWQ]; exact (by repeat' (first | (with_reducible exact up_refl _) | (with_reducible assumption) | (with_reducible refine up_alloc ?_ _) | (with_reducible refine up_drewN ?_ _) | (with_reducible refine up_drew ?_) | (with_reducible refine up_set ?_ (by first | (simp; done) | (simp; omega) | omega) _) | (refine up_trans ?_ (by with_reducible assumption))))
                clear hWQ hB hZ hu x0 x1 x2 xx0 xx1 xx2
                obtain ⟨y0, y1, y2⟩ := bx3 hZ4
                obtain ⟨y3, y4, y5⟩ := bxf3 hZ4
                go_wp2_with fail
                obtain ⟨W9, hW9⟩ : ∃ W9 : World, W9 = (((WQ.setCell ⟨w.heap.size + 1, 0, none⟩ (.int .i64 0)).setCell ⟨w.heap.size + 1, 1, none⟩ (.int .i64 0)).setCell ⟨w.heap.size + 1, 2, none⟩ (.int .i64 0)) := ⟨_, rfl⟩
                rw [← hW9]
                have B9 : Bx W9 (w.heap.size + 1) [.int .i64 0, .int .i64 0, .int .i64 0] := by rw [hW9]; exact bx_set3 hZ4
                have U9 : Up w W9 := by rw [hW9]; exact (by repeat' (first | (with_reducible exact up_refl _) | (with_reducible assumption) | (with_reducible refine up_alloc ?_ _) | (with_reducible refine up_drewN ?_ _) | (with_reducible refine up_drew ?_) | (with_reducible refine up_set ?_ (by first | (simp; done) | (simp; omega) | omega) _) | (refine up_trans ?_ (by with_reducible assumption))))
                clear hW9 y0 y1 y2 y3 y4 y5
                obtain ⟨p0, p1, p2⟩ := bx3 B9
                refine bodyPost_ret (v := .tuple #[.agg #[.int .i64 0, .int .i64 0, .int .i64 0], .int .i64 14]) (by simp [results, Tryz.results27, go_sem, p0, p1, p2]) rfl ?_
                exact ⟨by first | rfl | (simp; done) | (simp [*]; done), U9⟩
          · obtain rfl : k = n := by omega
            have ht : fit u0 u1 u2 ps = true := by
              have := unhide ho
              rwa [List.take_of_length_le (by rw [unhide HN]; omega)] at this
            have HF2 := unhide HF
            rw [ht] at HF2
            subst HF2
            obtain ⟨e1, e2, e3, e4⟩ := unhide HE2
            rw [if_pos rfl] at e1
            subst e1
            rw [if_pos rfl] at e2 e3 e4
            subst e2 e3 e4
            obtain ⟨x0, x1, x2⟩ := bx3 hB
            obtain ⟨y0, y1, y2⟩ := bx3 hZ
            obtain ⟨y3, y4, y5⟩ := bxf3 hZ
            clear ht ho HF
            go_wp2_with fail
            obtain ⟨W9, hW9⟩ : ∃ W9 : World, W9 = (((wr.setCell ⟨w.heap.size + 1, 0, none⟩ (.int .i64 u0)).setCell ⟨w.heap.size + 1, 1, none⟩ (.int .i64 u1)).setCell ⟨w.heap.size + 1, 2, none⟩ (.int .i64 u2)) := ⟨_, rfl⟩
            rw [← hW9]
            have B9 : Bx W9 (w.heap.size + 1) [.int .i64 u0, .int .i64 u1, .int .i64 u2] := by rw [hW9]; exact bx_set3 hZ
            have U9 : Up w W9 := by rw [hW9]; exact (by repeat' (first | (with_reducible exact up_refl _) | (with_reducible assumption) | (with_reducible refine up_alloc ?_ _) | (with_reducible refine up_drewN ?_ _) | (with_reducible refine up_drew ?_) | (with_reducible refine up_set ?_ (by first | (simp; done) | (simp; omega) | omega) _) | (refine up_trans ?_ (by with_reducible assumption))))
            clear hW9 y0 y1 y2 y3 y4 y5
            obtain ⟨p0, p1, p2⟩ := bx3 B9
            refine bodyPost_ret (v := .tuple #[.agg #[.int .i64 u0, .int .i64 u1, .int .i64 u2], .int .i64 0]) (by simp [results, Tryz.results27, go_sem, p0, p1, p2]) rfl ?_
            exact ⟨by first | rfl | (simp; done) | (simp [*]; done), U9⟩
  · simp only [if_neg c]
    have c2 : (C == 0) = false := by simp; exact c
    clear hS hP hU hO
    go_enter Tryz.func27, Tryz.ntmps27
    go_wp2_with (go_at_call 60; (with_reducible refine (unhide hC _ (by repeat' (first | (with_reducible exact up_refl _) | (with_reducible assumption) | (with_reducible refine up_alloc ?_ _) | (with_reducible refine up_drewN ?_ _) | (with_reducible refine up_drew ?_) | (with_reducible refine up_set ?_ (by first | (simp; done) | (simp; omega) | omega) _) | (refine up_trans ?_ (by with_reducible assumption))))).mono ?_); rintro e w1 ⟨rfl, hb⟩; have k1_0 : w1.cell? ⟨w.heap.size + 1, 0, none⟩ = some (.int .i64 0) := up_cell hb (by first | (with_reducible assumption) | (refine alloc_cell _ ?_; with_reducible assumption) | go_cell); have f1_0 : w1.frozen? ⟨w.heap.size + 1, 0, none⟩ = false := up_frozen hb (v := .int .i64 0) (by first | (with_reducible assumption) | (refine alloc_cell _ ?_; with_reducible assumption) | go_cell) (by first | (with_reducible assumption) | (refine alloc_frozen (v := .int .i64 0) _ ?_ ?_ <;> with_reducible assumption) | (simp; done) | (go_simp; done)); have k1_1 : w1.cell? ⟨w.heap.size + 1, 1, none⟩ = some (.int .i64 0) := up_cell hb (by first | (with_reducible assumption) | (refine alloc_cell _ ?_; with_reducible assumption) | go_cell); have f1_1 : w1.frozen? ⟨w.heap.size + 1, 1, none⟩ = false := up_frozen hb (v := .int .i64 0) (by first | (with_reducible assumption) | (refine alloc_cell _ ?_; with_reducible assumption) | go_cell) (by first | (with_reducible assumption) | (refine alloc_frozen (v := .int .i64 0) _ ?_ ?_ <;> with_reducible assumption) | (simp; done) | (go_simp; done)); have k1_2 : w1.cell? ⟨w.heap.size + 1, 2, none⟩ = some (.int .i64 0) := up_cell hb (by first | (with_reducible assumption) | (refine alloc_cell _ ?_; with_reducible assumption) | go_cell); have f1_2 : w1.frozen? ⟨w.heap.size + 1, 2, none⟩ = false := up_frozen hb (v := .int .i64 0) (by first | (with_reducible assumption) | (refine alloc_cell _ ?_; with_reducible assumption) | go_cell) (by first | (with_reducible assumption) | (refine alloc_frozen (v := .int .i64 0) _ ?_ ?_ <;> with_reducible assumption) | (simp; done) | (go_simp; done)))
    have Z1 := mk_bx3 k1_0 k1_1 k1_2 f1_0 f1_1 f1_2
    have y0 := k1_0
    have y1 := k1_1
    have y2 := k1_2
    have y3 := f1_0
    have y4 := f1_1
    have y5 := f1_2
    obtain ⟨W9, hW9⟩ : ∃ W9 : World, W9 = (((w1.setCell ⟨w.heap.size + 1, 0, none⟩ (.int .i64 0)).setCell ⟨w.heap.size + 1, 1, none⟩ (.int .i64 0)).setCell ⟨w.heap.size + 1, 2, none⟩ (.int .i64 0)) := ⟨_, rfl⟩
    rw [← hW9]
    have B9 : Bx W9 (w.heap.size + 1) [.int .i64 0, .int .i64 0, .int .i64 0] := by rw [hW9]; exact bx_set3 Z1
    have U9 : Up w W9 := by rw [hW9]; exact (by repeat' (first | (with_reducible exact up_refl _) | (with_reducible assumption) | (with_reducible refine up_alloc ?_ _) | (with_reducible refine up_drewN ?_ _) | (with_reducible refine up_drew ?_) | (with_reducible refine up_set ?_ (by first | (simp; done) | (simp; omega) | omega) _) | (refine up_trans ?_ (by with_reducible assumption))))
    clear hW9 y0 y1 y2 y3 y4 y5
    obtain ⟨p0, p1, p2⟩ := bx3 B9
    refine bodyPost_ret (v := .tuple #[.agg #[.int .i64 0, .int .i64 0, .int .i64 0], .int .i64 C]) (by simp [results, Tryz.results27, go_sem, p0, p1, p2]) rfl ?_
    exact ⟨by first | rfl | (simp; done) | (simp [*]; done), U9⟩
end Go.Proofs.YthifcalemhpmoaaGreat
