/- Which group's part is below 0; the sums and the parts as they are handed out. -/
import Derived.Test.YtgjcpgmnflpdkaaTip
import Derived.Deep.RegionWith
namespace Go.Proofs.Ytgjcpgmnflpdkaa
open Go.RowKit Go.Proofs.Gn
def lif (a b c : Int) : Int := if a < 0 then 0 else if b < 0 then 1 else if c < 0 then 2 else -1
theorem lif_bd (a b c : Int) : -1 ≤ lif a b c ∧ lif a b c ≤ 2 := by
  unfold lif
  split
  · omega
  · split
    · omega
    · split <;> omega
theorem p_neg (a : Int) (w : World) : Calls Try.prog 84 #[.int .i64 a] w fun e w' => e = .returned (.bool (decide (a < 0))) ∧ w = w' := by
  go_enter Try.func84, Try.ntmps84
  go_wp2
  go_ret
  exact ⟨rfl, rfl⟩
set_option maxHeartbeats 1000000 in
theorem p_IndexFunc (a b c : Int) (B : Nat) (w : World) (h0 : w.cell? ⟨B, 0, none⟩ = some (.int .i64 a)) (h1 : w.cell? ⟨B, 1, none⟩ = some (.int .i64 b)) (h2 : w.cell? ⟨B, 2, none⟩ = some (.int .i64 c)) :
    Calls Try.prog 83 #[.slice (some ⟨B, 0, none⟩) 3 3, .func (.func 84) #[] #[]] w fun e w' => e = .returned (.int .i64 (lif a b c)) ∧ w = w' := by
  have Ha := hide (fun W => p_neg a W)
  have Hb := hide (fun W => p_neg b W)
  have Hc := hide (fun W => p_neg c W)
  unfold lif
  by_cases ca : a < 0
  · rw [if_pos ca]
    have da := decide_eq_true ca
    go_enter Try.func83, Try.ntmps83
    go_wp2_with fail
    refine wp_loop_rounds 4 ?_
    rw [rounds_succ]
    go_wp2_with (go_at_call 84; (with_reducible refine (unhide Ha _).mono ?_); rintro e w1 ⟨rfl, rfl⟩)
    go_ret
    exact ⟨rfl, rfl⟩
  rw [if_neg ca]
  have da := decide_eq_false ca
  by_cases cb : b < 0
  · rw [if_pos cb]
    have db := decide_eq_true cb
    go_enter Try.func83, Try.ntmps83
    go_wp2_with fail
    refine wp_loop_rounds 4 ?_
    rw [rounds_succ]
    go_wp2_with (go_at_call 84; (with_reducible refine (unhide Ha _).mono ?_); rintro e w1 ⟨rfl, rfl⟩)
    rw [rounds_succ]
    go_wp2_with (go_at_call 84; (with_reducible refine (unhide Hb _).mono ?_); rintro e w1 ⟨rfl, rfl⟩)
    go_ret
    exact ⟨rfl, rfl⟩
  rw [if_neg cb]
  have db := decide_eq_false cb
  by_cases cc : c < 0
  · rw [if_pos cc]
    have dc := decide_eq_true cc
    go_enter Try.func83, Try.ntmps83
    go_wp2_with fail
    refine wp_loop_rounds 4 ?_
    rw [rounds_succ]
    go_wp2_with (go_at_call 84; (with_reducible refine (unhide Ha _).mono ?_); rintro e w1 ⟨rfl, rfl⟩)
    rw [rounds_succ]
    go_wp2_with (go_at_call 84; (with_reducible refine (unhide Hb _).mono ?_); rintro e w1 ⟨rfl, rfl⟩)
    rw [rounds_succ]
    go_wp2_with (go_at_call 84; (with_reducible refine (unhide Hc _).mono ?_); rintro e w1 ⟨rfl, rfl⟩)
    go_ret
    exact ⟨rfl, rfl⟩
  · rw [if_neg cc]
    have dc := decide_eq_false cc
    go_enter Try.func83, Try.ntmps83
    go_wp2_with fail
    refine wp_loop_rounds 4 ?_
    rw [rounds_succ]
    go_wp2_with (go_at_call 84; (with_reducible refine (unhide Ha _).mono ?_); rintro e w1 ⟨rfl, rfl⟩)
    rw [rounds_succ]
    go_wp2_with (go_at_call 84; (with_reducible refine (unhide Hb _).mono ?_); rintro e w1 ⟨rfl, rfl⟩)
    rw [rounds_succ]
    go_wp2_with (go_at_call 84; (with_reducible refine (unhide Hc _).mono ?_); rintro e w1 ⟨rfl, rfl⟩)
    rw [rounds_succ]
    go_wp2_with fail
    go_ret
    exact ⟨rfl, rfl⟩
theorem p_lifted (a b c : Int) (w : World) :
    Calls Try.prog 50 #[.agg #[.int .i64 a, .int .i64 b, .int .i64 c]] w fun e w' => e = .returned (.int .i64 (lif a b c)) ∧ Up w w' := by
  go_enter Try.func50, Try.ntmps50
  go_wp2_with (go_at_call 83; refine (p_IndexFunc a b c _ _ (by go_cell) (by go_cell) (by go_cell)).mono ?_; rintro e w1 ⟨rfl, rfl⟩)
  go_ret
  exact ⟨rfl, (by repeat' (first | (with_reducible exact up_refl _) | (with_reducible assumption) | (with_reducible refine up_alloc ?_ _) | (with_reducible refine up_drewN ?_ _) | (with_reducible refine up_drew ?_) | (with_reducible refine up_set ?_ (by first | (simp; done) | (simp; omega) | omega) _) | (refine up_trans ?_ (by with_reducible assumption))))⟩
/-- What Sums returns. -/
def suV (ps : List Gs.Sup) (v : Int) : Int := if chE ps = 0 then v else 0
theorem chE_ok {ps : List Gs.Sup} (h : chE ps = 0) : Gs.okA ps = true ∧ ps.length ≤ 48 ∧ 3 ≤ ps.length ∧ Gs.wh ps ≠ 0 := by
  unfold chE at h
  split at h
  · cases h
  · split at h
    · split at h
      · cases h
      · exact ⟨by assumption, by omega, by omega, by assumption⟩
    · cases h
set_option maxHeartbeats 1000000 in
theorem p_Sums (A : Option Addr) (ps : List Gs.Sup) (cap : Nat) (hn : ps.length ≤ 9223372036854775807) (w : World) (h : Sups w A ps) :
    Calls Try.prog 16 #[.slice A ps.length cap] w fun e w' => e = .returned (.tuple #[m9 (suV ps (Gs.cN 0 ps)) (suV ps (Gs.cX 0 ps)) (suV ps (Gs.cY 0 ps)) (suV ps (Gs.cN 1 ps)) (suV ps (Gs.cX 1 ps)) (suV ps (Gs.cY 1 ps)) (suV ps (Gs.cN 2 ps)) (suV ps (Gs.cX 2 ps)) (suV ps (Gs.cY 2 ps)), .int .i64 (chE ps)]) ∧ Up w w' := by
  have hC := hide (fun (W : World) (hW : Up w W) => p_Check A ps cap W (sups_up h hW) hn)
  have hS := hide (fun (e : chE ps = 0) (W : World) (hW : Up w W) => p_sums9 A ps cap (chE_ok e).1 (chE_ok e).2.1 W (sups_up h hW))
  unfold suV
  unfold n9 at hS
  clear h hn
  obtain ⟨n, hN⟩ : ∃ n, ps.length = n := ⟨_, rfl⟩
  rw [hN] at hC hS ⊢
  clear hN
  generalize Gs.cN 0 ps = n0 at *
  generalize Gs.cX 0 ps = x0 at *
  generalize Gs.cY 0 ps = y0 at *
  generalize Gs.cN 1 ps = n1 at *
  generalize Gs.cX 1 ps = x1 at *
  generalize Gs.cY 1 ps = y1 at *
  generalize Gs.cN 2 ps = n2 at *
  generalize Gs.cX 2 ps = x2 at *
  generalize Gs.cY 2 ps = y2 at *
  generalize chE ps = C at *
  by_cases c : C = 0
  · subst c
    simp only [if_pos]
    have hS2 := hide (unhide hS rfl)
    clear hS
    go_enter Try.func16, Try.ntmps16
    go_wp2_with (first | (go_at_call 25; (with_reducible refine (unhide hC _ (by repeat' (first | (with_reducible exact up_refl _) | (with_reducible assumption) | (with_reducible refine up_alloc ?_ _) | (with_reducible refine up_drewN ?_ _) | (with_reducible refine up_drew ?_) | (with_reducible refine up_set ?_ (by first | (simp; done) | (simp; omega) | omega) _) | (refine up_trans ?_ (by with_reducible assumption))))).mono ?_); rintro e w1 ⟨rfl, hb⟩; have B1 := bx_up (bx_new w [.int .i64 0, .int .i64 0, .int .i64 0, .int .i64 0, .int .i64 0, .int .i64 0, .int .i64 0, .int .i64 0, .int .i64 0] 31) hb) | (go_at_call 47; (with_reducible refine (unhide hS2 _ (by repeat' (first | (with_reducible exact up_refl _) | (with_reducible assumption) | (with_reducible refine up_alloc ?_ _) | (with_reducible refine up_drewN ?_ _) | (with_reducible refine up_drew ?_) | (with_reducible refine up_set ?_ (by first | (simp; done) | (simp; omega) | omega) _) | (refine up_trans ?_ (by with_reducible assumption))))).mono ?_); rintro e w2 ⟨rfl, hb2⟩; have B2 := bx_up B1 hb2; obtain ⟨q0, q1, q2, q3, q4, q5, q6, q7, q8⟩ := bx9 B2; obtain ⟨f0, f1, f2, f3, f4, f5, f6, f7, f8⟩ := bxf9 B2))
    obtain ⟨W9, hW9⟩ : ∃ W9 : World, W9 = (((((((((w2.setCell ⟨w.heap.size, 0, none⟩ (.int .i64 n0)).setCell ⟨w.heap.size, 1, none⟩ (.int .i64 x0)).setCell ⟨w.heap.size, 2, none⟩ (.int .i64 y0)).setCell ⟨w.heap.size, 3, none⟩ (.int .i64 n1)).setCell ⟨w.heap.size, 4, none⟩ (.int .i64 x1)).setCell ⟨w.heap.size, 5, none⟩ (.int .i64 y1)).setCell ⟨w.heap.size, 6, none⟩ (.int .i64 n2)).setCell ⟨w.heap.size, 7, none⟩ (.int .i64 x2)).setCell ⟨w.heap.size, 8, none⟩ (.int .i64 y2)) := ⟨_, rfl⟩
    rw [← hW9]
    have B9 : Bx W9 w.heap.size [.int .i64 n0, .int .i64 x0, .int .i64 y0, .int .i64 n1, .int .i64 x1, .int .i64 y1, .int .i64 n2, .int .i64 x2, .int .i64 y2] := by rw [hW9]; exact bx_set (bx_set (bx_set (bx_set (bx_set (bx_set (bx_set (bx_set (bx_set B2 0 _) 1 _) 2 _) 3 _) 4 _) 5 _) 6 _) 7 _) 8 _
    have U9 : Up w W9 := by rw [hW9]; exact (by repeat' (first | (with_reducible exact up_refl _) | (with_reducible assumption) | (with_reducible refine up_alloc ?_ _) | (with_reducible refine up_drewN ?_ _) | (with_reducible refine up_drew ?_) | (with_reducible refine up_set ?_ (by first | (simp; done) | (simp; omega) | omega) _) | (refine up_trans ?_ (by with_reducible assumption))))
    clear hW9 q0 q1 q2 q3 q4 q5 q6 q7 q8 f0 f1 f2 f3 f4 f5 f6 f7 f8
    obtain ⟨q0, q1, q2, q3, q4, q5, q6, q7, q8⟩ := bx9 B9
    refine bodyPost_ret (v := .tuple #[m9 n0 x0 y0 n1 x1 y1 n2 x2 y2, .int .i64 0]) ?_ rfl ⟨rfl, U9⟩
    simp [results, Try.results16, go_sem, q0, q1, q2, q3, q4, q5, q6, q7, q8]
  · simp only [if_neg c]
    have c2 : (C == 0) = false := by simp; exact c
    clear hS
    go_enter Try.func16, Try.ntmps16
    go_wp2_with (first | (go_at_call 25; (with_reducible refine (unhide hC _ (by repeat' (first | (with_reducible exact up_refl _) | (with_reducible assumption) | (with_reducible refine up_alloc ?_ _) | (with_reducible refine up_drewN ?_ _) | (with_reducible refine up_drew ?_) | (with_reducible refine up_set ?_ (by first | (simp; done) | (simp; omega) | omega) _) | (refine up_trans ?_ (by with_reducible assumption))))).mono ?_); rintro e w1 ⟨rfl, hb⟩; have B1 := bx_up (bx_new w [.int .i64 0, .int .i64 0, .int .i64 0, .int .i64 0, .int .i64 0, .int .i64 0, .int .i64 0, .int .i64 0, .int .i64 0] 31) hb; obtain ⟨q0, q1, q2, q3, q4, q5, q6, q7, q8⟩ := bx9 B1; obtain ⟨f0, f1, f2, f3, f4, f5, f6, f7, f8⟩ := bxf9 B1))
    obtain ⟨W9, hW9⟩ : ∃ W9 : World, W9 = (((((((((w1.setCell ⟨w.heap.size, 0, none⟩ (.int .i64 0)).setCell ⟨w.heap.size, 1, none⟩ (.int .i64 0)).setCell ⟨w.heap.size, 2, none⟩ (.int .i64 0)).setCell ⟨w.heap.size, 3, none⟩ (.int .i64 0)).setCell ⟨w.heap.size, 4, none⟩ (.int .i64 0)).setCell ⟨w.heap.size, 5, none⟩ (.int .i64 0)).setCell ⟨w.heap.size, 6, none⟩ (.int .i64 0)).setCell ⟨w.heap.size, 7, none⟩ (.int .i64 0)).setCell ⟨w.heap.size, 8, none⟩ (.int .i64 0)) := ⟨_, rfl⟩
    rw [← hW9]
    have B9 : Bx W9 w.heap.size [.int .i64 0, .int .i64 0, .int .i64 0, .int .i64 0, .int .i64 0, .int .i64 0, .int .i64 0, .int .i64 0, .int .i64 0] := by rw [hW9]; exact bx_set (bx_set (bx_set (bx_set (bx_set (bx_set (bx_set (bx_set (bx_set B1 0 _) 1 _) 2 _) 3 _) 4 _) 5 _) 6 _) 7 _) 8 _
    have U9 : Up w W9 := by rw [hW9]; exact (by repeat' (first | (with_reducible exact up_refl _) | (with_reducible assumption) | (with_reducible refine up_alloc ?_ _) | (with_reducible refine up_drewN ?_ _) | (with_reducible refine up_drew ?_) | (with_reducible refine up_set ?_ (by first | (simp; done) | (simp; omega) | omega) _) | (refine up_trans ?_ (by with_reducible assumption))))
    clear hW9 q0 q1 q2 q3 q4 q5 q6 q7 q8 f0 f1 f2 f3 f4 f5 f6 f7 f8
    obtain ⟨q0, q1, q2, q3, q4, q5, q6, q7, q8⟩ := bx9 B9
    refine bodyPost_ret (v := .tuple #[m9 0 0 0 0 0 0 0 0 0, .int .i64 C]) ?_ rfl ⟨rfl, U9⟩
    simp [results, Try.results16, go_sem, q0, q1, q2, q3, q4, q5, q6, q7, q8]
end Go.Proofs.Ytgjcpgmnflpdkaa
