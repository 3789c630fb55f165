/- Which group's part is below 0; the sums and the parts as they are handed out. -/
import Derived.Test.YtepblnnebeglbaaTip
import Derived.Deep.RegionWith
namespace Go.Proofs.Ytepblnnebeglbaa
open Go.RowKit Go.Proofs.Gn
def lif (a b c : Int) : Int := if a < 0 then 0 else if b < 0 then 1 else if c < 0 then 2 else -1
theorem lif_bd (a b c : Int) : -1 ≤ lif a b c ∧ lif a b c ≤ 2 := by
  unfold lif
  split
  · omega
  · split
    · omega
    · split <;> omega
theorem p_neg (a : Int) (w : World) : Calls Try.prog 44 #[.int .i64 a] w fun e w' => e = .returned (.bool (decide (a < 0))) ∧ w = w' := by
  go_enter Try.func44, Try.ntmps44
  go_wp2
  go_ret
  exact ⟨rfl, rfl⟩
set_option maxHeartbeats 1000000 in
theorem p_IndexFunc (a b c : Int) (B : Nat) (w : World) (h0 : w.cell? ⟨B, 0, none⟩ = some (.int .i64 a)) (h1 : w.cell? ⟨B, 1, none⟩ = some (.int .i64 b)) (h2 : w.cell? ⟨B, 2, none⟩ = some (.int .i64 c)) :
    Calls Try.prog 43 #[.slice (some ⟨B, 0, none⟩) 3 3, .func (.func 44) #[] #[]] w fun e w' => e = .returned (.int .i64 (lif a b c)) ∧ w = w' := by
  have Ha := hide (fun W => p_neg a W)
  have Hb := hide (fun W => p_neg b W)
  have Hc := hide (fun W => p_neg c W)
  unfold lif
  by_cases ca : a < 0
  · rw [if_pos ca]
    have da := decide_eq_true ca
    go_enter Try.func43, Try.ntmps43
    go_wp2_with fail
    refine wp_loop_rounds 4 ?_
    rw [rounds_succ]
    go_wp2_with (go_at_call 44; (with_reducible refine (unhide Ha _).mono ?_); rintro e w1 ⟨rfl, rfl⟩)
    go_ret
    exact ⟨rfl, rfl⟩
  rw [if_neg ca]
  have da := decide_eq_false ca
  by_cases cb : b < 0
  · rw [if_pos cb]
    have db := decide_eq_true cb
    go_enter Try.func43, Try.ntmps43
    go_wp2_with fail
    refine wp_loop_rounds 4 ?_
    rw [rounds_succ]
    go_wp2_with (go_at_call 44; (with_reducible refine (unhide Ha _).mono ?_); rintro e w1 ⟨rfl, rfl⟩)
    rw [rounds_succ]
    go_wp2_with (go_at_call 44; (with_reducible refine (unhide Hb _).mono ?_); rintro e w1 ⟨rfl, rfl⟩)
    go_ret
    exact ⟨rfl, rfl⟩
  rw [if_neg cb]
  have db := decide_eq_false cb
  by_cases cc : c < 0
  · rw [if_pos cc]
    have dc := decide_eq_true cc
    go_enter Try.func43, Try.ntmps43
    go_wp2_with fail
    refine wp_loop_rounds 4 ?_
    rw [rounds_succ]
    go_wp2_with (go_at_call 44; (with_reducible refine (unhide Ha _).mono ?_); rintro e w1 ⟨rfl, rfl⟩)
    rw [rounds_succ]
    go_wp2_with (go_at_call 44; (with_reducible refine (unhide Hb _).mono ?_); rintro e w1 ⟨rfl, rfl⟩)
    rw [rounds_succ]
    go_wp2_with (go_at_call 44; (with_reducible refine (unhide Hc _).mono ?_); rintro e w1 ⟨rfl, rfl⟩)
    go_ret
    exact ⟨rfl, rfl⟩
  · rw [if_neg cc]
    have dc := decide_eq_false cc
    go_enter Try.func43, Try.ntmps43
    go_wp2_with fail
    refine wp_loop_rounds 4 ?_
    rw [rounds_succ]
    go_wp2_with (go_at_call 44; (with_reducible refine (unhide Ha _).mono ?_); rintro e w1 ⟨rfl, rfl⟩)
    rw [rounds_succ]
    go_wp2_with (go_at_call 44; (with_reducible refine (unhide Hb _).mono ?_); rintro e w1 ⟨rfl, rfl⟩)
    rw [rounds_succ]
    go_wp2_with (go_at_call 44; (with_reducible refine (unhide Hc _).mono ?_); rintro e w1 ⟨rfl, rfl⟩)
    rw [rounds_succ]
    go_wp2_with fail
    go_ret
    exact ⟨rfl, rfl⟩
theorem p_lifted (a b c : Int) (w : World) :
    Calls Try.prog 23 #[.agg #[.int .i64 a, .int .i64 b, .int .i64 c]] w fun e w' => e = .returned (.int .i64 (lif a b c)) ∧ Up w w' := by
  go_enter Try.func23, Try.ntmps23
  go_wp2_with (go_at_call 43; refine (p_IndexFunc a b c _ _ (by go_cell) (by go_cell) (by go_cell)).mono ?_; rintro e w1 ⟨rfl, rfl⟩)
  go_ret
  exact ⟨rfl, (by repeat' (first | (with_reducible exact up_refl _) | (with_reducible assumption) | (with_reducible refine up_alloc ?_ _) | (with_reducible refine up_drewN ?_ _) | (with_reducible refine up_drew ?_) | (with_reducible refine up_set ?_ (by first | (simp; done) | (simp; omega) | omega) _) | (refine up_trans ?_ (by with_reducible assumption))))⟩
/-- What Sums returns. -/
def suV (ps : List Gs.Sup) (v : Int) : Int := if chE ps = 0 then v else 0
theorem chE_ok {ps : List Gs.Sup} (h : chE ps = 0) : Gs.okA ps = true ∧ ps.length ≤ 48 ∧ 3 ≤ ps.length ∧ Gs.wh ps ≠ 0 := by
  unfold chE at h
  split at h
  · cases h
  · split at h
    · split at h
      · cases h
      · exact ⟨by assumption, by omega, by omega, by assumption⟩
    · cases h
end Go.Proofs.Ytepblnnebeglbaa
