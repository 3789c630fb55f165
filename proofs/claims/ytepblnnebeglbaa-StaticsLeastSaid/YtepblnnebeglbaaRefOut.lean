/- The sums, parts and shares as they are handed out: the document's own answers. -/
import Derived.Test.YtepblnnebeglbaaRefParts
import Derived.Test.YtepblnnebeglbaaRefDown
namespace Go.Proofs.Ytepblnnebeglbaa
open Go.RowKit Go.Proofs.Gn
set_option maxHeartbeats 4000000 in
theorem r_tips (A : Option Addr) (ps : List Gs.Sup) (cap : Nat) (X Y : Int) (hz : atE ps X Y = 0) (w : World) (h : Sups w A ps) :
    Calls Try.prog 39 #[.slice A ps.length cap, pt X Y] w fun e w' => e = .returned (.int .i64 (lif (pa0 ps X Y) (pa1 ps X Y) (pa2 ps X Y))) ∧ Up w w' := by
  have HP := hide (fun (W : World) (hW : Up w W) => r_parts A ps cap X Y hz W (sups_up h hW))
  clear h hz
  obtain ⟨n, hN⟩ : ∃ n, ps.length = n := ⟨_, rfl⟩
  rw [hN] at HP ⊢
  clear hN
  generalize pa0 ps X Y = a at *
  generalize pa1 ps X Y = b at *
  generalize pa2 ps X Y = c at *
  generalize paD ps = D at *
  unfold lif
  by_cases ca : a < 0
  · rw [if_pos ca]
    go_enter Try.func39, Try.ntmps39
    go_wp2_with (go_at_call 52; (with_reducible refine (unhide HP _ (by repeat' (first | (with_reducible exact up_refl _) | (with_reducible assumption) | (with_reducible refine up_alloc ?_ _) | (with_reducible refine up_drewN ?_ _) | (with_reducible refine up_drew ?_) | (with_reducible refine up_set ?_ (by first | (simp; done) | (simp; omega) | omega) _) | (refine up_trans ?_ (by with_reducible assumption))))).mono ?_); rintro e w1 ⟨rfl, hb1⟩)
    refine at_wp (fun W0 hW0 => ?_)
    have O0 : Bx W0 w1.heap.size [.int .i64 a, .int .i64 b, .int .i64 c] := by rw [hW0]; exact bx_new w1 _ 36
    have U0 : Up w W0 := by rw [hW0]; exact (by repeat' (first | (with_reducible exact up_refl _) | (with_reducible assumption) | (with_reducible refine up_alloc ?_ _) | (with_reducible refine up_drewN ?_ _) | (with_reducible refine up_drew ?_) | (with_reducible refine up_set ?_ (by first | (simp; done) | (simp; omega) | omega) _) | (refine up_trans ?_ (by with_reducible assumption))))
    clear hW0 hb1
    obtain ⟨o0, o1, o2⟩ := bx3 O0
    refine wp_loop_rounds 4 ?_
    rw [rounds_succ]
    go_wp2_with fail
    go_ret
    exact ⟨rfl, (by repeat' (first | (with_reducible exact up_refl _) | (with_reducible assumption) | (with_reducible refine up_alloc ?_ _) | (with_reducible refine up_drewN ?_ _) | (with_reducible refine up_drew ?_) | (with_reducible refine up_set ?_ (by first | (simp; done) | (simp; omega) | omega) _) | (refine up_trans ?_ (by with_reducible assumption))))⟩
  rw [if_neg ca]
  by_cases cb : b < 0
  · rw [if_pos cb]
    go_enter Try.func39, Try.ntmps39
    go_wp2_with (go_at_call 52; (with_reducible refine (unhide HP _ (by repeat' (first | (with_reducible exact up_refl _) | (with_reducible assumption) | (with_reducible refine up_alloc ?_ _) | (with_reducible refine up_drewN ?_ _) | (with_reducible refine up_drew ?_) | (with_reducible refine up_set ?_ (by first | (simp; done) | (simp; omega) | omega) _) | (refine up_trans ?_ (by with_reducible assumption))))).mono ?_); rintro e w1 ⟨rfl, hb1⟩)
    refine at_wp (fun W0 hW0 => ?_)
    have O0 : Bx W0 w1.heap.size [.int .i64 a, .int .i64 b, .int .i64 c] := by rw [hW0]; exact bx_new w1 _ 36
    have U0 : Up w W0 := by rw [hW0]; exact (by repeat' (first | (with_reducible exact up_refl _) | (with_reducible assumption) | (with_reducible refine up_alloc ?_ _) | (with_reducible refine up_drewN ?_ _) | (with_reducible refine up_drew ?_) | (with_reducible refine up_set ?_ (by first | (simp; done) | (simp; omega) | omega) _) | (refine up_trans ?_ (by with_reducible assumption))))
    clear hW0 hb1
    obtain ⟨o0, o1, o2⟩ := bx3 O0
    refine wp_loop_rounds 4 ?_
    rw [rounds_succ]
    go_wp2_with fail
    rw [rounds_succ]
    go_wp2_with fail
    go_ret
    exact ⟨rfl, (by repeat' (first | (with_reducible exact up_refl _) | (with_reducible assumption) | (with_reducible refine up_alloc ?_ _) | (with_reducible refine up_drewN ?_ _) | (with_reducible refine up_drew ?_) | (with_reducible refine up_set ?_ (by first | (simp; done) | (simp; omega) | omega) _) | (refine up_trans ?_ (by with_reducible assumption))))⟩
  rw [if_neg cb]
  by_cases cc : c < 0
  · rw [if_pos cc]
    go_enter Try.func39, Try.ntmps39
    go_wp2_with (go_at_call 52; (with_reducible refine (unhide HP _ (by repeat' (first | (with_reducible exact up_refl _) | (with_reducible assumption) | (with_reducible refine up_alloc ?_ _) | (with_reducible refine up_drewN ?_ _) | (with_reducible refine up_drew ?_) | (with_reducible refine up_set ?_ (by first | (simp; done) | (simp; omega) | omega) _) | (refine up_trans ?_ (by with_reducible assumption))))).mono ?_); rintro e w1 ⟨rfl, hb1⟩)
    refine at_wp (fun W0 hW0 => ?_)
    have O0 : Bx W0 w1.heap.size [.int .i64 a, .int .i64 b, .int .i64 c] := by rw [hW0]; exact bx_new w1 _ 36
    have U0 : Up w W0 := by rw [hW0]; exact (by repeat' (first | (with_reducible exact up_refl _) | (with_reducible assumption) | (with_reducible refine up_alloc ?_ _) | (with_reducible refine up_drewN ?_ _) | (with_reducible refine up_drew ?_) | (with_reducible refine up_set ?_ (by first | (simp; done) | (simp; omega) | omega) _) | (refine up_trans ?_ (by with_reducible assumption))))
    clear hW0 hb1
    obtain ⟨o0, o1, o2⟩ := bx3 O0
    refine wp_loop_rounds 4 ?_
    rw [rounds_succ]
    go_wp2_with fail
    rw [rounds_succ]
    go_wp2_with fail
    rw [rounds_succ]
    go_wp2_with fail
    go_ret
    exact ⟨rfl, (by repeat' (first | (with_reducible exact up_refl _) | (with_reducible assumption) | (with_reducible refine up_alloc ?_ _) | (with_reducible refine up_drewN ?_ _) | (with_reducible refine up_drew ?_) | (with_reducible refine up_set ?_ (by first | (simp; done) | (simp; omega) | omega) _) | (refine up_trans ?_ (by with_reducible assumption))))⟩
  · rw [if_neg cc]
    go_enter Try.func39, Try.ntmps39
    go_wp2_with (go_at_call 52; (with_reducible refine (unhide HP _ (by repeat' (first | (with_reducible exact up_refl _) | (with_reducible assumption) | (with_reducible refine up_alloc ?_ _) | (with_reducible refine up_drewN ?_ _) | (with_reducible refine up_drew ?_) | (with_reducible refine up_set ?_ (by first | (simp; done) | (simp; omega) | omega) _) | (refine up_trans ?_ (by with_reducible assumption))))).mono ?_); rintro e w1 ⟨rfl, hb1⟩)
    refine at_wp (fun W0 hW0 => ?_)
    have O0 : Bx W0 w1.heap.size [.int .i64 a, .int .i64 b, .int .i64 c] := by rw [hW0]; exact bx_new w1 _ 36
    have U0 : Up w W0 := by rw [hW0]; exact (by repeat' (first | (with_reducible exact up_refl _) | (with_reducible assumption) | (with_reducible refine up_alloc ?_ _) | (with_reducible refine up_drewN ?_ _) | (with_reducible refine up_drew ?_) | (with_reducible refine up_set ?_ (by first | (simp; done) | (simp; omega) | omega) _) | (refine up_trans ?_ (by with_reducible assumption))))
    clear hW0 hb1
    obtain ⟨o0, o1, o2⟩ := bx3 O0
    refine wp_loop_rounds 4 ?_
    rw [rounds_succ]
    go_wp2_with fail
    rw [rounds_succ]
    go_wp2_with fail
    rw [rounds_succ]
    go_wp2_with fail
    rw [rounds_succ]
    go_wp2_with fail
    go_ret
    exact ⟨rfl, (by repeat' (first | (with_reducible exact up_refl _) | (with_reducible assumption) | (with_reducible refine up_alloc ?_ _) | (with_reducible refine up_drewN ?_ _) | (with_reducible refine up_drew ?_) | (with_reducible refine up_set ?_ (by first | (simp; done) | (simp; omega) | omega) _) | (refine up_trans ?_ (by with_reducible assumption))))⟩
def z3 : List Value := [.int .i64 0, .int .i64 0, .int .i64 0]
theorem atE_cases (ps : List Gs.Sup) (X Y : Int) : (¬ chE ps = 0 ∧ atE ps X Y = chE ps) ∨ (chE ps = 0 ∧ ptE X Y = 3 ∧ atE ps X Y = 3) ∨ (chE ps = 0 ∧ ptE X Y = 0 ∧ atE ps X Y = 0) := by
  unfold atE
  by_cases c : chE ps = 0
  · rw [if_pos c]
    right
    unfold ptE
    split
    · exact .inr ⟨c, rfl, rfl⟩
    · exact .inl ⟨c, rfl, rfl⟩
  · rw [if_neg c]
    exact .inl ⟨c, rfl⟩
end Go.Proofs.Ytepblnnebeglbaa
