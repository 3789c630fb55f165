/- The document's piece and eye: they take what load's isPiece takes. (genrefpiece.py) -/
import Derived.Test.YtdehnokcjnbjoaaGreatPiece
namespace Go.Proofs.YtdehnokcjnbjoaaGreat
open Go.RowKit Go.Proofs.Gn
theorem r_withinL (n a b : Int) (w : World) :
    Calls Tryz.prog 63 #[.int .i64 n, .int .i64 a, .int .i64 b] w fun e w' => e = .returned (.bool (win n a b)) ∧ w = w' := by
  unfold win
  go_enter Tryz.func63, Tryz.ntmps63
  go_wp2
  · go_ret
    have h : a ≤ n := by assumption
    exact ⟨ret_bool (by simp [h]), rfl⟩
  · go_ret
    exact ⟨ret_bool (by simp; omega), rfl⟩
theorem r_withinT {n a b : Int} (h : a ≤ n ∧ n ≤ b) (w : World) :
    Calls Tryz.prog 63 #[.int .i64 n, .int .i64 a, .int .i64 b] w fun e w' => e = .returned (.bool true) ∧ w = w' := by
  have t := r_withinL n a b w
  rwa [(win_iff n a b).2 h] at t
theorem r_withinF {n a b : Int} (h : ¬ (a ≤ n ∧ n ≤ b)) (w : World) :
    Calls Tryz.prog 63 #[.int .i64 n, .int .i64 a, .int .i64 b] w fun e w' => e = .returned (.bool false) ∧ w = w' := by
  have t := r_withinL n a b w
  rwa [(Bool.eq_false_iff.2 fun hw => h ((win_iff n a b).1 hw))] at t
def okPp (p : Pce) : Prop := (-131072 ≤ p.x ∧ p.x ≤ 131072) ∧ (-131072 ≤ p.y ∧ p.y ≤ 131072) ∧ (0 ≤ p.z ∧ p.z ≤ 131072) ∧ 1 ≤ p.l ∧ 1 ≤ p.w ∧ 1 ≤ p.h ∧ p.l ≤ 131072 - p.x ∧ p.w ≤ 131072 - p.y ∧ p.h ≤ 131072 - p.z ∧ (0 ≤ p.m ∧ p.m ≤ 16777216)
theorem okP_iff (p : Pce) : okP p = true ↔ okPp p := by
  unfold okP okPp plcL
  simp only [Bool.and_eq_true, win_iff]
  constructor <;> (intro h; omega)
theorem okP_no {p : Pce} (h : ¬ okPp p) : okP p = false := Bool.eq_false_iff.2 fun t => h ((okP_iff p).1 t)
theorem okP_yes {p : Pce} (h : okPp p) : okP p = true := (okP_iff p).2 h
/-- An eye. -/
structure Eye where
  (x y z s : Int)
abbrev eyV (p : Eye) : Value := .agg #[.int .i64 p.x, .int .i64 p.y, .int .i64 p.z, .int .i64 p.s]
/-- Is an eye valid, alone? -/
def okY (p : Eye) : Bool := plcL p.x p.y p.z && win p.s 0 4194304
def okYp (p : Eye) : Prop := (-131072 ≤ p.x ∧ p.x ≤ 131072) ∧ (-131072 ≤ p.y ∧ p.y ≤ 131072) ∧ (0 ≤ p.z ∧ p.z ≤ 131072) ∧ (0 ≤ p.s ∧ p.s ≤ 4194304)
theorem okY_iff (p : Eye) : okY p = true ↔ okYp p := by
  unfold okY okYp plcL
  simp only [Bool.and_eq_true, win_iff]
  constructor <;> (intro h; omega)
theorem okY_no {p : Eye} (h : ¬ okYp p) : okY p = false := Bool.eq_false_iff.2 fun t => h ((okY_iff p).1 t)
theorem okY_yes {p : Eye} (h : okYp p) : okY p = true := (okY_iff p).2 h
set_option maxRecDepth 100000 in
set_option maxHeartbeats 16000000 in
theorem r_eye (x y z s : Int) (w : World) :
    Calls Tryz.prog 61 #[eyV ⟨x, y, z, s⟩] w fun e w' => e = .returned (.bool (okY ⟨x, y, z, s⟩)) ∧ Up w w' := by
  by_cases s0 : -131072 ≤ x ∧ x ≤ 131072
  rotate_left
  · have F := hide (okY_no (p := ⟨x, y, z, s⟩) (fun h => s0 (by unfold okYp at h; dsimp only at h; omega)))
    have C0 := hide (fun W => r_withinF s0 W)
    clear s0
    go_enter Tryz.func61, Tryz.ntmps61
    go_wp2_with (go_at_call 63; (with_reducible refine (unhide C0 _).mono ?_); rintro e w1 ⟨rfl, rfl⟩)
    go_ret
    exact ⟨by rw [unhide F]; rfl, (by repeat' (first | (with_reducible exact up_refl _) | (with_reducible assumption) | (with_reducible refine up_alloc ?_ _) | (with_reducible refine up_drewN ?_ _) | (with_reducible refine up_drew ?_) | (with_reducible refine up_set ?_ (by first | (simp; done) | (simp; omega) | omega) _) | (refine up_trans ?_ (by with_reducible assumption))))⟩
  have C0 := hide (fun W => r_withinT s0 W)
  have S0 := hide s0
  clear s0
  by_cases s1 : -131072 ≤ y ∧ y ≤ 131072
  rotate_left
  · have F := hide (okY_no (p := ⟨x, y, z, s⟩) (fun h => s1 (by unfold okYp at h; dsimp only at h; omega)))
    have C1 := hide (fun W => r_withinF s1 W)
    clear s1
    go_enter Tryz.func61, Tryz.ntmps61
    go_wp2_with (first | (go_at_call 63; (with_reducible refine (unhide C0 _).mono ?_); rintro e w1 ⟨rfl, rfl⟩) | (go_at_call 63; (with_reducible refine (unhide C1 _).mono ?_); rintro e w1 ⟨rfl, rfl⟩))
    go_ret
    exact ⟨by rw [unhide F]; rfl, (by repeat' (first | (with_reducible exact up_refl _) | (with_reducible assumption) | (with_reducible refine up_alloc ?_ _) | (with_reducible refine up_drewN ?_ _) | (with_reducible refine up_drew ?_) | (with_reducible refine up_set ?_ (by first | (simp; done) | (simp; omega) | omega) _) | (refine up_trans ?_ (by with_reducible assumption))))⟩
  have C1 := hide (fun W => r_withinT s1 W)
  have S1 := hide s1
  clear s1
  by_cases s2 : 0 ≤ z ∧ z ≤ 131072
  rotate_left
  · have F := hide (okY_no (p := ⟨x, y, z, s⟩) (fun h => s2 (by unfold okYp at h; dsimp only at h; omega)))
    have C2 := hide (fun W => r_withinF s2 W)
    clear s2
    go_enter Tryz.func61, Tryz.ntmps61
    go_wp2_with (first | (go_at_call 63; (with_reducible refine (unhide C0 _).mono ?_); rintro e w1 ⟨rfl, rfl⟩) | (go_at_call 63; (with_reducible refine (unhide C1 _).mono ?_); rintro e w1 ⟨rfl, rfl⟩) | (go_at_call 63; (with_reducible refine (unhide C2 _).mono ?_); rintro e w1 ⟨rfl, rfl⟩))
    go_ret
    exact ⟨by rw [unhide F]; rfl, (by repeat' (first | (with_reducible exact up_refl _) | (with_reducible assumption) | (with_reducible refine up_alloc ?_ _) | (with_reducible refine up_drewN ?_ _) | (with_reducible refine up_drew ?_) | (with_reducible refine up_set ?_ (by first | (simp; done) | (simp; omega) | omega) _) | (refine up_trans ?_ (by with_reducible assumption))))⟩
  have C2 := hide (fun W => r_withinT s2 W)
  have S2 := hide s2
  clear s2
  by_cases s3 : 0 ≤ s ∧ s ≤ 4194304
  rotate_left
  · have F := hide (okY_no (p := ⟨x, y, z, s⟩) (fun h => s3 (by unfold okYp at h; dsimp only at h; omega)))
    have C3 := hide (fun W => r_withinF s3 W)
    clear s3
    go_enter Tryz.func61, Tryz.ntmps61
    go_wp2_with (first | (go_at_call 63; (with_reducible refine (unhide C0 _).mono ?_); rintro e w1 ⟨rfl, rfl⟩) | (go_at_call 63; (with_reducible refine (unhide C1 _).mono ?_); rintro e w1 ⟨rfl, rfl⟩) | (go_at_call 63; (with_reducible refine (unhide C2 _).mono ?_); rintro e w1 ⟨rfl, rfl⟩) | (go_at_call 63; (with_reducible refine (unhide C3 _).mono ?_); rintro e w1 ⟨rfl, rfl⟩))
    go_ret
    exact ⟨by rw [unhide F]; rfl, (by repeat' (first | (with_reducible exact up_refl _) | (with_reducible assumption) | (with_reducible refine up_alloc ?_ _) | (with_reducible refine up_drewN ?_ _) | (with_reducible refine up_drew ?_) | (with_reducible refine up_set ?_ (by first | (simp; done) | (simp; omega) | omega) _) | (refine up_trans ?_ (by with_reducible assumption))))⟩
  have C3 := hide (fun W => r_withinT s3 W)
  have S3 := hide s3
  clear s3
  have F := hide (okY_yes (p := ⟨x, y, z, s⟩) (by unfold okYp; dsimp only; exact ⟨unhide S0, unhide S1, unhide S2, unhide S3⟩))
  go_enter Tryz.func61, Tryz.ntmps61
  go_wp2_with (first | (go_at_call 63; (with_reducible refine (unhide C0 _).mono ?_); rintro e w1 ⟨rfl, rfl⟩) | (go_at_call 63; (with_reducible refine (unhide C1 _).mono ?_); rintro e w1 ⟨rfl, rfl⟩) | (go_at_call 63; (with_reducible refine (unhide C2 _).mono ?_); rintro e w1 ⟨rfl, rfl⟩) | (go_at_call 63; (with_reducible refine (unhide C3 _).mono ?_); rintro e w1 ⟨rfl, rfl⟩))
  go_ret
  exact ⟨by rw [unhide F]; rfl, (by repeat' (first | (with_reducible exact up_refl _) | (with_reducible assumption) | (with_reducible refine up_alloc ?_ _) | (with_reducible refine up_drewN ?_ _) | (with_reducible refine up_drew ?_) | (with_reducible refine up_set ?_ (by first | (simp; done) | (simp; omega) | omega) _) | (refine up_trans ?_ (by with_reducible assumption))))⟩
set_option maxRecDepth 100000 in
set_option maxHeartbeats 16000000 in
theorem r_piece (x y z l wd h m : Int) (w : World) :
    Calls Tryz.prog 60 #[pcV ⟨x, y, z, l, wd, h, m⟩] w fun e w' => e = .returned (.bool (okP ⟨x, y, z, l, wd, h, m⟩)) ∧ Up w w' := by
  by_cases s0 : -131072 ≤ x ∧ x ≤ 131072
  rotate_left
  · have F := hide (okP_no (p := ⟨x, y, z, l, wd, h, m⟩) (fun hh => s0 (by unfold okPp at hh; dsimp only at hh; omega)))
    have C0 := hide (fun W => r_withinF s0 W)
    clear s0
    go_enter Tryz.func60, Tryz.ntmps60
    go_wp2_with (go_at_call 63; (with_reducible refine (unhide C0 _).mono ?_); rintro e w1 ⟨rfl, rfl⟩)
    go_ret
    exact ⟨by rw [unhide F]; rfl, (by repeat' (first | (with_reducible exact up_refl _) | (with_reducible assumption) | (with_reducible refine up_alloc ?_ _) | (with_reducible refine up_drewN ?_ _) | (with_reducible refine up_drew ?_) | (with_reducible refine up_set ?_ (by first | (simp; done) | (simp; omega) | omega) _) | (refine up_trans ?_ (by with_reducible assumption))))⟩
  have C0 := hide (fun W => r_withinT s0 W)
  have hw0 : IntKind.i64.wrap (131072 - x) = 131072 - x := IntWalk.i64_in _ ⟨by omega, by omega⟩
  have S0 := hide s0
  clear s0
  by_cases s1 : -131072 ≤ y ∧ y ≤ 131072
  rotate_left
  · have F := hide (okP_no (p := ⟨x, y, z, l, wd, h, m⟩) (fun hh => s1 (by unfold okPp at hh; dsimp only at hh; omega)))
    have C1 := hide (fun W => r_withinF s1 W)
    clear s1
    go_enter Tryz.func60, Tryz.ntmps60
    go_wp2_with (first | (go_at_call 63; (with_reducible refine (unhide C0 _).mono ?_); rintro e w1 ⟨rfl, rfl⟩) | (go_at_call 63; (with_reducible refine (unhide C1 _).mono ?_); rintro e w1 ⟨rfl, rfl⟩))
    go_ret
    exact ⟨by rw [unhide F]; rfl, (by repeat' (first | (with_reducible exact up_refl _) | (with_reducible assumption) | (with_reducible refine up_alloc ?_ _) | (with_reducible refine up_drewN ?_ _) | (with_reducible refine up_drew ?_) | (with_reducible refine up_set ?_ (by first | (simp; done) | (simp; omega) | omega) _) | (refine up_trans ?_ (by with_reducible assumption))))⟩
  have C1 := hide (fun W => r_withinT s1 W)
  have hw1 : IntKind.i64.wrap (131072 - y) = 131072 - y := IntWalk.i64_in _ ⟨by omega, by omega⟩
  have S1 := hide s1
  clear s1
  by_cases s2 : 0 ≤ z ∧ z ≤ 131072
  rotate_left
  · have F := hide (okP_no (p := ⟨x, y, z, l, wd, h, m⟩) (fun hh => s2 (by unfold okPp at hh; dsimp only at hh; omega)))
    have C2 := hide (fun W => r_withinF s2 W)
    clear s2
    go_enter Tryz.func60, Tryz.ntmps60
    go_wp2_with (first | (go_at_call 63; (with_reducible refine (unhide C0 _).mono ?_); rintro e w1 ⟨rfl, rfl⟩) | (go_at_call 63; (with_reducible refine (unhide C1 _).mono ?_); rintro e w1 ⟨rfl, rfl⟩) | (go_at_call 63; (with_reducible refine (unhide C2 _).mono ?_); rintro e w1 ⟨rfl, rfl⟩))
    go_ret
    exact ⟨by rw [unhide F]; rfl, (by repeat' (first | (with_reducible exact up_refl _) | (with_reducible assumption) | (with_reducible refine up_alloc ?_ _) | (with_reducible refine up_drewN ?_ _) | (with_reducible refine up_drew ?_) | (with_reducible refine up_set ?_ (by first | (simp; done) | (simp; omega) | omega) _) | (refine up_trans ?_ (by with_reducible assumption))))⟩
  have C2 := hide (fun W => r_withinT s2 W)
  have hw2 : IntKind.i64.wrap (131072 - z) = 131072 - z := IntWalk.i64_in _ ⟨by omega, by omega⟩
  have S2 := hide s2
  clear s2
  by_cases s3 : 1 ≤ l
  rotate_left
  · have F := hide (okP_no (p := ⟨x, y, z, l, wd, h, m⟩) (fun hh => s3 (by unfold okPp at hh; dsimp only at hh; omega)))
    go_enter Tryz.func60, Tryz.ntmps60
    go_wp2_with (first | (go_at_call 63; (with_reducible refine (unhide C0 _).mono ?_); rintro e w1 ⟨rfl, rfl⟩) | (go_at_call 63; (with_reducible refine (unhide C1 _).mono ?_); rintro e w1 ⟨rfl, rfl⟩) | (go_at_call 63; (with_reducible refine (unhide C2 _).mono ?_); rintro e w1 ⟨rfl, rfl⟩))
    go_ret
    exact ⟨by rw [unhide F]; rfl, (by repeat' (first | (with_reducible exact up_refl _) | (with_reducible assumption) | (with_reducible refine up_alloc ?_ _) | (with_reducible refine up_drewN ?_ _) | (with_reducible refine up_drew ?_) | (with_reducible refine up_set ?_ (by first | (simp; done) | (simp; omega) | omega) _) | (refine up_trans ?_ (by with_reducible assumption))))⟩
  by_cases s4 : 1 ≤ wd
  rotate_left
  · have F := hide (okP_no (p := ⟨x, y, z, l, wd, h, m⟩) (fun hh => s4 (by unfold okPp at hh; dsimp only at hh; omega)))
    go_enter Tryz.func60, Tryz.ntmps60
    go_wp2_with (first | (go_at_call 63; (with_reducible refine (unhide C0 _).mono ?_); rintro e w1 ⟨rfl, rfl⟩) | (go_at_call 63; (with_reducible refine (unhide C1 _).mono ?_); rintro e w1 ⟨rfl, rfl⟩) | (go_at_call 63; (with_reducible refine (unhide C2 _).mono ?_); rintro e w1 ⟨rfl, rfl⟩))
    go_ret
    exact ⟨by rw [unhide F]; rfl, (by repeat' (first | (with_reducible exact up_refl _) | (with_reducible assumption) | (with_reducible refine up_alloc ?_ _) | (with_reducible refine up_drewN ?_ _) | (with_reducible refine up_drew ?_) | (with_reducible refine up_set ?_ (by first | (simp; done) | (simp; omega) | omega) _) | (refine up_trans ?_ (by with_reducible assumption))))⟩
  by_cases s5 : 1 ≤ h
  rotate_left
  · have F := hide (okP_no (p := ⟨x, y, z, l, wd, h, m⟩) (fun hh => s5 (by unfold okPp at hh; dsimp only at hh; omega)))
    go_enter Tryz.func60, Tryz.ntmps60
    go_wp2_with (first | (go_at_call 63; (with_reducible refine (unhide C0 _).mono ?_); rintro e w1 ⟨rfl, rfl⟩) | (go_at_call 63; (with_reducible refine (unhide C1 _).mono ?_); rintro e w1 ⟨rfl, rfl⟩) | (go_at_call 63; (with_reducible refine (unhide C2 _).mono ?_); rintro e w1 ⟨rfl, rfl⟩))
    go_ret
    exact ⟨by rw [unhide F]; rfl, (by repeat' (first | (with_reducible exact up_refl _) | (with_reducible assumption) | (with_reducible refine up_alloc ?_ _) | (with_reducible refine up_drewN ?_ _) | (with_reducible refine up_drew ?_) | (with_reducible refine up_set ?_ (by first | (simp; done) | (simp; omega) | omega) _) | (refine up_trans ?_ (by with_reducible assumption))))⟩
  by_cases s6 : l ≤ 131072 - x
  rotate_left
  · have F := hide (okP_no (p := ⟨x, y, z, l, wd, h, m⟩) (fun hh => s6 (by unfold okPp at hh; dsimp only at hh; omega)))
    go_enter Tryz.func60, Tryz.ntmps60
    go_wp2_with (first | (go_at_call 63; (with_reducible refine (unhide C0 _).mono ?_); rintro e w1 ⟨rfl, rfl⟩) | (go_at_call 63; (with_reducible refine (unhide C1 _).mono ?_); rintro e w1 ⟨rfl, rfl⟩) | (go_at_call 63; (with_reducible refine (unhide C2 _).mono ?_); rintro e w1 ⟨rfl, rfl⟩))
    go_ret
    exact ⟨by rw [unhide F]; rfl, (by repeat' (first | (with_reducible exact up_refl _) | (with_reducible assumption) | (with_reducible refine up_alloc ?_ _) | (with_reducible refine up_drewN ?_ _) | (with_reducible refine up_drew ?_) | (with_reducible refine up_set ?_ (by first | (simp; done) | (simp; omega) | omega) _) | (refine up_trans ?_ (by with_reducible assumption))))⟩
  by_cases s7 : wd ≤ 131072 - y
  rotate_left
  · have F := hide (okP_no (p := ⟨x, y, z, l, wd, h, m⟩) (fun hh => s7 (by unfold okPp at hh; dsimp only at hh; omega)))
    go_enter Tryz.func60, Tryz.ntmps60
    go_wp2_with (first | (go_at_call 63; (with_reducible refine (unhide C0 _).mono ?_); rintro e w1 ⟨rfl, rfl⟩) | (go_at_call 63; (with_reducible refine (unhide C1 _).mono ?_); rintro e w1 ⟨rfl, rfl⟩) | (go_at_call 63; (with_reducible refine (unhide C2 _).mono ?_); rintro e w1 ⟨rfl, rfl⟩))
    go_ret
    exact ⟨by rw [unhide F]; rfl, (by repeat' (first | (with_reducible exact up_refl _) | (with_reducible assumption) | (with_reducible refine up_alloc ?_ _) | (with_reducible refine up_drewN ?_ _) | (with_reducible refine up_drew ?_) | (with_reducible refine up_set ?_ (by first | (simp; done) | (simp; omega) | omega) _) | (refine up_trans ?_ (by with_reducible assumption))))⟩
  by_cases s8 : h ≤ 131072 - z
  rotate_left
  · have F := hide (okP_no (p := ⟨x, y, z, l, wd, h, m⟩) (fun hh => s8 (by unfold okPp at hh; dsimp only at hh; omega)))
    go_enter Tryz.func60, Tryz.ntmps60
    go_wp2_with (first | (go_at_call 63; (with_reducible refine (unhide C0 _).mono ?_); rintro e w1 ⟨rfl, rfl⟩) | (go_at_call 63; (with_reducible refine (unhide C1 _).mono ?_); rintro e w1 ⟨rfl, rfl⟩) | (go_at_call 63; (with_reducible refine (unhide C2 _).mono ?_); rintro e w1 ⟨rfl, rfl⟩))
    go_ret
    exact ⟨by rw [unhide F]; rfl, (by repeat' (first | (with_reducible exact up_refl _) | (with_reducible assumption) | (with_reducible refine up_alloc ?_ _) | (with_reducible refine up_drewN ?_ _) | (with_reducible refine up_drew ?_) | (with_reducible refine up_set ?_ (by first | (simp; done) | (simp; omega) | omega) _) | (refine up_trans ?_ (by with_reducible assumption))))⟩
  by_cases s9 : 0 ≤ m ∧ m ≤ 16777216
  rotate_left
  · have F := hide (okP_no (p := ⟨x, y, z, l, wd, h, m⟩) (fun hh => s9 (by unfold okPp at hh; dsimp only at hh; omega)))
    have C9 := hide (fun W => r_withinF s9 W)
    clear s9
    go_enter Tryz.func60, Tryz.ntmps60
    go_wp2_with (first | (go_at_call 63; (with_reducible refine (unhide C0 _).mono ?_); rintro e w1 ⟨rfl, rfl⟩) | (go_at_call 63; (with_reducible refine (unhide C1 _).mono ?_); rintro e w1 ⟨rfl, rfl⟩) | (go_at_call 63; (with_reducible refine (unhide C2 _).mono ?_); rintro e w1 ⟨rfl, rfl⟩) | (go_at_call 63; (with_reducible refine (unhide C9 _).mono ?_); rintro e w1 ⟨rfl, rfl⟩))
    go_ret
    exact ⟨by rw [unhide F]; rfl, (by repeat' (first | (with_reducible exact up_refl _) | (with_reducible assumption) | (with_reducible refine up_alloc ?_ _) | (with_reducible refine up_drewN ?_ _) | (with_reducible refine up_drew ?_) | (with_reducible refine up_set ?_ (by first | (simp; done) | (simp; omega) | omega) _) | (refine up_trans ?_ (by with_reducible assumption))))⟩
  have C9 := hide (fun W => r_withinT s9 W)
  have S9 := hide s9
  clear s9
  have F := hide (okP_yes (p := ⟨x, y, z, l, wd, h, m⟩) (by unfold okPp; dsimp only; exact ⟨unhide S0, unhide S1, unhide S2, s3, s4, s5, s6, s7, s8, unhide S9⟩))
  go_enter Tryz.func60, Tryz.ntmps60
  go_wp2_with (first | (go_at_call 63; (with_reducible refine (unhide C0 _).mono ?_); rintro e w1 ⟨rfl, rfl⟩) | (go_at_call 63; (with_reducible refine (unhide C1 _).mono ?_); rintro e w1 ⟨rfl, rfl⟩) | (go_at_call 63; (with_reducible refine (unhide C2 _).mono ?_); rintro e w1 ⟨rfl, rfl⟩) | (go_at_call 63; (with_reducible refine (unhide C9 _).mono ?_); rintro e w1 ⟨rfl, rfl⟩))
  go_ret
  exact ⟨by rw [unhide F]; rfl, (by repeat' (first | (with_reducible exact up_refl _) | (with_reducible assumption) | (with_reducible refine up_alloc ?_ _) | (with_reducible refine up_drewN ?_ _) | (with_reducible refine up_drew ?_) | (with_reducible refine up_set ?_ (by first | (simp; done) | (simp; omega) | omega) _) | (refine up_trans ?_ (by with_reducible assumption))))⟩
end Go.Proofs.YtdehnokcjnbjoaaGreat
