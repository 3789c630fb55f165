/- The foot of a centre, for all words. -/
import Derived.Test.YtooochbfnmmnkaaGreatKnown
namespace Go.Proofs.YtooochbfnmmnkaaGreat
open Go.RowKit Go.Proofs.Gn
theorem p_nearS (n d : Int) (w : World) : Calls Tryz.prog 63 #[.int .i64 n, .int .i64 d] w fun e w' => e = .returned (.int .i64 (neV n d)) ∧ w = w' := by
  have H := hide (fun W => p_Nearest n d W)
  generalize neV n d = V at *
  generalize quE n d = E at *
  go_enter Tryz.func63, Tryz.ntmps63
  go_wp2_with (go_at_call 26; (with_reducible refine (unhide H _).mono ?_); rintro e w1 ⟨rfl, rfl⟩)
  go_ret
  exact ⟨rfl, rfl⟩
theorem ne_bd {n d : Int} (h : -137438953472 ≤ n ∧ n ≤ 137438953472) : -137438953472 ≤ neV n d ∧ neV n d ≤ 137438953472 := by
  unfold neV
  cases hq : inQ n d
  · simp
  · obtain ⟨b1, b2, b3, b4⟩ := inQ_bd hq
    have t := near_bd (n := n) (d := d) (by omega)
    simp only [if_true]
    by_cases c : 0 ≤ n
    · have := t.1 c; omega
    · have := t.2 (by omega); omega
theorem ne_th {n : Int} {m : Int} (hm : 0 ≤ m ∧ m ≤ 262144) (h : -(1000 * m) ≤ n ∧ n ≤ 1000 * m) : -m ≤ neV n 1000 ∧ neV n 1000 ≤ m := by
  unfold neV
  split
  · unfold near; omega
  · omega
theorem p_upTo (x y m : Int) (hm : 0 ≤ m ∧ m ≤ 1048576) (w : World) : Calls Tryz.prog 62 #[pt x y, .int .i64 m] w fun e w' => e = .returned (.bool (win x (-m) m && win y (-m) m)) ∧ Up w w' := by
  have H1 : ∀ W : World, Calls Tryz.prog 37 #[.int .i64 x, .int .i64 (-m), .int .i64 m] W fun e w' => e = .returned (.bool (win x (-m) m)) ∧ W = w' := fun W => p_within _ _ _ W
  have H2 : ∀ W : World, Calls Tryz.prog 37 #[.int .i64 y, .int .i64 (-m), .int .i64 m] W fun e w' => e = .returned (.bool (win y (-m) m)) ∧ W = w' := fun W => p_within _ _ _ W
  generalize win x (-m) m = b1 at *
  generalize win y (-m) m = b2 at *
  have h1 := hide H1
  have h2 := hide H2
  clear H1 H2
  obtain ⟨m1, m2⟩ := hm
  cases b1
  · go_enter Tryz.func62, Tryz.ntmps62
    go_wp2_with (first | (go_at_call 37; (with_reducible refine (unhide h1 _).mono ?_); rintro e w1 ⟨rfl, rfl⟩) | (go_at_call 37; (with_reducible refine (unhide h2 _).mono ?_); rintro e w1 ⟨rfl, rfl⟩))
    go_ret
    exact ⟨rfl, (by repeat' (first | (with_reducible exact up_refl _) | (with_reducible assumption) | (with_reducible refine up_alloc ?_ _) | (with_reducible refine up_drewN ?_ _) | (with_reducible refine up_drew ?_) | (with_reducible refine up_set ?_ (by first | (simp; done) | (simp; omega) | omega) _) | (refine up_trans ?_ (by with_reducible assumption))))⟩
  · go_enter Tryz.func62, Tryz.ntmps62
    go_wp2_with (first | (go_at_call 37; (with_reducible refine (unhide h1 _).mono ?_); rintro e w1 ⟨rfl, rfl⟩) | (go_at_call 37; (with_reducible refine (unhide h2 _).mono ?_); rintro e w1 ⟨rfl, rfl⟩))
    go_ret
    exact ⟨rfl, (by repeat' (first | (with_reducible exact up_refl _) | (with_reducible assumption) | (with_reducible refine up_alloc ?_ _) | (with_reducible refine up_drewN ?_ _) | (with_reducible refine up_drew ?_) | (with_reducible refine up_set ?_ (by first | (simp; done) | (simp; omega) | omega) _) | (refine up_trans ?_ (by with_reducible assumption))))⟩
/-! ### The errors -/
def slB (x y m : Int) : Bool := win x (-m) m && win y (-m) m
def ceB (a b c : Int) : Bool := win a (-131072) 131072 && (win b (-131072) 131072 && win c (-131072) 131072)
def ceE (a b c : Int) : Int := if ceB a b c then 0 else 3
def lnB (a b c sx sy ax ay : Int) : Bool := ceB a b c && (slB sx sy 1000 && slB ax ay 1000)
def lnE (a b c sx sy ax ay : Int) : Int := if lnB a b c sx sy ax ay then 0 else 3
theorem p_checkCentre (a b c : Int) (w : World) : Calls Tryz.prog 61 #[.agg #[.int .i64 a, .int .i64 b, .int .i64 c]] w fun e w' => e = .returned (.int .i64 (ceE a b c)) ∧ Up w w' := by
  have H1 : ∀ W : World, Calls Tryz.prog 37 #[.int .i64 a, .int .i64 (-131072), .int .i64 131072] W fun e w' => e = .returned (.bool (win a (-131072) 131072)) ∧ W = w' := fun W => p_within _ _ _ W
  have H2 : ∀ W : World, Calls Tryz.prog 37 #[.int .i64 b, .int .i64 (-131072), .int .i64 131072] W fun e w' => e = .returned (.bool (win b (-131072) 131072)) ∧ W = w' := fun W => p_within _ _ _ W
  have H3 : ∀ W : World, Calls Tryz.prog 37 #[.int .i64 c, .int .i64 (-131072), .int .i64 131072] W fun e w' => e = .returned (.bool (win c (-131072) 131072)) ∧ W = w' := fun W => p_within _ _ _ W
  unfold ceE ceB
  generalize win a (-131072) 131072 = b1 at *
  generalize win b (-131072) 131072 = b2 at *
  generalize win c (-131072) 131072 = b3 at *
  have h1 := hide H1
  have h2 := hide H2
  have h3 := hide H3
  clear H1 H2 H3
  cases b1
  · show Calls Tryz.prog 61 #[.agg #[.int .i64 a, .int .i64 b, .int .i64 c]] w fun e w' => e = .returned (.int .i64 3) ∧ Up w w'
    go_enter Tryz.func61, Tryz.ntmps61
    go_wp2_with fail
    refine wp_loop_rounds 4 ?_
    rw [rounds_succ]
    go_wp2_with (go_at_call 37; (with_reducible refine (unhide h1 _).mono ?_); rintro e w1 ⟨rfl, rfl⟩)
    go_ret
    exact ⟨rfl, (by repeat' (first | (with_reducible exact up_refl _) | (with_reducible assumption) | (with_reducible refine up_alloc ?_ _) | (with_reducible refine up_drewN ?_ _) | (with_reducible refine up_drew ?_) | (with_reducible refine up_set ?_ (by first | (simp; done) | (simp; omega) | omega) _) | (refine up_trans ?_ (by with_reducible assumption))))⟩
  cases b2
  · show Calls Tryz.prog 61 #[.agg #[.int .i64 a, .int .i64 b, .int .i64 c]] w fun e w' => e = .returned (.int .i64 3) ∧ Up w w'
    go_enter Tryz.func61, Tryz.ntmps61
    go_wp2_with fail
    refine wp_loop_rounds 4 ?_
    rw [rounds_succ]
    go_wp2_with (go_at_call 37; (with_reducible refine (unhide h1 _).mono ?_); rintro e w1 ⟨rfl, rfl⟩)
    rw [rounds_succ]
    go_wp2_with (go_at_call 37; (with_reducible refine (unhide h2 _).mono ?_); rintro e w1 ⟨rfl, rfl⟩)
    go_ret
    exact ⟨rfl, (by repeat' (first | (with_reducible exact up_refl _) | (with_reducible assumption) | (with_reducible refine up_alloc ?_ _) | (with_reducible refine up_drewN ?_ _) | (with_reducible refine up_drew ?_) | (with_reducible refine up_set ?_ (by first | (simp; done) | (simp; omega) | omega) _) | (refine up_trans ?_ (by with_reducible assumption))))⟩
  cases b3
  · show Calls Tryz.prog 61 #[.agg #[.int .i64 a, .int .i64 b, .int .i64 c]] w fun e w' => e = .returned (.int .i64 3) ∧ Up w w'
    go_enter Tryz.func61, Tryz.ntmps61
    go_wp2_with fail
    refine wp_loop_rounds 4 ?_
    rw [rounds_succ]
    go_wp2_with (go_at_call 37; (with_reducible refine (unhide h1 _).mono ?_); rintro e w1 ⟨rfl, rfl⟩)
    rw [rounds_succ]
    go_wp2_with (go_at_call 37; (with_reducible refine (unhide h2 _).mono ?_); rintro e w1 ⟨rfl, rfl⟩)
    rw [rounds_succ]
    go_wp2_with (go_at_call 37; (with_reducible refine (unhide h3 _).mono ?_); rintro e w1 ⟨rfl, rfl⟩)
    go_ret
    exact ⟨rfl, (by repeat' (first | (with_reducible exact up_refl _) | (with_reducible assumption) | (with_reducible refine up_alloc ?_ _) | (with_reducible refine up_drewN ?_ _) | (with_reducible refine up_drew ?_) | (with_reducible refine up_set ?_ (by first | (simp; done) | (simp; omega) | omega) _) | (refine up_trans ?_ (by with_reducible assumption))))⟩
  · show Calls Tryz.prog 61 #[.agg #[.int .i64 a, .int .i64 b, .int .i64 c]] w fun e w' => e = .returned (.int .i64 0) ∧ Up w w'
    go_enter Tryz.func61, Tryz.ntmps61
    go_wp2_with fail
    refine wp_loop_rounds 4 ?_
    rw [rounds_succ]
    go_wp2_with (go_at_call 37; (with_reducible refine (unhide h1 _).mono ?_); rintro e w1 ⟨rfl, rfl⟩)
    rw [rounds_succ]
    go_wp2_with (go_at_call 37; (with_reducible refine (unhide h2 _).mono ?_); rintro e w1 ⟨rfl, rfl⟩)
    rw [rounds_succ]
    go_wp2_with (go_at_call 37; (with_reducible refine (unhide h3 _).mono ?_); rintro e w1 ⟨rfl, rfl⟩)
    rw [rounds_succ]
    go_wp2_with fail
    go_ret
    exact ⟨rfl, (by repeat' (first | (with_reducible exact up_refl _) | (with_reducible assumption) | (with_reducible refine up_alloc ?_ _) | (with_reducible refine up_drewN ?_ _) | (with_reducible refine up_drew ?_) | (with_reducible refine up_set ?_ (by first | (simp; done) | (simp; omega) | omega) _) | (refine up_trans ?_ (by with_reducible assumption))))⟩
theorem p_checkLeaning (c0 c1 c2 sx sy ax ay : Int) (w : World) : Calls Tryz.prog 35 #[.agg #[.int .i64 c0, .int .i64 c1, .int .i64 c2], pt sx sy, pt ax ay] w fun e w' => e = .returned (.int .i64 (lnE c0 c1 c2 sx sy ax ay)) ∧ Up w w' := by
  have hC := hide (fun W => p_checkCentre c0 c1 c2 W)
  have H1 : ∀ W : World, Calls Tryz.prog 62 #[pt sx sy, .int .i64 1000] W fun e w' => e = .returned (.bool (slB sx sy 1000)) ∧ Up W w' := fun W => p_upTo sx sy 1000 (by omega) W
  have H2 : ∀ W : World, Calls Tryz.prog 62 #[pt ax ay, .int .i64 1000] W fun e w' => e = .returned (.bool (slB ax ay 1000)) ∧ Up W w' := fun W => p_upTo ax ay 1000 (by omega) W
  unfold lnE lnB
  unfold ceE at hC
  generalize ceB c0 c1 c2 = b0 at *
  generalize slB sx sy 1000 = b1 at *
  generalize slB ax ay 1000 = b2 at *
  have h1 := hide H1
  have h2 := hide H2
  clear H1 H2
  cases b0
  · simp only [Bool.false_and, Bool.false_eq_true, if_false] at hC ⊢
    go_enter Tryz.func35, Tryz.ntmps35
    go_wp2_with (go_at_call 61; (with_reducible refine (unhide hC _).mono ?_); rintro e w1 ⟨rfl, hb1⟩)
    go_ret
    exact ⟨rfl, (by repeat' (first | (with_reducible exact up_refl _) | (with_reducible assumption) | (with_reducible refine up_alloc ?_ _) | (with_reducible refine up_drewN ?_ _) | (with_reducible refine up_drew ?_) | (with_reducible refine up_set ?_ (by first | (simp; done) | (simp; omega) | omega) _) | (refine up_trans ?_ (by with_reducible assumption))))⟩
  simp only [Bool.true_and, if_true] at hC ⊢
  cases b1
  · simp only [Bool.false_and, Bool.false_eq_true, if_false] at ⊢
    go_enter Tryz.func35, Tryz.ntmps35
    go_wp2_with (first | (go_at_call 61; (with_reducible refine (unhide hC _).mono ?_); rintro e w1 ⟨rfl, hb1⟩; have k1_0 : w1.cell? ⟨w.heap.size + 1, 0, none⟩ = some (.int .i64 sx) := up_cell hb1 (by first | (with_reducible assumption) | (refine alloc_cell _ ?_; with_reducible assumption) | go_cell); have k1_1 : w1.cell? ⟨w.heap.size + 1, 1, none⟩ = some (.int .i64 sy) := up_cell hb1 (by first | (with_reducible assumption) | (refine alloc_cell _ ?_; with_reducible assumption) | go_cell); have k2_0 : w1.cell? ⟨w.heap.size + 1 + 1, 0, none⟩ = some (.int .i64 ax) := up_cell hb1 (by first | (with_reducible assumption) | (refine alloc_cell _ ?_; with_reducible assumption) | go_cell); have k2_1 : w1.cell? ⟨w.heap.size + 1 + 1, 1, none⟩ = some (.int .i64 ay) := up_cell hb1 (by first | (with_reducible assumption) | (refine alloc_cell _ ?_; with_reducible assumption) | go_cell)) | (go_at_call 62; (with_reducible refine (unhide h1 _).mono ?_); rintro e w2 ⟨rfl, hb2⟩; have z0 := up_cell hb2 k2_0; have z1 := up_cell hb2 k2_1))
    go_ret
    exact ⟨rfl, (by repeat' (first | (with_reducible exact up_refl _) | (with_reducible assumption) | (with_reducible refine up_alloc ?_ _) | (with_reducible refine up_drewN ?_ _) | (with_reducible refine up_drew ?_) | (with_reducible refine up_set ?_ (by first | (simp; done) | (simp; omega) | omega) _) | (refine up_trans ?_ (by with_reducible assumption))))⟩
  simp only [Bool.true_and] at ⊢
  cases b2
  · simp only [Bool.false_eq_true, if_false] at ⊢
    go_enter Tryz.func35, Tryz.ntmps35
    go_wp2_with (first | (go_at_call 61; (with_reducible refine (unhide hC _).mono ?_); rintro e w1 ⟨rfl, hb1⟩; have k1_0 : w1.cell? ⟨w.heap.size + 1, 0, none⟩ = some (.int .i64 sx) := up_cell hb1 (by first | (with_reducible assumption) | (refine alloc_cell _ ?_; with_reducible assumption) | go_cell); have k1_1 : w1.cell? ⟨w.heap.size + 1, 1, none⟩ = some (.int .i64 sy) := up_cell hb1 (by first | (with_reducible assumption) | (refine alloc_cell _ ?_; with_reducible assumption) | go_cell); have k2_0 : w1.cell? ⟨w.heap.size + 1 + 1, 0, none⟩ = some (.int .i64 ax) := up_cell hb1 (by first | (with_reducible assumption) | (refine alloc_cell _ ?_; with_reducible assumption) | go_cell); have k2_1 : w1.cell? ⟨w.heap.size + 1 + 1, 1, none⟩ = some (.int .i64 ay) := up_cell hb1 (by first | (with_reducible assumption) | (refine alloc_cell _ ?_; with_reducible assumption) | go_cell)) | (go_at_call 62; (with_reducible refine (unhide h1 _).mono ?_); rintro e w2 ⟨rfl, hb2⟩; have z0 := up_cell hb2 k2_0; have z1 := up_cell hb2 k2_1) | (go_at_call 62; (with_reducible refine (unhide h2 _).mono ?_); rintro e w3 ⟨rfl, hb3⟩))
    go_ret
    exact ⟨rfl, (by repeat' (first | (with_reducible exact up_refl _) | (with_reducible assumption) | (with_reducible refine up_alloc ?_ _) | (with_reducible refine up_drewN ?_ _) | (with_reducible refine up_drew ?_) | (with_reducible refine up_set ?_ (by first | (simp; done) | (simp; omega) | omega) _) | (refine up_trans ?_ (by with_reducible assumption))))⟩
  · simp only [if_true] at ⊢
    go_enter Tryz.func35, Tryz.ntmps35
    go_wp2_with (first | (go_at_call 61; (with_reducible refine (unhide hC _).mono ?_); rintro e w1 ⟨rfl, hb1⟩; have k1_0 : w1.cell? ⟨w.heap.size + 1, 0, none⟩ = some (.int .i64 sx) := up_cell hb1 (by first | (with_reducible assumption) | (refine alloc_cell _ ?_; with_reducible assumption) | go_cell); have k1_1 : w1.cell? ⟨w.heap.size + 1, 1, none⟩ = some (.int .i64 sy) := up_cell hb1 (by first | (with_reducible assumption) | (refine alloc_cell _ ?_; with_reducible assumption) | go_cell); have k2_0 : w1.cell? ⟨w.heap.size + 1 + 1, 0, none⟩ = some (.int .i64 ax) := up_cell hb1 (by first | (with_reducible assumption) | (refine alloc_cell _ ?_; with_reducible assumption) | go_cell); have k2_1 : w1.cell? ⟨w.heap.size + 1 + 1, 1, none⟩ = some (.int .i64 ay) := up_cell hb1 (by first | (with_reducible assumption) | (refine alloc_cell _ ?_; with_reducible assumption) | go_cell)) | (go_at_call 62; (with_reducible refine (unhide h1 _).mono ?_); rintro e w2 ⟨rfl, hb2⟩; have z0 := up_cell hb2 k2_0; have z1 := up_cell hb2 k2_1) | (go_at_call 62; (with_reducible refine (unhide h2 _).mono ?_); rintro e w3 ⟨rfl, hb3⟩))
    go_ret
    exact ⟨rfl, (by repeat' (first | (with_reducible exact up_refl _) | (with_reducible assumption) | (with_reducible refine up_alloc ?_ _) | (with_reducible refine up_drewN ?_ _) | (with_reducible refine up_drew ?_) | (with_reducible refine up_set ?_ (by first | (simp; done) | (simp; omega) | omega) _) | (refine up_trans ?_ (by with_reducible assumption))))⟩
/-! ### The foot -/
def ft (c h s a : Int) : Int := c + neV (h * (s + a)) 1000
theorem lnB_bd {c0 c1 c2 sx sy ax ay : Int} (h : lnB c0 c1 c2 sx sy ax ay = true) : ((-131072 ≤ c0 ∧ c0 ≤ 131072) ∧ (-131072 ≤ c1 ∧ c1 ≤ 131072) ∧ (-131072 ≤ c2 ∧ c2 ≤ 131072)) ∧ ((-1000 ≤ sx ∧ sx ≤ 1000) ∧ (-1000 ≤ sy ∧ sy ≤ 1000)) ∧ (-1000 ≤ ax ∧ ax ≤ 1000) ∧ (-1000 ≤ ay ∧ ay ≤ 1000) := by
  unfold lnB ceB slB at h
  simp only [Bool.and_eq_true, win_iff] at h
  omega
theorem ft_bd {c h s a : Int} (hc : -131072 ≤ c ∧ c ≤ 131072) (hh : -131072 ≤ h ∧ h ≤ 131072) (hs : -1000 ≤ s ∧ s ≤ 1000) (ha : -1000 ≤ a ∧ a ≤ 1000) :
    (-262144000 ≤ h * (s + a) ∧ h * (s + a) ≤ 262144000) ∧ (-262144 ≤ neV (h * (s + a)) 1000 ∧ neV (h * (s + a)) 1000 ≤ 262144) ∧ -393216 ≤ ft c h s a ∧ ft c h s a ≤ 393216 := by
  have p := Gs.mb (u := h) (v := s + a) (U := 131072) (V := 2000) (by omega) (by omega) (by omega) (by omega)
  have q := ne_th (n := h * (s + a)) (m := 262144) (by omega) (by omega)
  unfold ft
  omega
set_option maxHeartbeats 4000000 in
theorem p_foot {c0 c1 c2 sx sy ax ay : Int} (hb : lnB c0 c1 c2 sx sy ax ay = true) (w : World) : Calls Tryz.prog 36 #[.agg #[.int .i64 c0, .int .i64 c1, .int .i64 c2], pt sx sy, pt ax ay] w fun e w' => e = .returned (pt (ft c0 c2 sx ax) (ft c1 c2 sy ay)) ∧ Up w w' := by
  obtain ⟨⟨g0, g1, g2⟩, ⟨s1, s2⟩, a1, a2⟩ := lnB_bd hb
  obtain ⟨⟨b1, b2⟩, ⟨b3, b4⟩, b5, b6⟩ := ft_bd g0 g2 s1 a1
  obtain ⟨⟨d1, d2⟩, ⟨d3, d4⟩, d5, d6⟩ := ft_bd g1 g2 s2 a2
  have H1 : ∀ W : World, Calls Tryz.prog 63 #[.int .i64 (c2 * (sx + ax)), .int .i64 1000] W fun e w' => e = .returned (.int .i64 (neV (c2 * (sx + ax)) 1000)) ∧ W = w' := fun W => p_nearS _ 1000 W
  have H2 : ∀ W : World, Calls Tryz.prog 63 #[.int .i64 (c2 * (sy + ay)), .int .i64 1000] W fun e w' => e = .returned (.int .i64 (neV (c2 * (sy + ay)) 1000)) ∧ W = w' := fun W => p_nearS _ 1000 W
  have e1 : IntKind.i64.wrap (sx + ax) = sx + ax := IntWalk.i64_in _ ⟨by omega, by omega⟩
  have e2 : IntKind.i64.wrap (sy + ay) = sy + ay := IntWalk.i64_in _ ⟨by omega, by omega⟩
  have e3 : IntKind.i64.wrap (c2 * (sx + ax)) = c2 * (sx + ax) := IntWalk.i64_in _ ⟨by omega, by omega⟩
  have e4 : IntKind.i64.wrap (c2 * (sy + ay)) = c2 * (sy + ay) := IntWalk.i64_in _ ⟨by omega, by omega⟩
  have e5 : IntKind.i64.wrap (c0 + neV (c2 * (sx + ax)) 1000) = ft c0 c2 sx ax := IntWalk.i64_in _ ⟨by omega, by omega⟩
  have e6 : IntKind.i64.wrap (c1 + neV (c2 * (sy + ay)) 1000) = ft c1 c2 sy ay := IntWalk.i64_in _ ⟨by omega, by omega⟩
  clear b1 b2 b3 b4 b5 b6 d1 d2 d3 d4 d5 d6 hb g0 g1 g2 s1 s2 a1 a2
  generalize ft c0 c2 sx ax = ox at *
  generalize ft c1 c2 sy ay = oy at *
  generalize neV (c2 * (sx + ax)) 1000 = fk at *
  generalize neV (c2 * (sy + ay)) 1000 = fl at *
  obtain ⟨nx, hnx⟩ : ∃ n, c2 * (sx + ax) = n := ⟨_, rfl⟩
  obtain ⟨ny, hny⟩ : ∃ n, c2 * (sy + ay) = n := ⟨_, rfl⟩
  rw [hnx] at H1 e3
  rw [hny] at H2 e4
  have e7 : IntKind.i64.wrap (c2 * (sx + ax)) = nx := by rw [hnx]; exact e3
  have e8 : IntKind.i64.wrap (c2 * (sy + ay)) = ny := by rw [hny]; exact e4
  clear e3 e4 hnx hny
  have h1 := hide H1
  have h2 := hide H2
  clear H1 H2
  go_enter Tryz.func36, Tryz.ntmps36
  go_wp2_with fail
  refine at_wp (fun W hW => ?_)
  have q0 : W.cell? ⟨w.heap.size, 0, none⟩ = some (.int .i64 c0) := by rw [hW]; go_cell
  have q1 : W.cell? ⟨w.heap.size, 1, none⟩ = some (.int .i64 c1) := by rw [hW]; go_cell
  have q2 : W.cell? ⟨w.heap.size, 2, none⟩ = some (.int .i64 c2) := by rw [hW]; go_cell
  have q3 : W.cell? ⟨w.heap.size + 1, 0, none⟩ = some (.int .i64 sx) := by rw [hW]; go_cell
  have q4 : W.cell? ⟨w.heap.size + 1, 1, none⟩ = some (.int .i64 sy) := by rw [hW]; go_cell
  have q5 : W.cell? ⟨w.heap.size + 1 + 1, 0, none⟩ = some (.int .i64 ax) := by rw [hW]; go_cell
  have q6 : W.cell? ⟨w.heap.size + 1 + 1, 1, none⟩ = some (.int .i64 ay) := by rw [hW]; go_cell
  have B7 : Bx W (w.heap.size + 1 + 1 + 1) [.int .i64 0, .int .i64 0] := by
    rw [hW]
    have t := bx_new (((w.alloc (.cells #[.int .i64 c0, .int .i64 c1, .int .i64 c2] 31)).alloc (.cells #[.int .i64 sx, .int .i64 sy] 36)).alloc (.cells #[.int .i64 ax, .int .i64 ay] 36)) [.int .i64 0, .int .i64 0] 43
    rwa [sz1, sz1, sz1] at t
  have U0 : Up w W := by rw [hW]; exact (by repeat' (first | (with_reducible exact up_refl _) | (with_reducible assumption) | (with_reducible refine up_alloc ?_ _) | (with_reducible refine up_drewN ?_ _) | (with_reducible refine up_drew ?_) | (with_reducible refine up_set ?_ (by first | (simp; done) | (simp; omega) | omega) _) | (refine up_trans ?_ (by with_reducible assumption))))
  clear hW
  obtain ⟨q7, q8⟩ := bx2 B7
  obtain ⟨f7, f8⟩ := bxf2 B7
  go_region_held3 (fun wx => wx.cell? ⟨w.heap.size, 0, none⟩ = some (.int .i64 c0) ∧ wx.cell? ⟨w.heap.size, 1, none⟩ = some (.int .i64 c1) ∧ wx.cell? ⟨w.heap.size, 2, none⟩ = some (.int .i64 c2) ∧ wx.cell? ⟨w.heap.size + 1, 0, none⟩ = some (.int .i64 sx) ∧ wx.cell? ⟨w.heap.size + 1, 1, none⟩ = some (.int .i64 sy) ∧ wx.cell? ⟨w.heap.size + 1 + 1, 0, none⟩ = some (.int .i64 ax) ∧ wx.cell? ⟨w.heap.size + 1 + 1, 1, none⟩ = some (.int .i64 ay)) ((first | (exact ⟨by go_cell, by go_cell, by go_cell, by go_cell, by go_cell, by go_cell, by go_cell⟩) | (with_reducible assumption)))
    (first | (go_at_call 63; (with_reducible refine (unhide h1 _).mono ?_); rintro e w4 ⟨rfl, rfl⟩) | (go_at_call 63; (with_reducible refine (unhide h2 _).mono ?_); rintro e w4 ⟨rfl, rfl⟩))
  all_goals
    refine at_x (fun W9 hW9 => ?_)
    have B9 : Bx W9 (w.heap.size + 1 + 1 + 1) [.int .i64 ox, .int .i64 oy] := by rw [hW9]; exact bx_drew (bx_set (bx_set B7 0 _) 1 _)
    have U9 : Up w W9 := by rw [hW9]; exact (by repeat' (first | (with_reducible exact up_refl _) | (with_reducible assumption) | (with_reducible refine up_alloc ?_ _) | (with_reducible refine up_drewN ?_ _) | (with_reducible refine up_drew ?_) | (with_reducible refine up_set ?_ (by first | (simp; done) | (simp; omega) | omega) _) | (refine up_trans ?_ (by with_reducible assumption))))
    clear hW9 B7 U0 q0 q1 q2 q3 q4 q5 q6 q7 q8 f7 f8
    obtain ⟨p0, p1⟩ := bx2 B9
    go_wp2_with fail
    refine bodyPost_ret (v := pt ox oy) (by simp [results, Tryz.results36, go_sem, p0, p1]) rfl ⟨rfl, U9⟩
end Go.Proofs.YtooochbfnmmnkaaGreat
