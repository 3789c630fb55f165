/- Foot and Blown, for all words. -/
import Derived.Test.YtgjcpgmnflpdkaaFeet
namespace Go.Proofs.Ytgjcpgmnflpdkaa
open Go.RowKit Go.Proofs.Gn
def foV (c0 c1 c2 sx sy ax ay v : Int) : Int := if lnB c0 c1 c2 sx sy ax ay then v else 0
set_option maxHeartbeats 2000000 in
theorem p_Foot (c0 c1 c2 sx sy ax ay : Int) (w : World) : Calls Try.prog 27 #[.agg #[.int .i64 c0, .int .i64 c1, .int .i64 c2], pt sx sy, pt ax ay] w fun e w' => e = .returned (.tuple #[pt (foV c0 c1 c2 sx sy ax ay (ft c0 c2 sx ax)) (foV c0 c1 c2 sx sy ax ay (ft c1 c2 sy ay)), .int .i64 (lnE c0 c1 c2 sx sy ax ay)]) ∧ Up w w' := by
  have h1 := hide (fun W => p_checkLeaning c0 c1 c2 sx sy ax ay W)
  have h2 := hide (fun (hb : lnB c0 c1 c2 sx sy ax ay = true) (W : World) => p_foot hb W)
  unfold foV
  unfold lnE at h1 ⊢
  generalize ft c0 c2 sx ax = a at *
  generalize ft c1 c2 sy ay = b at *
  generalize lnB c0 c1 c2 sx sy ax ay = B at *
  cases B
  · simp only [Bool.false_eq_true, if_false] at h1 ⊢
    clear h2
    go_enter Try.func27, Try.ntmps27
    go_wp2_with (go_at_call 62; (with_reducible refine (unhide h1 _).mono ?_); rintro e w1 ⟨rfl, hb1⟩; have k0_0 : w1.cell? ⟨w.heap.size, 0, none⟩ = some (.int .i64 c0) := up_cell hb1 (by first | (with_reducible assumption) | (refine alloc_cell _ ?_; with_reducible assumption) | go_cell); have k0_1 : w1.cell? ⟨w.heap.size, 1, none⟩ = some (.int .i64 c1) := up_cell hb1 (by first | (with_reducible assumption) | (refine alloc_cell _ ?_; with_reducible assumption) | go_cell); have k0_2 : w1.cell? ⟨w.heap.size, 2, none⟩ = some (.int .i64 c2) := up_cell hb1 (by first | (with_reducible assumption) | (refine alloc_cell _ ?_; with_reducible assumption) | go_cell); have k1_0 : w1.cell? ⟨w.heap.size + 1, 0, none⟩ = some (.int .i64 sx) := up_cell hb1 (by first | (with_reducible assumption) | (refine alloc_cell _ ?_; with_reducible assumption) | go_cell); have k1_1 : w1.cell? ⟨w.heap.size + 1, 1, none⟩ = some (.int .i64 sy) := up_cell hb1 (by first | (with_reducible assumption) | (refine alloc_cell _ ?_; with_reducible assumption) | go_cell); have k2_0 : w1.cell? ⟨w.heap.size + 1 + 1, 0, none⟩ = some (.int .i64 ax) := up_cell hb1 (by first | (with_reducible assumption) | (refine alloc_cell _ ?_; with_reducible assumption) | go_cell); have k2_1 : w1.cell? ⟨w.heap.size + 1 + 1, 1, none⟩ = some (.int .i64 ay) := up_cell hb1 (by first | (with_reducible assumption) | (refine alloc_cell _ ?_; with_reducible assumption) | go_cell); have k3_0 : w1.cell? ⟨w.heap.size + 1 + 1 + 1, 0, none⟩ = some (.int .i64 0) := up_cell hb1 (by first | (with_reducible assumption) | (refine alloc_cell _ ?_; with_reducible assumption) | go_cell); have f3_0 : w1.frozen? ⟨w.heap.size + 1 + 1 + 1, 0, none⟩ = false := up_frozen hb1 (v := .int .i64 0) (by first | (with_reducible assumption) | (refine alloc_cell _ ?_; with_reducible assumption) | go_cell) (by first | (with_reducible assumption) | (refine alloc_frozen (v := .int .i64 0) _ ?_ ?_ <;> with_reducible assumption) | (simp; done) | (go_simp; done)); have k3_1 : w1.cell? ⟨w.heap.size + 1 + 1 + 1, 1, none⟩ = some (.int .i64 0) := up_cell hb1 (by first | (with_reducible assumption) | (refine alloc_cell _ ?_; with_reducible assumption) | go_cell); have f3_1 : w1.frozen? ⟨w.heap.size + 1 + 1 + 1, 1, none⟩ = false := up_frozen hb1 (v := .int .i64 0) (by first | (with_reducible assumption) | (refine alloc_cell _ ?_; with_reducible assumption) | go_cell) (by first | (with_reducible assumption) | (refine alloc_frozen (v := .int .i64 0) _ ?_ ?_ <;> with_reducible assumption) | (simp; done) | (go_simp; done)))
    have z := mk_bx2 k3_0 k3_1 f3_0 f3_1
    obtain ⟨W9, hW9⟩ : ∃ W9 : World, W9 = ((w1.setCell ⟨w.heap.size + 1 + 1 + 1, 0, none⟩ (.int .i64 0)).setCell ⟨w.heap.size + 1 + 1 + 1, 1, none⟩ (.int .i64 0)) := ⟨_, rfl⟩
    rw [← hW9]
    have B9 : Bx W9 (w.heap.size + 1 + 1 + 1) [.int .i64 0, .int .i64 0] := by rw [hW9]; exact bx_set (bx_set z 0 _) 1 _
    have U9 : Up w W9 := by rw [hW9]; exact (by repeat' (first | (with_reducible exact up_refl _) | (with_reducible assumption) | (with_reducible refine up_alloc ?_ _) | (with_reducible refine up_drewN ?_ _) | (with_reducible refine up_drew ?_) | (with_reducible refine up_set ?_ (by first | (simp; done) | (simp; omega) | omega) _) | (refine up_trans ?_ (by with_reducible assumption))))
    clear hW9 z
    obtain ⟨p0, p1⟩ := bx2 B9
    refine bodyPost_ret (v := .tuple #[pt 0 0, .int .i64 3]) (by simp [results, Try.results27, go_sem, p0, p1]) rfl ⟨rfl, U9⟩
  · simp only [if_true] at h1 ⊢
    have h3 := hide (unhide h2 rfl)
    clear h2
    go_enter Try.func27, Try.ntmps27
    go_wp2_with (first | (go_at_call 62; (with_reducible refine (unhide h1 _).mono ?_); rintro e w1 ⟨rfl, hb1⟩; have k0_0 : w1.cell? ⟨w.heap.size, 0, none⟩ = some (.int .i64 c0) := up_cell hb1 (by first | (with_reducible assumption) | (refine alloc_cell _ ?_; with_reducible assumption) | go_cell); have k0_1 : w1.cell? ⟨w.heap.size, 1, none⟩ = some (.int .i64 c1) := up_cell hb1 (by first | (with_reducible assumption) | (refine alloc_cell _ ?_; with_reducible assumption) | go_cell); have k0_2 : w1.cell? ⟨w.heap.size, 2, none⟩ = some (.int .i64 c2) := up_cell hb1 (by first | (with_reducible assumption) | (refine alloc_cell _ ?_; with_reducible assumption) | go_cell); have k1_0 : w1.cell? ⟨w.heap.size + 1, 0, none⟩ = some (.int .i64 sx) := up_cell hb1 (by first | (with_reducible assumption) | (refine alloc_cell _ ?_; with_reducible assumption) | go_cell); have k1_1 : w1.cell? ⟨w.heap.size + 1, 1, none⟩ = some (.int .i64 sy) := up_cell hb1 (by first | (with_reducible assumption) | (refine alloc_cell _ ?_; with_reducible assumption) | go_cell); have k2_0 : w1.cell? ⟨w.heap.size + 1 + 1, 0, none⟩ = some (.int .i64 ax) := up_cell hb1 (by first | (with_reducible assumption) | (refine alloc_cell _ ?_; with_reducible assumption) | go_cell); have k2_1 : w1.cell? ⟨w.heap.size + 1 + 1, 1, none⟩ = some (.int .i64 ay) := up_cell hb1 (by first | (with_reducible assumption) | (refine alloc_cell _ ?_; with_reducible assumption) | go_cell); have k3_0 : w1.cell? ⟨w.heap.size + 1 + 1 + 1, 0, none⟩ = some (.int .i64 0) := up_cell hb1 (by first | (with_reducible assumption) | (refine alloc_cell _ ?_; with_reducible assumption) | go_cell); have f3_0 : w1.frozen? ⟨w.heap.size + 1 + 1 + 1, 0, none⟩ = false := up_frozen hb1 (v := .int .i64 0) (by first | (with_reducible assumption) | (refine alloc_cell _ ?_; with_reducible assumption) | go_cell) (by first | (with_reducible assumption) | (refine alloc_frozen (v := .int .i64 0) _ ?_ ?_ <;> with_reducible assumption) | (simp; done) | (go_simp; done)); have k3_1 : w1.cell? ⟨w.heap.size + 1 + 1 + 1, 1, none⟩ = some (.int .i64 0) := up_cell hb1 (by first | (with_reducible assumption) | (refine alloc_cell _ ?_; with_reducible assumption) | go_cell); have f3_1 : w1.frozen? ⟨w.heap.size + 1 + 1 + 1, 1, none⟩ = false := up_frozen hb1 (v := .int .i64 0) (by first | (with_reducible assumption) | (refine alloc_cell _ ?_; with_reducible assumption) | go_cell) (by first | (with_reducible assumption) | (refine alloc_frozen (v := .int .i64 0) _ ?_ ?_ <;> with_reducible assumption) | (simp; done) | (go_simp; done))) | (go_at_call 63; (with_reducible refine (unhide h3 _).mono ?_); rintro e w2 ⟨rfl, hb2⟩; have z := bx_up (mk_bx2 k3_0 k3_1 f3_0 f3_1) hb2; obtain ⟨z0, z1⟩ := bx2 z; obtain ⟨z2, z3⟩ := bxf2 z))
    obtain ⟨W9, hW9⟩ : ∃ W9 : World, W9 = ((w2.setCell ⟨w.heap.size + 1 + 1 + 1, 0, none⟩ (.int .i64 a)).setCell ⟨w.heap.size + 1 + 1 + 1, 1, none⟩ (.int .i64 b)) := ⟨_, rfl⟩
    rw [← hW9]
    have B9 : Bx W9 (w.heap.size + 1 + 1 + 1) [.int .i64 a, .int .i64 b] := by rw [hW9]; exact bx_set (bx_set z 0 _) 1 _
    have U9 : Up w W9 := by rw [hW9]; exact (by repeat' (first | (with_reducible exact up_refl _) | (with_reducible assumption) | (with_reducible refine up_alloc ?_ _) | (with_reducible refine up_drewN ?_ _) | (with_reducible refine up_drew ?_) | (with_reducible refine up_set ?_ (by first | (simp; done) | (simp; omega) | omega) _) | (refine up_trans ?_ (by with_reducible assumption))))
    clear hW9 z0 z1 z2 z3 z
    obtain ⟨p0, p1⟩ := bx2 B9
    refine bodyPost_ret (v := .tuple #[pt a b, .int .i64 0]) (by simp [results, Try.results27, go_sem, p0, p1]) rfl ⟨rfl, U9⟩
/-! ### With wind -/
def blB (c0 c1 c2 sx sy ax ay wx wy h m : Int) : Bool := lnB c0 c1 c2 sx sy ax ay && (slB wx wy 1048576 && (win h 0 131072 && win m 1 16777216))
def blE (c0 c1 c2 sx sy ax ay wx wy h m : Int) : Int := if blB c0 c1 c2 sx sy ax ay wx wy h m then 0 else 3
def blV (c0 c1 c2 sx sy ax ay wx wy h m v : Int) : Int := if blB c0 c1 c2 sx sy ax ay wx wy h m then v else 0
theorem blB_bd {wx wy h m : Int} (hs : slB wx wy 1048576 = true) (hh : win h 0 131072 = true) (hm : win m 1 16777216 = true) :
    ((-137438953472 ≤ wx * h ∧ wx * h ≤ 137438953472) ∧ -137438953472 ≤ neV (wx * h) m ∧ neV (wx * h) m ≤ 137438953472) ∧ (-137438953472 ≤ wy * h ∧ wy * h ≤ 137438953472) ∧ -137438953472 ≤ neV (wy * h) m ∧ neV (wy * h) m ≤ 137438953472 := by
  unfold slB at hs
  rw [Bool.and_eq_true, win_iff, win_iff] at hs
  rw [win_iff] at hh hm
  have p := Gs.mb (u := wx) (v := h) (U := 1048576) (V := 131072) (by omega) (by omega) (by omega) (by omega)
  have q := Gs.mb (u := wy) (v := h) (U := 1048576) (V := 131072) (by omega) (by omega) (by omega) (by omega)
  have p2 := ne_bd (n := wx * h) (d := m) (by omega)
  have q2 := ne_bd (n := wy * h) (d := m) (by omega)
  omega
theorem bx_five (w : World) (v1 v2 v3 v4 v5 : List Value) (t1 t2 t3 t4 t5 : TypeId) :
    Bx (((((w.alloc (.cells v1.toArray t1)).alloc (.cells v2.toArray t2)).alloc (.cells v3.toArray t3)).alloc (.cells v4.toArray t4)).alloc (.cells v5.toArray t5)) w.heap.size v1 ∧ Bx (((((w.alloc (.cells v1.toArray t1)).alloc (.cells v2.toArray t2)).alloc (.cells v3.toArray t3)).alloc (.cells v4.toArray t4)).alloc (.cells v5.toArray t5)) (w.heap.size + 1) v2 ∧ Bx (((((w.alloc (.cells v1.toArray t1)).alloc (.cells v2.toArray t2)).alloc (.cells v3.toArray t3)).alloc (.cells v4.toArray t4)).alloc (.cells v5.toArray t5)) (w.heap.size + 1 + 1) v3 ∧ Bx (((((w.alloc (.cells v1.toArray t1)).alloc (.cells v2.toArray t2)).alloc (.cells v3.toArray t3)).alloc (.cells v4.toArray t4)).alloc (.cells v5.toArray t5)) (w.heap.size + 1 + 1 + 1) v4 ∧ Bx (((((w.alloc (.cells v1.toArray t1)).alloc (.cells v2.toArray t2)).alloc (.cells v3.toArray t3)).alloc (.cells v4.toArray t4)).alloc (.cells v5.toArray t5)) (w.heap.size + 1 + 1 + 1 + 1) v5 := by
  have t := bx_three w v1 v2 v3 t1 t2 t3
  refine ⟨bx_alloc (bx_alloc t.1 _) _, bx_alloc (bx_alloc t.2.1 _) _, bx_alloc (bx_alloc t.2.2 _) _, ?_, ?_⟩
  · have u := bx_alloc (bx_new (((w.alloc (.cells v1.toArray t1)).alloc (.cells v2.toArray t2)).alloc (.cells v3.toArray t3)) v4 t4) (.cells v5.toArray t5)
    rwa [sz1, sz1, sz1] at u
  · have u := bx_new ((((w.alloc (.cells v1.toArray t1)).alloc (.cells v2.toArray t2)).alloc (.cells v3.toArray t3)).alloc (.cells v4.toArray t4)) v5 t5
    rwa [sz1, sz1, sz1, sz1] at u
set_option maxRecDepth 100000 in
set_option maxHeartbeats 8000000 in
theorem p_Blown (c0 c1 c2 sx sy ax ay wx wy h m : Int) (w : World) : Calls Try.prog 29 #[.agg #[.int .i64 c0, .int .i64 c1, .int .i64 c2], pt sx sy, pt ax ay, pt wx wy, .int .i64 h, .int .i64 m] w fun e w' => e = .returned (.tuple #[pt (blV c0 c1 c2 sx sy ax ay wx wy h m (ft c0 c2 sx ax + neV (wx * h) m)) (blV c0 c1 c2 sx sy ax ay wx wy h m (ft c1 c2 sy ay + neV (wy * h) m)), .int .i64 (blE c0 c1 c2 sx sy ax ay wx wy h m)]) ∧ Up w w' := by
  have h1 := hide (fun W => p_checkLeaning c0 c1 c2 sx sy ax ay W)
  have h2 := hide (fun (hb : lnB c0 c1 c2 sx sy ax ay = true) (W : World) => p_foot hb W)
  have hft := hide (fun (hb : lnB c0 c1 c2 sx sy ax ay = true) => (⟨(ft_bd (lnB_bd hb).1.1 (lnB_bd hb).1.2.2 (lnB_bd hb).2.1.1 (lnB_bd hb).2.2.1).2.2, (ft_bd (lnB_bd hb).1.2.1 (lnB_bd hb).1.2.2 (lnB_bd hb).2.1.2 (lnB_bd hb).2.2.2).2.2⟩ : (-393216 ≤ ft c0 c2 sx ax ∧ ft c0 c2 sx ax ≤ 393216) ∧ (-393216 ≤ ft c1 c2 sy ay ∧ ft c1 c2 sy ay ≤ 393216)))
  have h3 : ∀ W : World, Calls Try.prog 67 #[pt wx wy, .int .i64 1048576] W fun e w' => e = .returned (.bool (slB wx wy 1048576)) ∧ Up W w' := fun W => p_upTo wx wy 1048576 (by omega) W
  have h4 : ∀ W : World, Calls Try.prog 45 #[.int .i64 h, .int .i64 0, .int .i64 131072] W fun e w' => e = .returned (.bool (win h 0 131072)) ∧ W = w' := fun W => p_within _ _ _ W
  have h5 := fun W : World => p_checkMass m W
  have h6 : ∀ W : World, Calls Try.prog 68 #[.int .i64 (wx * h), .int .i64 m] W fun e w' => e = .returned (.int .i64 (neV (wx * h) m)) ∧ W = w' := fun W => p_nearS _ _ W
  have h7 : ∀ W : World, Calls Try.prog 68 #[.int .i64 (wy * h), .int .i64 m] W fun e w' => e = .returned (.int .i64 (neV (wy * h) m)) ∧ W = w' := fun W => p_nearS _ _ W
  have hbd := hide (fun a b c => blB_bd (wx := wx) (wy := wy) (h := h) (m := m) a b c)
  unfold blV blE blB
  unfold lnE at h1
  unfold msE at h5
  generalize ft c0 c2 sx ax = a at *
  generalize ft c1 c2 sy ay = b at *
  generalize lnB c0 c1 c2 sx sy ax ay = B1 at *
  generalize slB wx wy 1048576 = B2 at *
  generalize win h 0 131072 = B3 at *
  generalize win m 1 16777216 = B4 at *
  generalize neV (wx * h) m = nx at *
  generalize neV (wy * h) m = ny at *
  have H3 := hide h3
  have H4 := hide h4
  have H5 := hide h5
  have H6 := hide h6
  have H7 := hide h7
  clear h3 h4 h5 h6 h7
  cases B1
  · simp only [Bool.false_and, Bool.false_eq_true, if_false] at h1 ⊢
    clear h2 hft hbd H3 H4 H5 H6 H7
    go_enter Try.func29, Try.ntmps29
    go_upto_region 1 with fail
    refine at_wp (fun W0 hW0 => ?_)
    have five := bx_five w [.int .i64 c0, .int .i64 c1, .int .i64 c2] [.int .i64 sx, .int .i64 sy] [.int .i64 ax, .int .i64 ay] [.int .i64 wx, .int .i64 wy] [.int .i64 0, .int .i64 0] 30 46 46 46 29
    obtain ⟨C0, S0, A0, D0, R0⟩ := five
    have U0 : Up w W0 := by rw [hW0]; exact (by repeat' (first | (with_reducible exact up_refl _) | (with_reducible assumption) | (with_reducible refine up_alloc ?_ _) | (with_reducible refine up_drewN ?_ _) | (with_reducible refine up_drew ?_) | (with_reducible refine up_set ?_ (by first | (simp; done) | (simp; omega) | omega) _) | (refine up_trans ?_ (by with_reducible assumption))))
    replace C0 : Bx W0 w.heap.size [.int .i64 c0, .int .i64 c1, .int .i64 c2] := by rw [hW0]; exact C0
    replace S0 : Bx W0 (w.heap.size + 1) [.int .i64 sx, .int .i64 sy] := by rw [hW0]; exact S0
    replace A0 : Bx W0 (w.heap.size + 1 + 1) [.int .i64 ax, .int .i64 ay] := by rw [hW0]; exact A0
    replace D0 : Bx W0 (w.heap.size + 1 + 1 + 1) [.int .i64 wx, .int .i64 wy] := by rw [hW0]; exact D0
    replace R0 : Bx W0 (w.heap.size + 1 + 1 + 1 + 1) [.int .i64 0, .int .i64 0] := by rw [hW0]; exact R0
    clear hW0
    obtain ⟨x0, x1, x2⟩ := bx3 C0
    obtain ⟨x3, x4⟩ := bx2 S0
    obtain ⟨x5, x6⟩ := bx2 A0
    go_wp2_with (first | (go_at_call 62; (with_reducible refine (unhide h1 _).mono ?_); rintro e w1 ⟨rfl, hb1⟩; have C1 := bx_up C0 hb1; have S1 := bx_up S0 hb1; have A1 := bx_up A0 hb1; have D1 := bx_up D0 hb1; have R1 := bx_up R0 hb1; have U1 := up_trans U0 hb1; obtain ⟨y10, y11⟩ := bx2 D1; obtain ⟨y12, y13⟩ := bx2 R1; obtain ⟨y14, y15⟩ := bxf2 R1))
    obtain ⟨W9, hW9⟩ : ∃ W9 : World, W9 = ((w1.setCell ⟨w.heap.size + 1 + 1 + 1 + 1, 0, none⟩ (.int .i64 0)).setCell ⟨w.heap.size + 1 + 1 + 1 + 1, 1, none⟩ (.int .i64 0)) := ⟨_, rfl⟩
    rw [← hW9]
    have B9 : Bx W9 (w.heap.size + 1 + 1 + 1 + 1) [.int .i64 0, .int .i64 0] := by rw [hW9]; exact bx_set (bx_set R1 0 _) 1 _
    have U9 : Up w W9 := by rw [hW9]; exact (by repeat' (first | (with_reducible exact up_refl _) | (with_reducible assumption) | (with_reducible refine up_alloc ?_ _) | (with_reducible refine up_drewN ?_ _) | (with_reducible refine up_drew ?_) | (with_reducible refine up_set ?_ (by first | (simp; done) | (simp; omega) | omega) _) | (refine up_trans ?_ (by with_reducible assumption))))
    clear hW9
    obtain ⟨p0, p1⟩ := bx2 B9
    refine bodyPost_ret (v := .tuple #[pt 0 0, .int .i64 3]) (by simp [results, Try.results29, go_sem, p0, p1]) rfl ⟨rfl, U9⟩
  simp only [Bool.true_and, if_true] at h1 ⊢
  have h8 := hide (unhide h2 rfl)
  have hf := unhide hft rfl
  clear h2 hft
  obtain ⟨⟨f1, f2⟩, f3, f4⟩ := hf
  cases B2
  · simp only [Bool.false_and, Bool.false_eq_true, if_false] at ⊢
    clear hbd H4 H5 H6 H7 h8
    go_enter Try.func29, Try.ntmps29
    go_upto_region 1 with fail
    refine at_wp (fun W0 hW0 => ?_)
    have five := bx_five w [.int .i64 c0, .int .i64 c1, .int .i64 c2] [.int .i64 sx, .int .i64 sy] [.int .i64 ax, .int .i64 ay] [.int .i64 wx, .int .i64 wy] [.int .i64 0, .int .i64 0] 30 46 46 46 29
    obtain ⟨C0, S0, A0, D0, R0⟩ := five
    have U0 : Up w W0 := by rw [hW0]; exact (by repeat' (first | (with_reducible exact up_refl _) | (with_reducible assumption) | (with_reducible refine up_alloc ?_ _) | (with_reducible refine up_drewN ?_ _) | (with_reducible refine up_drew ?_) | (with_reducible refine up_set ?_ (by first | (simp; done) | (simp; omega) | omega) _) | (refine up_trans ?_ (by with_reducible assumption))))
    replace C0 : Bx W0 w.heap.size [.int .i64 c0, .int .i64 c1, .int .i64 c2] := by rw [hW0]; exact C0
    replace S0 : Bx W0 (w.heap.size + 1) [.int .i64 sx, .int .i64 sy] := by rw [hW0]; exact S0
    replace A0 : Bx W0 (w.heap.size + 1 + 1) [.int .i64 ax, .int .i64 ay] := by rw [hW0]; exact A0
    replace D0 : Bx W0 (w.heap.size + 1 + 1 + 1) [.int .i64 wx, .int .i64 wy] := by rw [hW0]; exact D0
    replace R0 : Bx W0 (w.heap.size + 1 + 1 + 1 + 1) [.int .i64 0, .int .i64 0] := by rw [hW0]; exact R0
    clear hW0
    obtain ⟨x0, x1, x2⟩ := bx3 C0
    obtain ⟨x3, x4⟩ := bx2 S0
    obtain ⟨x5, x6⟩ := bx2 A0
    go_wp2_with (first | (go_at_call 62; (with_reducible refine (unhide h1 _).mono ?_); rintro e w1 ⟨rfl, hb1⟩; have C1 := bx_up C0 hb1; have S1 := bx_up S0 hb1; have A1 := bx_up A0 hb1; have D1 := bx_up D0 hb1; have R1 := bx_up R0 hb1; have U1 := up_trans U0 hb1; obtain ⟨y10, y11⟩ := bx2 D1; obtain ⟨y12, y13⟩ := bx2 R1; obtain ⟨y14, y15⟩ := bxf2 R1) | (go_at_call 67; (with_reducible refine (unhide H3 _).mono ?_); rintro e w2 ⟨rfl, hb2⟩; have C2 := bx_up C1 hb2; have S2 := bx_up S1 hb2; have A2 := bx_up A1 hb2; have D2 := bx_up D1 hb2; have R2 := bx_up R1 hb2; have U2 := up_trans U1 hb2; obtain ⟨y20, y21⟩ := bx2 D2; obtain ⟨y22, y23⟩ := bx2 R2; obtain ⟨y24, y25⟩ := bxf2 R2))
    obtain ⟨W9, hW9⟩ : ∃ W9 : World, W9 = ((w2.setCell ⟨w.heap.size + 1 + 1 + 1 + 1, 0, none⟩ (.int .i64 0)).setCell ⟨w.heap.size + 1 + 1 + 1 + 1, 1, none⟩ (.int .i64 0)) := ⟨_, rfl⟩
    rw [← hW9]
    have B9 : Bx W9 (w.heap.size + 1 + 1 + 1 + 1) [.int .i64 0, .int .i64 0] := by rw [hW9]; exact bx_set (bx_set R2 0 _) 1 _
    have U9 : Up w W9 := by rw [hW9]; exact (by repeat' (first | (with_reducible exact up_refl _) | (with_reducible assumption) | (with_reducible refine up_alloc ?_ _) | (with_reducible refine up_drewN ?_ _) | (with_reducible refine up_drew ?_) | (with_reducible refine up_set ?_ (by first | (simp; done) | (simp; omega) | omega) _) | (refine up_trans ?_ (by with_reducible assumption))))
    clear hW9
    obtain ⟨p0, p1⟩ := bx2 B9
    refine bodyPost_ret (v := .tuple #[pt 0 0, .int .i64 3]) (by simp [results, Try.results29, go_sem, p0, p1]) rfl ⟨rfl, U9⟩
  simp only [Bool.true_and] at ⊢
  cases B3
  · simp only [Bool.false_and, Bool.false_eq_true, if_false] at ⊢
    clear hbd H5 H6 H7 h8
    go_enter Try.func29, Try.ntmps29
    go_upto_region 1 with fail
    refine at_wp (fun W0 hW0 => ?_)
    have five := bx_five w [.int .i64 c0, .int .i64 c1, .int .i64 c2] [.int .i64 sx, .int .i64 sy] [.int .i64 ax, .int .i64 ay] [.int .i64 wx, .int .i64 wy] [.int .i64 0, .int .i64 0] 30 46 46 46 29
    obtain ⟨C0, S0, A0, D0, R0⟩ := five
    have U0 : Up w W0 := by rw [hW0]; exact (by repeat' (first | (with_reducible exact up_refl _) | (with_reducible assumption) | (with_reducible refine up_alloc ?_ _) | (with_reducible refine up_drewN ?_ _) | (with_reducible refine up_drew ?_) | (with_reducible refine up_set ?_ (by first | (simp; done) | (simp; omega) | omega) _) | (refine up_trans ?_ (by with_reducible assumption))))
    replace C0 : Bx W0 w.heap.size [.int .i64 c0, .int .i64 c1, .int .i64 c2] := by rw [hW0]; exact C0
    replace S0 : Bx W0 (w.heap.size + 1) [.int .i64 sx, .int .i64 sy] := by rw [hW0]; exact S0
    replace A0 : Bx W0 (w.heap.size + 1 + 1) [.int .i64 ax, .int .i64 ay] := by rw [hW0]; exact A0
    replace D0 : Bx W0 (w.heap.size + 1 + 1 + 1) [.int .i64 wx, .int .i64 wy] := by rw [hW0]; exact D0
    replace R0 : Bx W0 (w.heap.size + 1 + 1 + 1 + 1) [.int .i64 0, .int .i64 0] := by rw [hW0]; exact R0
    clear hW0
    obtain ⟨x0, x1, x2⟩ := bx3 C0
    obtain ⟨x3, x4⟩ := bx2 S0
    obtain ⟨x5, x6⟩ := bx2 A0
    go_wp2_with (first | (go_at_call 62; (with_reducible refine (unhide h1 _).mono ?_); rintro e w1 ⟨rfl, hb1⟩; have C1 := bx_up C0 hb1; have S1 := bx_up S0 hb1; have A1 := bx_up A0 hb1; have D1 := bx_up D0 hb1; have R1 := bx_up R0 hb1; have U1 := up_trans U0 hb1; obtain ⟨y10, y11⟩ := bx2 D1; obtain ⟨y12, y13⟩ := bx2 R1; obtain ⟨y14, y15⟩ := bxf2 R1) | (go_at_call 67; (with_reducible refine (unhide H3 _).mono ?_); rintro e w2 ⟨rfl, hb2⟩; have C2 := bx_up C1 hb2; have S2 := bx_up S1 hb2; have A2 := bx_up A1 hb2; have D2 := bx_up D1 hb2; have R2 := bx_up R1 hb2; have U2 := up_trans U1 hb2; obtain ⟨y20, y21⟩ := bx2 D2; obtain ⟨y22, y23⟩ := bx2 R2; obtain ⟨y24, y25⟩ := bxf2 R2) | (go_at_call 45; (with_reducible refine (unhide H4 _).mono ?_); rintro e w3 ⟨rfl, rfl⟩))
    obtain ⟨W9, hW9⟩ : ∃ W9 : World, W9 = ((w2.setCell ⟨w.heap.size + 1 + 1 + 1 + 1, 0, none⟩ (.int .i64 0)).setCell ⟨w.heap.size + 1 + 1 + 1 + 1, 1, none⟩ (.int .i64 0)) := ⟨_, rfl⟩
    rw [← hW9]
    have B9 : Bx W9 (w.heap.size + 1 + 1 + 1 + 1) [.int .i64 0, .int .i64 0] := by rw [hW9]; exact bx_set (bx_set R2 0 _) 1 _
    have U9 : Up w W9 := by rw [hW9]; exact (by repeat' (first | (with_reducible exact up_refl _) | (with_reducible assumption) | (with_reducible refine up_alloc ?_ _) | (with_reducible refine up_drewN ?_ _) | (with_reducible refine up_drew ?_) | (with_reducible refine up_set ?_ (by first | (simp; done) | (simp; omega) | omega) _) | (refine up_trans ?_ (by with_reducible assumption))))
    clear hW9
    obtain ⟨p0, p1⟩ := bx2 B9
    refine bodyPost_ret (v := .tuple #[pt 0 0, .int .i64 3]) (by simp [results, Try.results29, go_sem, p0, p1]) rfl ⟨rfl, U9⟩
  simp only [Bool.true_and] at ⊢
  cases B4
  · simp only [Bool.false_eq_true, if_false] at H5 ⊢
    clear hbd H6 H7 h8
    go_enter Try.func29, Try.ntmps29
    go_upto_region 1 with fail
    refine at_wp (fun W0 hW0 => ?_)
    have five := bx_five w [.int .i64 c0, .int .i64 c1, .int .i64 c2] [.int .i64 sx, .int .i64 sy] [.int .i64 ax, .int .i64 ay] [.int .i64 wx, .int .i64 wy] [.int .i64 0, .int .i64 0] 30 46 46 46 29
    obtain ⟨C0, S0, A0, D0, R0⟩ := five
    have U0 : Up w W0 := by rw [hW0]; exact (by repeat' (first | (with_reducible exact up_refl _) | (with_reducible assumption) | (with_reducible refine up_alloc ?_ _) | (with_reducible refine up_drewN ?_ _) | (with_reducible refine up_drew ?_) | (with_reducible refine up_set ?_ (by first | (simp; done) | (simp; omega) | omega) _) | (refine up_trans ?_ (by with_reducible assumption))))
    replace C0 : Bx W0 w.heap.size [.int .i64 c0, .int .i64 c1, .int .i64 c2] := by rw [hW0]; exact C0
    replace S0 : Bx W0 (w.heap.size + 1) [.int .i64 sx, .int .i64 sy] := by rw [hW0]; exact S0
    replace A0 : Bx W0 (w.heap.size + 1 + 1) [.int .i64 ax, .int .i64 ay] := by rw [hW0]; exact A0
    replace D0 : Bx W0 (w.heap.size + 1 + 1 + 1) [.int .i64 wx, .int .i64 wy] := by rw [hW0]; exact D0
    replace R0 : Bx W0 (w.heap.size + 1 + 1 + 1 + 1) [.int .i64 0, .int .i64 0] := by rw [hW0]; exact R0
    clear hW0
    obtain ⟨x0, x1, x2⟩ := bx3 C0
    obtain ⟨x3, x4⟩ := bx2 S0
    obtain ⟨x5, x6⟩ := bx2 A0
    go_wp2_with (first | (go_at_call 62; (with_reducible refine (unhide h1 _).mono ?_); rintro e w1 ⟨rfl, hb1⟩; have C1 := bx_up C0 hb1; have S1 := bx_up S0 hb1; have A1 := bx_up A0 hb1; have D1 := bx_up D0 hb1; have R1 := bx_up R0 hb1; have U1 := up_trans U0 hb1; obtain ⟨y10, y11⟩ := bx2 D1; obtain ⟨y12, y13⟩ := bx2 R1; obtain ⟨y14, y15⟩ := bxf2 R1) | (go_at_call 67; (with_reducible refine (unhide H3 _).mono ?_); rintro e w2 ⟨rfl, hb2⟩; have C2 := bx_up C1 hb2; have S2 := bx_up S1 hb2; have A2 := bx_up A1 hb2; have D2 := bx_up D1 hb2; have R2 := bx_up R1 hb2; have U2 := up_trans U1 hb2; obtain ⟨y20, y21⟩ := bx2 D2; obtain ⟨y22, y23⟩ := bx2 R2; obtain ⟨y24, y25⟩ := bxf2 R2) | (go_at_call 45; (with_reducible refine (unhide H4 _).mono ?_); rintro e w3 ⟨rfl, rfl⟩) | (go_at_call 44; (with_reducible refine (unhide H5 _).mono ?_); rintro e w4 ⟨rfl, rfl⟩))
    obtain ⟨W9, hW9⟩ : ∃ W9 : World, W9 = ((w2.setCell ⟨w.heap.size + 1 + 1 + 1 + 1, 0, none⟩ (.int .i64 0)).setCell ⟨w.heap.size + 1 + 1 + 1 + 1, 1, none⟩ (.int .i64 0)) := ⟨_, rfl⟩
    rw [← hW9]
    have B9 : Bx W9 (w.heap.size + 1 + 1 + 1 + 1) [.int .i64 0, .int .i64 0] := by rw [hW9]; exact bx_set (bx_set R2 0 _) 1 _
    have U9 : Up w W9 := by rw [hW9]; exact (by repeat' (first | (with_reducible exact up_refl _) | (with_reducible assumption) | (with_reducible refine up_alloc ?_ _) | (with_reducible refine up_drewN ?_ _) | (with_reducible refine up_drew ?_) | (with_reducible refine up_set ?_ (by first | (simp; done) | (simp; omega) | omega) _) | (refine up_trans ?_ (by with_reducible assumption))))
    clear hW9
    obtain ⟨p0, p1⟩ := bx2 B9
    refine bodyPost_ret (v := .tuple #[pt 0 0, .int .i64 3]) (by simp [results, Try.results29, go_sem, p0, p1]) rfl ⟨rfl, U9⟩
  · simp only [if_true] at H5 ⊢
    obtain ⟨⟨⟨g1, g2⟩, g3, g4⟩, ⟨g5, g6⟩, g7, g8⟩ := unhide hbd rfl rfl rfl
    have e1 : IntKind.i64.wrap (wx * h) = wx * h := IntWalk.i64_in _ ⟨by omega, by omega⟩
    have e2 : IntKind.i64.wrap (wy * h) = wy * h := IntWalk.i64_in _ ⟨by omega, by omega⟩
    have e3 : IntKind.i64.wrap (a + nx) = a + nx := IntWalk.i64_in _ ⟨by omega, by omega⟩
    have e4 : IntKind.i64.wrap (b + ny) = b + ny := IntWalk.i64_in _ ⟨by omega, by omega⟩
    clear hbd f1 f2 f3 f4 g1 g2 g3 g4 g5 g6 g7 g8
    obtain ⟨ox, hox⟩ : ∃ n, a + nx = n := ⟨_, rfl⟩
    obtain ⟨oy, hoy⟩ : ∃ n, b + ny = n := ⟨_, rfl⟩
    obtain ⟨px, hpx⟩ : ∃ n, wx * h = n := ⟨_, rfl⟩
    obtain ⟨py, hpy⟩ : ∃ n, wy * h = n := ⟨_, rfl⟩
    rw [hox] at e3 ⊢
    rw [hoy] at e4 ⊢
    rw [hpx] at H6
    rw [hpy] at H7
    have e5 : IntKind.i64.wrap (wx * h) = px := by rw [e1]; exact hpx
    have e6 : IntKind.i64.wrap (wy * h) = py := by rw [e2]; exact hpy
    have e7 : IntKind.i64.wrap (a + nx) = ox := by rw [hox]; exact e3
    have e8 : IntKind.i64.wrap (b + ny) = oy := by rw [hoy]; exact e4
    clear e1 e2 e3 e4 hox hoy hpx hpy
    go_enter Try.func29, Try.ntmps29
    go_upto_region 1 with fail
    refine at_wp (fun W0 hW0 => ?_)
    have five := bx_five w [.int .i64 c0, .int .i64 c1, .int .i64 c2] [.int .i64 sx, .int .i64 sy] [.int .i64 ax, .int .i64 ay] [.int .i64 wx, .int .i64 wy] [.int .i64 0, .int .i64 0] 30 46 46 46 29
    obtain ⟨C0, S0, A0, D0, R0⟩ := five
    have U0 : Up w W0 := by rw [hW0]; exact (by repeat' (first | (with_reducible exact up_refl _) | (with_reducible assumption) | (with_reducible refine up_alloc ?_ _) | (with_reducible refine up_drewN ?_ _) | (with_reducible refine up_drew ?_) | (with_reducible refine up_set ?_ (by first | (simp; done) | (simp; omega) | omega) _) | (refine up_trans ?_ (by with_reducible assumption))))
    replace C0 : Bx W0 w.heap.size [.int .i64 c0, .int .i64 c1, .int .i64 c2] := by rw [hW0]; exact C0
    replace S0 : Bx W0 (w.heap.size + 1) [.int .i64 sx, .int .i64 sy] := by rw [hW0]; exact S0
    replace A0 : Bx W0 (w.heap.size + 1 + 1) [.int .i64 ax, .int .i64 ay] := by rw [hW0]; exact A0
    replace D0 : Bx W0 (w.heap.size + 1 + 1 + 1) [.int .i64 wx, .int .i64 wy] := by rw [hW0]; exact D0
    replace R0 : Bx W0 (w.heap.size + 1 + 1 + 1 + 1) [.int .i64 0, .int .i64 0] := by rw [hW0]; exact R0
    clear hW0
    obtain ⟨x0, x1, x2⟩ := bx3 C0
    obtain ⟨x3, x4⟩ := bx2 S0
    obtain ⟨x5, x6⟩ := bx2 A0
    go_upto_region 9 with (first | (go_at_call 62; (with_reducible refine (unhide h1 _).mono ?_); rintro e w1 ⟨rfl, hb1⟩; have C1 := bx_up C0 hb1; have S1 := bx_up S0 hb1; have A1 := bx_up A0 hb1; have D1 := bx_up D0 hb1; have R1 := bx_up R0 hb1; have U1 := up_trans U0 hb1; obtain ⟨y10, y11⟩ := bx2 D1; obtain ⟨y12, y13⟩ := bx2 R1; obtain ⟨y14, y15⟩ := bxf2 R1) | (go_at_call 67; (with_reducible refine (unhide H3 _).mono ?_); rintro e w2 ⟨rfl, hb2⟩; have C2 := bx_up C1 hb2; have S2 := bx_up S1 hb2; have A2 := bx_up A1 hb2; have D2 := bx_up D1 hb2; have R2 := bx_up R1 hb2; have U2 := up_trans U1 hb2; obtain ⟨y20, y21⟩ := bx2 D2; obtain ⟨y22, y23⟩ := bx2 R2; obtain ⟨y24, y25⟩ := bxf2 R2) | (go_at_call 45; (with_reducible refine (unhide H4 _).mono ?_); rintro e w3 ⟨rfl, rfl⟩) | (go_at_call 44; (with_reducible refine (unhide H5 _).mono ?_); rintro e w4 ⟨rfl, rfl⟩))
    obtain ⟨x7, x8, x9⟩ := bx3 C2
    obtain ⟨x10, x11⟩ := bx2 S2
    obtain ⟨x12, x13⟩ := bx2 A2
    go_upto_region 10 with (go_at_call 63; (with_reducible refine (unhide h8 _).mono ?_); rintro e w5 ⟨rfl, hb5⟩)
    have R3 := R2
    refine at_wp (fun W hW => ?_)
    have F9 : Bx W w5.heap.size [.int .i64 a, .int .i64 b] := by rw [hW]; exact bx_new w5 _ 29
    have D9 : Bx W (w.heap.size + 1 + 1 + 1) [.int .i64 wx, .int .i64 wy] := by rw [hW]; exact bx_alloc (bx_up D2 hb5) _
    have R9 : Bx W (w.heap.size + 1 + 1 + 1 + 1) [.int .i64 0, .int .i64 0] := by rw [hW]; exact bx_alloc (bx_up R2 hb5) _
    have U9 : Up w W := by rw [hW]; exact up_alloc (up_trans U2 hb5) _
    clear hW C0 S0 A0 D0 R0 C1 S1 A1 D1 R1 C2 S2 A2 D2 R2 x0 x1 x2 x3 x4 x5 x6 x7 x8 x9 x10 x11 x12 x13 y10 y11 y12 y13 y14 y15 y20 y21 y22 y23 y24 y25 U0 U1 U2 hb1 hb2
    obtain ⟨q0, q1⟩ := bx2 F9
    obtain ⟨q2, q3⟩ := bx2 D9
    obtain ⟨q4, q5⟩ := bx2 R9
    obtain ⟨q6, q7⟩ := bxf2 R9
    obtain ⟨G, hG⟩ : ∃ G, w5.heap.size = G := ⟨_, rfl⟩
    have hlt := bx_lt (bx_up R3 hb5) (by simp)
    rw [hG] at q0 q1 F9 hlt ⊢
    have hne : G ≠ w.heap.size + 1 + 1 + 1 + 1 := by omega
    clear hb5 hG R3
    go_region_held3 (fun wx' => wx'.cell? ⟨G, 0, none⟩ = some (.int .i64 a) ∧ wx'.cell? ⟨G, 1, none⟩ = some (.int .i64 b) ∧ wx'.cell? ⟨w.heap.size + 1 + 1 + 1, 0, none⟩ = some (.int .i64 wx) ∧ wx'.cell? ⟨w.heap.size + 1 + 1 + 1, 1, none⟩ = some (.int .i64 wy)) ((first | (exact ⟨by go_cell, by go_cell, by go_cell, by go_cell⟩) | (with_reducible assumption)))
      (first | (go_at_call 68; (with_reducible refine (unhide H6 _).mono ?_); rintro e w6 ⟨rfl, rfl⟩) | (go_at_call 68; (with_reducible refine (unhide H7 _).mono ?_); rintro e w6 ⟨rfl, rfl⟩))
    all_goals
      refine at_x (fun W9 hW9 => ?_)
      have B9 : Bx W9 (w.heap.size + 1 + 1 + 1 + 1) [.int .i64 ox, .int .i64 oy] := by rw [hW9]; exact bx_drew (bx_set (bx_set R9 0 _) 1 _)
      have U10 : Up w W9 := by rw [hW9]; exact (by repeat' (first | (with_reducible exact up_refl _) | (with_reducible assumption) | (with_reducible refine up_alloc ?_ _) | (with_reducible refine up_drewN ?_ _) | (with_reducible refine up_drew ?_) | (with_reducible refine up_set ?_ (by first | (simp; done) | (simp; omega) | omega) _) | (refine up_trans ?_ (by with_reducible assumption))))
      clear hW9 R9 F9 D9 U9 q0 q1 q2 q3 q4 q5 q6 q7
      obtain ⟨p0, p1⟩ := bx2 B9
      go_wp2_with fail
      refine bodyPost_ret (v := .tuple #[pt ox oy, .int .i64 0]) (by simp [results, Try.results29, go_sem, p0, p1]) rfl ⟨rfl, U10⟩
end Go.Proofs.Ytgjcpgmnflpdkaa
