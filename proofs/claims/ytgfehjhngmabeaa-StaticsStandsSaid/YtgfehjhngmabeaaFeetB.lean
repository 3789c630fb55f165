/- Foot and Blown, for all words. -/
import Derived.Test.YtgfehjhngmabeaaFeet
namespace Go.Proofs.Ytgfehjhngmabeaa
open Go.RowKit Go.Proofs.Gn
def foV (c0 c1 c2 sx sy ax ay v : Int) : Int := if lnB c0 c1 c2 sx sy ax ay then v else 0
set_option maxHeartbeats 2000000 in
theorem p_Foot (c0 c1 c2 sx sy ax ay : Int) (w : World) : Calls Try.prog 57 #[.agg #[.int .i64 c0, .int .i64 c1, .int .i64 c2], pt sx sy, pt ax ay] w fun e w' => e = .returned (.tuple #[pt (foV c0 c1 c2 sx sy ax ay (ft c0 c2 sx ax)) (foV c0 c1 c2 sx sy ax ay (ft c1 c2 sy ay)), .int .i64 (lnE c0 c1 c2 sx sy ax ay)]) ∧ Up w w' := by
  have h1 := hide (fun W => p_checkLeaning c0 c1 c2 sx sy ax ay W)
  have h2 := hide (fun (hb : lnB c0 c1 c2 sx sy ax ay = true) (W : World) => p_foot hb W)
  unfold foV
  unfold lnE at h1 ⊢
  generalize ft c0 c2 sx ax = a at *
  generalize ft c1 c2 sy ay = b at *
  generalize lnB c0 c1 c2 sx sy ax ay = B at *
  cases B
  · simp only [Bool.false_eq_true, if_false] at h1 ⊢
    clear h2
    go_enter Try.func57, Try.ntmps57
    go_wp2_with (go_at_call 91; (with_reducible refine (unhide h1 _).mono ?_); rintro e w1 ⟨rfl, hb1⟩; have k0_0 : w1.cell? ⟨w.heap.size, 0, none⟩ = some (.int .i64 c0) := up_cell hb1 (by first | (with_reducible assumption) | (refine alloc_cell _ ?_; with_reducible assumption) | go_cell); have k0_1 : w1.cell? ⟨w.heap.size, 1, none⟩ = some (.int .i64 c1) := up_cell hb1 (by first | (with_reducible assumption) | (refine alloc_cell _ ?_; with_reducible assumption) | go_cell); have k0_2 : w1.cell? ⟨w.heap.size, 2, none⟩ = some (.int .i64 c2) := up_cell hb1 (by first | (with_reducible assumption) | (refine alloc_cell _ ?_; with_reducible assumption) | go_cell); have k1_0 : w1.cell? ⟨w.heap.size + 1, 0, none⟩ = some (.int .i64 sx) := up_cell hb1 (by first | (with_reducible assumption) | (refine alloc_cell _ ?_; with_reducible assumption) | go_cell); have k1_1 : w1.cell? ⟨w.heap.size + 1, 1, none⟩ = some (.int .i64 sy) := up_cell hb1 (by first | (with_reducible assumption) | (refine alloc_cell _ ?_; with_reducible assumption) | go_cell); have k2_0 : w1.cell? ⟨w.heap.size + 1 + 1, 0, none⟩ = some (.int .i64 ax) := up_cell hb1 (by first | (with_reducible assumption) | (refine alloc_cell _ ?_; with_reducible assumption) | go_cell); have k2_1 : w1.cell? ⟨w.heap.size + 1 + 1, 1, none⟩ = some (.int .i64 ay) := up_cell hb1 (by first | (with_reducible assumption) | (refine alloc_cell _ ?_; with_reducible assumption) | go_cell); have k3_0 : w1.cell? ⟨w.heap.size + 1 + 1 + 1, 0, none⟩ = some (.int .i64 0) := up_cell hb1 (by first | (with_reducible assumption) | (refine alloc_cell _ ?_; with_reducible assumption) | go_cell); have f3_0 : w1.frozen? ⟨w.heap.size + 1 + 1 + 1, 0, none⟩ = false := up_frozen hb1 (v := .int .i64 0) (by first | (with_reducible assumption) | (refine alloc_cell _ ?_; with_reducible assumption) | go_cell) (by first | (with_reducible assumption) | (refine alloc_frozen (v := .int .i64 0) _ ?_ ?_ <;> with_reducible assumption) | (simp; done) | (go_simp; done)); have k3_1 : w1.cell? ⟨w.heap.size + 1 + 1 + 1, 1, none⟩ = some (.int .i64 0) := up_cell hb1 (by first | (with_reducible assumption) | (refine alloc_cell _ ?_; with_reducible assumption) | go_cell); have f3_1 : w1.frozen? ⟨w.heap.size + 1 + 1 + 1, 1, none⟩ = false := up_frozen hb1 (v := .int .i64 0) (by first | (with_reducible assumption) | (refine alloc_cell _ ?_; with_reducible assumption) | go_cell) (by first | (with_reducible assumption) | (refine alloc_frozen (v := .int .i64 0) _ ?_ ?_ <;> with_reducible assumption) | (simp; done) | (go_simp; done)))
    have z := mk_bx2 k3_0 k3_1 f3_0 f3_1
    obtain ⟨W9, hW9⟩ : ∃ W9 : World, W9 = ((w1.setCell ⟨w.heap.size + 1 + 1 + 1, 0, none⟩ (.int .i64 0)).setCell ⟨w.heap.size + 1 + 1 + 1, 1, none⟩ (.int .i64 0)) := ⟨_, rfl⟩
    rw [← hW9]
    have B9 : Bx W9 (w.heap.size + 1 + 1 + 1) [.int .i64 0, .int .i64 0] := by rw [hW9]; exact bx_set (bx_set z 0 _) 1 _
    have U9 : Up w W9 := by rw [hW9]; exact (by repeat' (first | (with_reducible exact up_refl _) | (with_reducible assumption) | (with_reducible refine up_alloc ?_ _) | (with_reducible refine up_drewN ?_ _) | (with_reducible refine up_drew ?_) | (with_reducible refine up_set ?_ (by first | (simp; done) | (simp; omega) | omega) _) | (refine up_trans ?_ (by with_reducible assumption))))
    clear hW9 z
    obtain ⟨p0, p1⟩ := bx2 B9
    refine bodyPost_ret (v := .tuple #[pt 0 0, .int .i64 3]) (by simp [results, Try.results57, go_sem, p0, p1]) rfl ⟨rfl, U9⟩
  · simp only [if_true] at h1 ⊢
    have h3 := hide (unhide h2 rfl)
    clear h2
    go_enter Try.func57, Try.ntmps57
    go_wp2_with (first | (go_at_call 91; (with_reducible refine (unhide h1 _).mono ?_); rintro e w1 ⟨rfl, hb1⟩; have k0_0 : w1.cell? ⟨w.heap.size, 0, none⟩ = some (.int .i64 c0) := up_cell hb1 (by first | (with_reducible assumption) | (refine alloc_cell _ ?_; with_reducible assumption) | go_cell); have k0_1 : w1.cell? ⟨w.heap.size, 1, none⟩ = some (.int .i64 c1) := up_cell hb1 (by first | (with_reducible assumption) | (refine alloc_cell _ ?_; with_reducible assumption) | go_cell); have k0_2 : w1.cell? ⟨w.heap.size, 2, none⟩ = some (.int .i64 c2) := up_cell hb1 (by first | (with_reducible assumption) | (refine alloc_cell _ ?_; with_reducible assumption) | go_cell); have k1_0 : w1.cell? ⟨w.heap.size + 1, 0, none⟩ = some (.int .i64 sx) := up_cell hb1 (by first | (with_reducible assumption) | (refine alloc_cell _ ?_; with_reducible assumption) | go_cell); have k1_1 : w1.cell? ⟨w.heap.size + 1, 1, none⟩ = some (.int .i64 sy) := up_cell hb1 (by first | (with_reducible assumption) | (refine alloc_cell _ ?_; with_reducible assumption) | go_cell); have k2_0 : w1.cell? ⟨w.heap.size + 1 + 1, 0, none⟩ = some (.int .i64 ax) := up_cell hb1 (by first | (with_reducible assumption) | (refine alloc_cell _ ?_; with_reducible assumption) | go_cell); have k2_1 : w1.cell? ⟨w.heap.size + 1 + 1, 1, none⟩ = some (.int .i64 ay) := up_cell hb1 (by first | (with_reducible assumption) | (refine alloc_cell _ ?_; with_reducible assumption) | go_cell); have k3_0 : w1.cell? ⟨w.heap.size + 1 + 1 + 1, 0, none⟩ = some (.int .i64 0) := up_cell hb1 (by first | (with_reducible assumption) | (refine alloc_cell _ ?_; with_reducible assumption) | go_cell); have f3_0 : w1.frozen? ⟨w.heap.size + 1 + 1 + 1, 0, none⟩ = false := up_frozen hb1 (v := .int .i64 0) (by first | (with_reducible assumption) | (refine alloc_cell _ ?_; with_reducible assumption) | go_cell) (by first | (with_reducible assumption) | (refine alloc_frozen (v := .int .i64 0) _ ?_ ?_ <;> with_reducible assumption) | (simp; done) | (go_simp; done)); have k3_1 : w1.cell? ⟨w.heap.size + 1 + 1 + 1, 1, none⟩ = some (.int .i64 0) := up_cell hb1 (by first | (with_reducible assumption) | (refine alloc_cell _ ?_; with_reducible assumption) | go_cell); have f3_1 : w1.frozen? ⟨w.heap.size + 1 + 1 + 1, 1, none⟩ = false := up_frozen hb1 (v := .int .i64 0) (by first | (with_reducible assumption) | (refine alloc_cell _ ?_; with_reducible assumption) | go_cell) (by first | (with_reducible assumption) | (refine alloc_frozen (v := .int .i64 0) _ ?_ ?_ <;> with_reducible assumption) | (simp; done) | (go_simp; done))) | (go_at_call 92; (with_reducible refine (unhide h3 _).mono ?_); rintro e w2 ⟨rfl, hb2⟩; have z := bx_up (mk_bx2 k3_0 k3_1 f3_0 f3_1) hb2; obtain ⟨z0, z1⟩ := bx2 z; obtain ⟨z2, z3⟩ := bxf2 z))
    obtain ⟨W9, hW9⟩ : ∃ W9 : World, W9 = ((w2.setCell ⟨w.heap.size + 1 + 1 + 1, 0, none⟩ (.int .i64 a)).setCell ⟨w.heap.size + 1 + 1 + 1, 1, none⟩ (.int .i64 b)) := ⟨_, rfl⟩
    rw [← hW9]
    have B9 : Bx W9 (w.heap.size + 1 + 1 + 1) [.int .i64 a, .int .i64 b] := by rw [hW9]; exact bx_set (bx_set z 0 _) 1 _
    have U9 : Up w W9 := by rw [hW9]; exact (by repeat' (first | (with_reducible exact up_refl _) | (with_reducible assumption) | (with_reducible refine up_alloc ?_ _) | (with_reducible refine up_drewN ?_ _) | (with_reducible refine up_drew ?_) | (with_reducible refine up_set ?_ (by first | (simp; done) | (simp; omega) | omega) _) | (refine up_trans ?_ (by with_reducible assumption))))
    clear hW9 z0 z1 z2 z3 z
    obtain ⟨p0, p1⟩ := bx2 B9
    refine bodyPost_ret (v := .tuple #[pt a b, .int .i64 0]) (by simp [results, Try.results57, go_sem, p0, p1]) rfl ⟨rfl, U9⟩
/-! ### With wind -/
def blB (c0 c1 c2 sx sy ax ay wx wy h m : Int) : Bool := lnB c0 c1 c2 sx sy ax ay && (slB wx wy 1048576 && (win h 0 131072 && win m 1 16777216))
def blE (c0 c1 c2 sx sy ax ay wx wy h m : Int) : Int := if blB c0 c1 c2 sx sy ax ay wx wy h m then 0 else 3
def blV (c0 c1 c2 sx sy ax ay wx wy h m v : Int) : Int := if blB c0 c1 c2 sx sy ax ay wx wy h m then v else 0
theorem blB_bd {wx wy h m : Int} (hs : slB wx wy 1048576 = true) (hh : win h 0 131072 = true) (hm : win m 1 16777216 = true) :
    ((-137438953472 ≤ wx * h ∧ wx * h ≤ 137438953472) ∧ -137438953472 ≤ neV (wx * h) m ∧ neV (wx * h) m ≤ 137438953472) ∧ (-137438953472 ≤ wy * h ∧ wy * h ≤ 137438953472) ∧ -137438953472 ≤ neV (wy * h) m ∧ neV (wy * h) m ≤ 137438953472 := by
  unfold slB at hs
  rw [Bool.and_eq_true, win_iff, win_iff] at hs
  rw [win_iff] at hh
  have _ := hm
  have p := Gs.mb (u := wx) (v := h) (U := 1048576) (V := 131072) (by omega) (by omega) (by omega) (by omega)
  have q := Gs.mb (u := wy) (v := h) (U := 1048576) (V := 131072) (by omega) (by omega) (by omega) (by omega)
  have p2 := ne_bd (n := wx * h) (d := m) (by omega)
  have q2 := ne_bd (n := wy * h) (d := m) (by omega)
  omega
theorem bx_five (w : World) (v1 v2 v3 v4 v5 : List Value) (t1 t2 t3 t4 t5 : TypeId) :
    Bx (((((w.alloc (.cells v1.toArray t1)).alloc (.cells v2.toArray t2)).alloc (.cells v3.toArray t3)).alloc (.cells v4.toArray t4)).alloc (.cells v5.toArray t5)) w.heap.size v1 ∧ Bx (((((w.alloc (.cells v1.toArray t1)).alloc (.cells v2.toArray t2)).alloc (.cells v3.toArray t3)).alloc (.cells v4.toArray t4)).alloc (.cells v5.toArray t5)) (w.heap.size + 1) v2 ∧ Bx (((((w.alloc (.cells v1.toArray t1)).alloc (.cells v2.toArray t2)).alloc (.cells v3.toArray t3)).alloc (.cells v4.toArray t4)).alloc (.cells v5.toArray t5)) (w.heap.size + 1 + 1) v3 ∧ Bx (((((w.alloc (.cells v1.toArray t1)).alloc (.cells v2.toArray t2)).alloc (.cells v3.toArray t3)).alloc (.cells v4.toArray t4)).alloc (.cells v5.toArray t5)) (w.heap.size + 1 + 1 + 1) v4 ∧ Bx (((((w.alloc (.cells v1.toArray t1)).alloc (.cells v2.toArray t2)).alloc (.cells v3.toArray t3)).alloc (.cells v4.toArray t4)).alloc (.cells v5.toArray t5)) (w.heap.size + 1 + 1 + 1 + 1) v5 := by
  have t := bx_three w v1 v2 v3 t1 t2 t3
  refine ⟨bx_alloc (bx_alloc t.1 _) _, bx_alloc (bx_alloc t.2.1 _) _, bx_alloc (bx_alloc t.2.2 _) _, ?_, ?_⟩
  · have u := bx_alloc (bx_new (((w.alloc (.cells v1.toArray t1)).alloc (.cells v2.toArray t2)).alloc (.cells v3.toArray t3)) v4 t4) (.cells v5.toArray t5)
    rwa [sz1, sz1, sz1] at u
  · have u := bx_new ((((w.alloc (.cells v1.toArray t1)).alloc (.cells v2.toArray t2)).alloc (.cells v3.toArray t3)).alloc (.cells v4.toArray t4)) v5 t5
    rwa [sz1, sz1, sz1, sz1] at u
end Go.Proofs.Ytgfehjhngmabeaa
