/- PlaneTurns returns true for every input: the walk. -/
import Derived.Test.YtcicjboopipgoaaWorks
import Derived.Test.YtcicjboopipgoaaBoth
import Derived.Test.YtcicjboopipgoaaRotate
import Derived.Test.YtcicjboopipgoaaBx
namespace Go.Proofs.Ytcicjboopipgoaa
open Go.RowKit Go.Proofs.Gn
theorem r_Half (n d : Int) (w : World) :
    Calls Try.prog 52 #[.int .i64 n, .int .i64 d] w fun e w' => e = .returned (.tuple #[rt (halC n d) (halS n d) (halN n d), .int .i64 (halE n d)]) ∧ Up w w' := by
  unfold halC halS halN halE
  cases hb : halB n d
  · have hn := halB_no hb
    clear hb
    by_cases c1 : 1 ≤ d ∧ d ≤ 2048
    · have e1 : (decide (1 ≤ d) && decide (d ≤ 2048)) = true := by simpa using c1
      have e2 : (decide (-2048 ≤ n) && decide (n ≤ 2048)) = false := by simp; omega
      clear hn c1
      go_enter Try.func52, Try.ntmps52
      go_wp2_with (go_at_call 68; refine (r_In _ _ _ _).mono ?_; rintro e w' ⟨rfl, rfl⟩)
      go_returns
      exact ⟨rfl, (by repeat' (first | (with_reducible exact up_refl _) | (with_reducible assumption) | (with_reducible refine up_alloc ?_ _) | (with_reducible refine up_drewN ?_ _) | (with_reducible refine up_drew ?_) | (with_reducible refine up_set ?_ (by first | (simp; done) | (simp; omega) | omega) _) | (refine up_trans ?_ (by with_reducible assumption))))⟩
    · have e1 : (decide (1 ≤ d) && decide (d ≤ 2048)) = false := by simp; omega
      clear hn c1
      go_enter Try.func52, Try.ntmps52
      go_wp2_with (go_at_call 68; refine (r_In _ _ _ _).mono ?_; rintro e w' ⟨rfl, rfl⟩)
      go_returns
      exact ⟨rfl, (by repeat' (first | (with_reducible exact up_refl _) | (with_reducible assumption) | (with_reducible refine up_alloc ?_ _) | (with_reducible refine up_drewN ?_ _) | (with_reducible refine up_drew ?_) | (with_reducible refine up_set ?_ (by first | (simp; done) | (simp; omega) | omega) _) | (refine up_trans ?_ (by with_reducible assumption))))⟩
  · obtain ⟨b1, b2, b3, b4⟩ := halB_yes hb
    have e1 : (decide (1 ≤ d) && decide (d ≤ 2048)) = true := by simp; omega
    have e2 : (decide (-2048 ≤ n) && decide (n ≤ 2048)) = true := by simp; omega
    have m1 := mul_bd (u := n) (v := n) (by omega) (by omega) (by omega) (by omega)
    have m2 := mul_bd (u := d) (v := d) (by omega) (by omega) (by omega) (by omega)
    have m3 := mul_bd (u := 2 * n) (v := d) (by omega) (by omega) (by omega) (by omega)
    clear hb
    go_enter Try.func52, Try.ntmps52
    go_wp2_with (go_at_call 68; refine (r_In _ _ _ _).mono ?_; rintro e w' ⟨rfl, rfl⟩)
    go_returns
    exact ⟨rfl, (by repeat' (first | (with_reducible exact up_refl _) | (with_reducible assumption) | (with_reducible refine up_alloc ?_ _) | (with_reducible refine up_drewN ?_ _) | (with_reducible refine up_drew ?_) | (with_reducible refine up_set ?_ (by first | (simp; done) | (simp; omega) | omega) _) | (refine up_trans ?_ (by with_reducible assumption))))⟩
set_option maxRecDepth 100000 in
set_option maxHeartbeats 4000000 in
theorem l_Turns (c s n c' s' n' k d px py ox oy : Int) (h1 : -9223372036854775808 ≤ c) (h2 : c ≤ 9223372036854775807) (h3 : -9223372036854775808 ≤ c') (h4 : c' ≤ 9223372036854775807) (w : World) :
    Calls Try.prog 7 #[rt c s n, rt c' s' n', .int .i64 k, .int .i64 d, pt px py, pt ox oy] w fun e w' => e = .returned (.bool true) ∧ Up w w' := by
  obtain ⟨hC, qhC⟩ : ∃ z, halC k d = z := ⟨_, rfl⟩
  obtain ⟨hS, qhS⟩ : ∃ z, halS k d = z := ⟨_, rfl⟩
  obtain ⟨hN, qhN⟩ : ∃ z, halN k d = z := ⟨_, rfl⟩
  obtain ⟨hE, qhE⟩ : ∃ z, halE k d = z := ⟨_, rfl⟩
  obtain ⟨BC, qBC⟩ : ∃ z, boV c s n c' s' n' (boC c s c' s') = z := ⟨_, rfl⟩
  obtain ⟨BS, qBS⟩ : ∃ z, boV c s n c' s' n' (boS c s c' s') = z := ⟨_, rfl⟩
  obtain ⟨BN, qBN⟩ : ∃ z, boV c s n c' s' n' (n * n') = z := ⟨_, rfl⟩
  obtain ⟨BE, qBE⟩ : ∃ z, boE c s n c' s' n' = z := ⟨_, rfl⟩
  obtain ⟨RX, qRX⟩ : ∃ z, rtV px py ox oy c s n (roX px py ox oy c s n) = z := ⟨_, rfl⟩
  obtain ⟨RY, qRY⟩ : ∃ z, rtV px py ox oy c s n (roY px py ox oy c s n) = z := ⟨_, rfl⟩
  obtain ⟨RE, qRE⟩ : ∃ z, rtE px py ox oy c s n = z := ⟨_, rfl⟩
  have P1 : ∀ W : World, Calls Try.prog 51 #[.int .i64 k, .int .i64 d] W fun e w' => e = .returned (.tuple #[rt hC hS hN, .int .i64 hE]) ∧ Up W w' := fun W => by
    have := p_Half k d W
    rwa [qhC, qhS, qhN, qhE] at this
  replace P1 := hide P1
  have P2 : ∀ W : World, Calls Try.prog 52 #[.int .i64 k, .int .i64 d] W fun e w' => e = .returned (.tuple #[rt hC hS hN, .int .i64 hE]) ∧ Up W w' := fun W => by
    have := r_Half k d W
    rwa [qhC, qhS, qhN, qhE] at this
  replace P2 := hide P2
  have P5 : ∀ W : World, Calls Try.prog 55 #[rt c s n, rt c' s' n'] W fun e w' => e = .returned (.tuple #[rt BC BS BN, .int .i64 BE]) ∧ Up W w' := fun W => by
    have := p_Both c s n c' s' n' W h1 h2 h3 h4
    rwa [qBC, qBS, qBN, qBE] at this
  replace P5 := hide P5
  have P6 : ∀ W : World, Calls Try.prog 56 #[rt c s n, rt c' s' n'] W fun e w' => e = .returned (.tuple #[rt BC BS BN, .int .i64 BE]) ∧ Up W w' := fun W => by
    have := r_Both c s n c' s' n' W
    rwa [qBC, qBS, qBN, qBE] at this
  replace P6 := hide P6
  have P7 : ∀ W : World, Calls Try.prog 57 #[pt px py, pt ox oy, rt c s n] W fun e w' => e = .returned (.tuple #[pt RX RY, .int .i64 RE]) ∧ Up W w' := fun W => by
    have := p_Rotate px py ox oy c s n W h1 h2
    rwa [qRX, qRY, qRE] at this
  replace P7 := hide P7
  have P8 : ∀ W : World, Calls Try.prog 58 #[pt px py, pt ox oy, rt c s n] W fun e w' => e = .returned (.tuple #[pt RX RY, .int .i64 RE]) ∧ Up W w' := fun W => by
    have := r_Rotate px py ox oy c s n W
    rwa [qRX, qRY, qRE] at this
  replace P8 := hide P8
  clear qhC qhS qhN qhE qBC qBS qBN qBE qRX qRY qRE
  go_enter Try.func7, Try.ntmps7
  go_upto_region 3 with (first | (go_at_call 51; refine (unhide P1 _).mono ?_; rintro e w1 ⟨rfl, hb1⟩; have k0_0 : w1.cell? ⟨w.heap.size, 0, none⟩ = some (.int .i64 c) := up_cell hb1 (by first | (with_reducible assumption) | (refine alloc_cell _ ?_; with_reducible assumption) | go_cell); have f0_0 : w1.frozen? ⟨w.heap.size, 0, none⟩ = false := up_frozen hb1 (v := .int .i64 c) (by first | (with_reducible assumption) | (refine alloc_cell _ ?_; with_reducible assumption) | go_cell) (by first | (with_reducible assumption) | (refine alloc_frozen (v := .int .i64 c) _ ?_ ?_ <;> with_reducible assumption) | (simp; done) | (go_simp; done)); have k0_1 : w1.cell? ⟨w.heap.size, 1, none⟩ = some (.int .i64 s) := up_cell hb1 (by first | (with_reducible assumption) | (refine alloc_cell _ ?_; with_reducible assumption) | go_cell); have f0_1 : w1.frozen? ⟨w.heap.size, 1, none⟩ = false := up_frozen hb1 (v := .int .i64 s) (by first | (with_reducible assumption) | (refine alloc_cell _ ?_; with_reducible assumption) | go_cell) (by first | (with_reducible assumption) | (refine alloc_frozen (v := .int .i64 s) _ ?_ ?_ <;> with_reducible assumption) | (simp; done) | (go_simp; done)); have k0_2 : w1.cell? ⟨w.heap.size, 2, none⟩ = some (.int .i64 n) := up_cell hb1 (by first | (with_reducible assumption) | (refine alloc_cell _ ?_; with_reducible assumption) | go_cell); have f0_2 : w1.frozen? ⟨w.heap.size, 2, none⟩ = false := up_frozen hb1 (v := .int .i64 n) (by first | (with_reducible assumption) | (refine alloc_cell _ ?_; with_reducible assumption) | go_cell) (by first | (with_reducible assumption) | (refine alloc_frozen (v := .int .i64 n) _ ?_ ?_ <;> with_reducible assumption) | (simp; done) | (go_simp; done)); have k1_0 : w1.cell? ⟨w.heap.size + 1, 0, none⟩ = some (.int .i64 c') := up_cell hb1 (by first | (with_reducible assumption) | (refine alloc_cell _ ?_; with_reducible assumption) | go_cell); have f1_0 : w1.frozen? ⟨w.heap.size + 1, 0, none⟩ = false := up_frozen hb1 (v := .int .i64 c') (by first | (with_reducible assumption) | (refine alloc_cell _ ?_; with_reducible assumption) | go_cell) (by first | (with_reducible assumption) | (refine alloc_frozen (v := .int .i64 c') _ ?_ ?_ <;> with_reducible assumption) | (simp; done) | (go_simp; done)); have k1_1 : w1.cell? ⟨w.heap.size + 1, 1, none⟩ = some (.int .i64 s') := up_cell hb1 (by first | (with_reducible assumption) | (refine alloc_cell _ ?_; with_reducible assumption) | go_cell); have f1_1 : w1.frozen? ⟨w.heap.size + 1, 1, none⟩ = false := up_frozen hb1 (v := .int .i64 s') (by first | (with_reducible assumption) | (refine alloc_cell _ ?_; with_reducible assumption) | go_cell) (by first | (with_reducible assumption) | (refine alloc_frozen (v := .int .i64 s') _ ?_ ?_ <;> with_reducible assumption) | (simp; done) | (go_simp; done)); have k1_2 : w1.cell? ⟨w.heap.size + 1, 2, none⟩ = some (.int .i64 n') := up_cell hb1 (by first | (with_reducible assumption) | (refine alloc_cell _ ?_; with_reducible assumption) | go_cell); have f1_2 : w1.frozen? ⟨w.heap.size + 1, 2, none⟩ = false := up_frozen hb1 (v := .int .i64 n') (by first | (with_reducible assumption) | (refine alloc_cell _ ?_; with_reducible assumption) | go_cell) (by first | (with_reducible assumption) | (refine alloc_frozen (v := .int .i64 n') _ ?_ ?_ <;> with_reducible assumption) | (simp; done) | (go_simp; done)); have k2_0 : w1.cell? ⟨w.heap.size + 1 + 1, 0, none⟩ = some (.int .i64 px) := up_cell hb1 (by first | (with_reducible assumption) | (refine alloc_cell _ ?_; with_reducible assumption) | go_cell); have f2_0 : w1.frozen? ⟨w.heap.size + 1 + 1, 0, none⟩ = false := up_frozen hb1 (v := .int .i64 px) (by first | (with_reducible assumption) | (refine alloc_cell _ ?_; with_reducible assumption) | go_cell) (by first | (with_reducible assumption) | (refine alloc_frozen (v := .int .i64 px) _ ?_ ?_ <;> with_reducible assumption) | (simp; done) | (go_simp; done)); have k2_1 : w1.cell? ⟨w.heap.size + 1 + 1, 1, none⟩ = some (.int .i64 py) := up_cell hb1 (by first | (with_reducible assumption) | (refine alloc_cell _ ?_; with_reducible assumption) | go_cell); have f2_1 : w1.frozen? ⟨w.heap.size + 1 + 1, 1, none⟩ = false := up_frozen hb1 (v := .int .i64 py) (by first | (with_reducible assumption) | (refine alloc_cell _ ?_; with_reducible assumption) | go_cell) (by first | (with_reducible assumption) | (refine alloc_frozen (v := .int .i64 py) _ ?_ ?_ <;> with_reducible assumption) | (simp; done) | (go_simp; done)); have k3_0 : w1.cell? ⟨w.heap.size + 1 + 1 + 1, 0, none⟩ = some (.int .i64 ox) := up_cell hb1 (by first | (with_reducible assumption) | (refine alloc_cell _ ?_; with_reducible assumption) | go_cell); have f3_0 : w1.frozen? ⟨w.heap.size + 1 + 1 + 1, 0, none⟩ = false := up_frozen hb1 (v := .int .i64 ox) (by first | (with_reducible assumption) | (refine alloc_cell _ ?_; with_reducible assumption) | go_cell) (by first | (with_reducible assumption) | (refine alloc_frozen (v := .int .i64 ox) _ ?_ ?_ <;> with_reducible assumption) | (simp; done) | (go_simp; done)); have k3_1 : w1.cell? ⟨w.heap.size + 1 + 1 + 1, 1, none⟩ = some (.int .i64 oy) := up_cell hb1 (by first | (with_reducible assumption) | (refine alloc_cell _ ?_; with_reducible assumption) | go_cell); have f3_1 : w1.frozen? ⟨w.heap.size + 1 + 1 + 1, 1, none⟩ = false := up_frozen hb1 (v := .int .i64 oy) (by first | (with_reducible assumption) | (refine alloc_cell _ ?_; with_reducible assumption) | go_cell) (by first | (with_reducible assumption) | (refine alloc_frozen (v := .int .i64 oy) _ ?_ ?_ <;> with_reducible assumption) | (simp; done) | (go_simp; done)); have y0 := mk_bx3 k0_0 k0_1 k0_2 f0_0 f0_1 f0_2; have y1 := mk_bx3 k1_0 k1_1 k1_2 f1_0 f1_1 f1_2; have y2 := mk_bx2 k2_0 k2_1 f2_0 f2_1; have y3 := mk_bx2 k3_0 k3_1 f3_0 f3_1) | (go_at_call 52; refine (unhide P2 _).mono ?_; rintro e w2 ⟨rfl, hb2⟩; have hz2 := up_size hb2; simp only [World.size_alloc] at hz2; replace y0 := bx_up (bx_alloc y0 _) hb2; replace y1 := bx_up (bx_alloc y1 _) hb2; replace y2 := bx_up (bx_alloc y2 _) hb2; replace y3 := bx_up (bx_alloc y3 _) hb2; have y4 : Bx w2 w1.heap.size [.int .i64 hC, .int .i64 hS, .int .i64 hN] := bx_up (bx_new w1 [.int .i64 hC, .int .i64 hS, .int .i64 hN] 58) hb2))
  have hU2 : Up w w2 := (by repeat' (first | (with_reducible exact up_refl _) | (with_reducible assumption) | (with_reducible refine up_alloc ?_ _) | (with_reducible refine up_drewN ?_ _) | (with_reducible refine up_drew ?_) | (with_reducible refine up_set ?_ (by first | (simp; done) | (simp; omega) | omega) _) | (refine up_trans ?_ (by with_reducible assumption))))
  have hz1 : w.heap.size + 1 + 1 + 1 < w1.heap.size := by have := up_size hb1; simp only [World.size_alloc] at this; omega
  obtain ⟨W2, hW2⟩ : ∃ W : World, W = w2.alloc (Obj.cells #[Value.int IntKind.i64 hC, Value.int IntKind.i64 hS, Value.int IntKind.i64 hN] 58) := ⟨_, rfl⟩
  have hUW : Up w2 W2 := by rw [hW2]; exact up_alloc (up_refl _) _
  have y5 : Bx W2 w2.heap.size [.int .i64 hC, .int .i64 hS, .int .i64 hN] := by rw [hW2]; exact bx_new w2 [.int .i64 hC, .int .i64 hS, .int .i64 hN] 58
  replace y0 := bx_up y0 hUW
  replace y1 := bx_up y1 hUW
  replace y2 := bx_up y2 hUW
  replace y3 := bx_up y3 hUW
  replace y4 := bx_up y4 hUW
  replace hU2 := up_trans hU2 hUW
  rw [← hW2]
  have hz3 : w1.heap.size < w2.heap.size := by omega
  clear hW2 hUW hb1 hb2 hz2 k0_0 k0_1 k0_2 f0_0 f0_1 f0_2 k1_0 k1_1 k1_2 f1_0 f1_1 f1_2 k2_0 k2_1 f2_0 f2_1 k3_0 k3_1 f3_0 f3_1
  obtain ⟨a0, a1, a2⟩ := bx3 y4
  obtain ⟨b0, b1, b2⟩ := bx3 y5
  obtain ⟨d0, d1, d2⟩ := bx3 y0
  go_cut [47] (fun s47 wx => s47 = .bool false ∧ Up W2 wx)
  case first =>
    have keep := (st_and (st_cell ⟨w1.heap.size, 0, none⟩ (.int .i64 hC)) (st_and (st_cell ⟨w1.heap.size, 1, none⟩ (.int .i64 hS)) (st_and (st_cell ⟨w1.heap.size, 2, none⟩ (.int .i64 hN)) (st_and (st_cell ⟨w2.heap.size, 0, none⟩ (.int .i64 hC)) (st_and (st_cell ⟨w2.heap.size, 1, none⟩ (.int .i64 hS)) (st_and (st_cell ⟨w2.heap.size, 2, none⟩ (.int .i64 hN)) (st_and (st_cell ⟨w.heap.size, 0, none⟩ (.int .i64 c)) (st_and (st_cell ⟨w.heap.size, 1, none⟩ (.int .i64 s)) (st_and (st_cell ⟨w.heap.size, 2, none⟩ (.int .i64 n)) (st_up W2))))))))))
    have hkeep := hide keep
    clear keep
    go_region_held3 (fun wx => wx.cell? ⟨w1.heap.size, 0, none⟩ = some (.int .i64 hC) ∧ wx.cell? ⟨w1.heap.size, 1, none⟩ = some (.int .i64 hS) ∧ wx.cell? ⟨w1.heap.size, 2, none⟩ = some (.int .i64 hN) ∧ wx.cell? ⟨w2.heap.size, 0, none⟩ = some (.int .i64 hC) ∧ wx.cell? ⟨w2.heap.size, 1, none⟩ = some (.int .i64 hS) ∧ wx.cell? ⟨w2.heap.size, 2, none⟩ = some (.int .i64 hN) ∧ wx.cell? ⟨w.heap.size, 0, none⟩ = some (.int .i64 c) ∧ wx.cell? ⟨w.heap.size, 1, none⟩ = some (.int .i64 s) ∧ wx.cell? ⟨w.heap.size, 2, none⟩ = some (.int .i64 n) ∧ Up W2 wx) ((first | exact ⟨a0, a1, a2, b0, b1, b2, d0, d1, d2, up_drew (up_refl _)⟩ | (with_reducible assumption) | exact unhide hkeep _ _ hb3 (by assumption)))
      (first | (go_at_call 53; refine (p_CheckRot _ _ _ _ h1 h2).mono ?_; rintro e w3 ⟨rfl, hb3⟩) | (go_at_call 54; refine (r_CheckRot _ _ _ _).mono ?_; rintro e w3 ⟨rfl, hb3⟩))
    all_goals
      have hS : w3.cell? ⟨w1.heap.size, 0, none⟩ = some (.int .i64 hC) ∧ w3.cell? ⟨w1.heap.size, 1, none⟩ = some (.int .i64 hS) ∧ w3.cell? ⟨w1.heap.size, 2, none⟩ = some (.int .i64 hN) ∧ w3.cell? ⟨w2.heap.size, 0, none⟩ = some (.int .i64 hC) ∧ w3.cell? ⟨w2.heap.size, 1, none⟩ = some (.int .i64 hS) ∧ w3.cell? ⟨w2.heap.size, 2, none⟩ = some (.int .i64 hN) ∧ w3.cell? ⟨w.heap.size, 0, none⟩ = some (.int .i64 c) ∧ w3.cell? ⟨w.heap.size, 1, none⟩ = some (.int .i64 s) ∧ w3.cell? ⟨w.heap.size, 2, none⟩ = some (.int .i64 n) ∧ Up W2 w3 := by assumption
      have HS := hide hS.2.2.2.2.2.2.2.2.2
      clear hS
      go_wp2_with fail
      go_meet
      exact ⟨by simp, unhide HS⟩
  case rest =>
    obtain ⟨rfl, hu⟩ := hcut
    replace y0 := bx_up y0 hu
    replace y1 := bx_up y1 hu
    replace y2 := bx_up y2 hu
    replace y3 := bx_up y3 hu
    replace y4 := bx_up y4 hu
    replace y5 := bx_up y5 hu
    replace hU2 := up_trans hU2 hu
    clear a0 a1 a2 b0 b1 b2 d0 d1 d2 hu
    obtain ⟨d0, d1, d2⟩ := bx3 y0
    obtain ⟨d3, d4, d5⟩ := bx3 y1
    go_wp2_with fail
    go_upto_region 6 with (first | (go_at_call 55; refine (unhide P5 _).mono ?_; rintro e w4 ⟨rfl, hb4⟩; replace y0 := bx_up y0 hb4; replace y1 := bx_up y1 hb4; replace y2 := bx_up y2 hb4; replace y3 := bx_up y3 hb4; replace y4 := bx_up y4 hb4; replace y5 := bx_up y5 hb4; obtain ⟨a0, a1, a2⟩ := bx3 y4; obtain ⟨f0, f1, f2⟩ := bxf3 y4))
    replace hU2 := up_trans hU2 hb4
    obtain ⟨W4, hW4⟩ : ∃ W : World, W = (((w4.setCell ⟨w1.heap.size, 0, none⟩ (.int .i64 BC)).setCell ⟨w1.heap.size, 1, none⟩ (.int .i64 BS)).setCell ⟨w1.heap.size, 2, none⟩ (.int .i64 BN)) := ⟨_, rfl⟩
    rw [← hW4]
    replace y0 := bx_far3 (g := w1.heap.size) (v0 := .int .i64 BC) (v1 := .int .i64 BS) (v2 := .int .i64 BN) y0 (by omega)
    rw [← hW4] at y0
    replace y1 := bx_far3 (g := w1.heap.size) (v0 := .int .i64 BC) (v1 := .int .i64 BS) (v2 := .int .i64 BN) y1 (by omega)
    rw [← hW4] at y1
    replace y2 := bx_far3 (g := w1.heap.size) (v0 := .int .i64 BC) (v1 := .int .i64 BS) (v2 := .int .i64 BN) y2 (by omega)
    rw [← hW4] at y2
    replace y3 := bx_far3 (g := w1.heap.size) (v0 := .int .i64 BC) (v1 := .int .i64 BS) (v2 := .int .i64 BN) y3 (by omega)
    rw [← hW4] at y3
    replace y4 : Bx W4 w1.heap.size [.int .i64 BC, .int .i64 BS, .int .i64 BN] := by rw [hW4]; exact bx_set3 y4
    replace y5 := bx_far3 (g := w1.heap.size) (v0 := .int .i64 BC) (v1 := .int .i64 BS) (v2 := .int .i64 BN) y5 (by omega)
    rw [← hW4] at y5
    replace hU2 : Up w W4 := by rw [hW4]; exact (by repeat' (first | (with_reducible exact up_refl _) | (with_reducible assumption) | (with_reducible refine up_alloc ?_ _) | (with_reducible refine up_drewN ?_ _) | (with_reducible refine up_drew ?_) | (with_reducible refine up_set ?_ (by first | (simp; done) | (simp; omega) | omega) _) | (refine up_trans ?_ (by with_reducible assumption))))
    clear hW4
    clear a0 a1 a2 f0 f1 f2 d0 d1 d2 d3 d4 d5 hb4
    obtain ⟨d0, d1, d2⟩ := bx3 y0
    obtain ⟨d3, d4, d5⟩ := bx3 y1
    go_upto_region 7 with (first | (go_at_call 56; refine (unhide P6 _).mono ?_; rintro e w5 ⟨rfl, hb5⟩; replace y0 := bx_up y0 hb5; replace y1 := bx_up y1 hb5; replace y2 := bx_up y2 hb5; replace y3 := bx_up y3 hb5; replace y4 := bx_up y4 hb5; replace y5 := bx_up y5 hb5; obtain ⟨a0, a1, a2⟩ := bx3 y5; obtain ⟨f0, f1, f2⟩ := bxf3 y5))
    replace hU2 := up_trans hU2 hb5
    obtain ⟨W5, hW5⟩ : ∃ W : World, W = (((w5.setCell ⟨w2.heap.size, 0, none⟩ (.int .i64 BC)).setCell ⟨w2.heap.size, 1, none⟩ (.int .i64 BS)).setCell ⟨w2.heap.size, 2, none⟩ (.int .i64 BN)) := ⟨_, rfl⟩
    rw [← hW5]
    replace y0 := bx_far3 (g := w2.heap.size) (v0 := .int .i64 BC) (v1 := .int .i64 BS) (v2 := .int .i64 BN) y0 (by omega)
    rw [← hW5] at y0
    replace y1 := bx_far3 (g := w2.heap.size) (v0 := .int .i64 BC) (v1 := .int .i64 BS) (v2 := .int .i64 BN) y1 (by omega)
    rw [← hW5] at y1
    replace y2 := bx_far3 (g := w2.heap.size) (v0 := .int .i64 BC) (v1 := .int .i64 BS) (v2 := .int .i64 BN) y2 (by omega)
    rw [← hW5] at y2
    replace y3 := bx_far3 (g := w2.heap.size) (v0 := .int .i64 BC) (v1 := .int .i64 BS) (v2 := .int .i64 BN) y3 (by omega)
    rw [← hW5] at y3
    replace y4 := bx_far3 (g := w2.heap.size) (v0 := .int .i64 BC) (v1 := .int .i64 BS) (v2 := .int .i64 BN) y4 (by omega)
    rw [← hW5] at y4
    replace y5 : Bx W5 w2.heap.size [.int .i64 BC, .int .i64 BS, .int .i64 BN] := by rw [hW5]; exact bx_set3 y5
    replace hU2 : Up w W5 := by rw [hW5]; exact (by repeat' (first | (with_reducible exact up_refl _) | (with_reducible assumption) | (with_reducible refine up_alloc ?_ _) | (with_reducible refine up_drewN ?_ _) | (with_reducible refine up_drew ?_) | (with_reducible refine up_set ?_ (by first | (simp; done) | (simp; omega) | omega) _) | (refine up_trans ?_ (by with_reducible assumption))))
    clear hW5
    clear a0 a1 a2 f0 f1 f2 d0 d1 d2 d3 d4 d5 hb5
    obtain ⟨c0_0, c0_1, c0_2⟩ := bx3 y0
    obtain ⟨c2_0, c2_1⟩ := bx2 y2
    obtain ⟨c3_0, c3_1⟩ := bx2 y3
    go_wp2_with (first | (go_at_call 57; refine (unhide P7 _).mono ?_; rintro e w7 ⟨rfl, hb7⟩; replace y0 := bx_up y0 hb7; replace y1 := bx_up y1 hb7; replace y2 := bx_up y2 hb7; replace y3 := bx_up y3 hb7; replace y4 := bx_up y4 hb7; replace y5 := bx_up y5 hb7; obtain ⟨c0_0, c0_1, c0_2⟩ := bx3 y0; obtain ⟨c2_0, c2_1⟩ := bx2 y2; obtain ⟨c3_0, c3_1⟩ := bx2 y3; have r00 := fun o => alloc_cell o c0_0; have r01 := fun o => alloc_cell o c0_1; have r02 := fun o => alloc_cell o c0_2; have r20 := fun o => alloc_cell o c2_0; have r21 := fun o => alloc_cell o c2_1; have r30 := fun o => alloc_cell o c3_0; have r31 := fun o => alloc_cell o c3_1) | (go_at_call 58; refine (unhide P8 _).mono ?_; rintro e w8 ⟨rfl, hb8⟩; replace y4 := bx_up (bx_alloc y4 _) hb8; replace y5 := bx_up (bx_alloc y5 _) hb8; have y6 : Bx w8 w7.heap.size [.int .i64 RX, .int .i64 RY] := bx_up (bx_new w7 [.int .i64 RX, .int .i64 RY] 23) hb8; obtain ⟨c4_0, c4_1, c4_2⟩ := bx3 y4; obtain ⟨c5_0, c5_1, c5_2⟩ := bx3 y5; obtain ⟨c6_0, c6_1⟩ := bx2 y6; have t40 := fun o => alloc_cell o c4_0; have t41 := fun o => alloc_cell o c4_1; have t42 := fun o => alloc_cell o c4_2; have t50 := fun o => alloc_cell o c5_0; have t51 := fun o => alloc_cell o c5_1; have t52 := fun o => alloc_cell o c5_2; have t60 := fun o => alloc_cell o c6_0; have t61 := fun o => alloc_cell o c6_1) | (go_at_call 27; refine (l_works _).mono ?_; rintro e w9 ⟨rfl, hb9⟩))
    go_ret
    exact ⟨rfl, (by repeat' (first | (with_reducible exact up_refl _) | (with_reducible assumption) | (with_reducible refine up_alloc ?_ _) | (with_reducible refine up_drewN ?_ _) | (with_reducible refine up_drew ?_) | (with_reducible refine up_set ?_ (by first | (simp; done) | (simp; omega) | omega) _) | (refine up_trans ?_ (by with_reducible assumption))))⟩
end Go.Proofs.Ytcicjboopipgoaa
