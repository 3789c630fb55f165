/- What load's hulls compare by; what the example rubs. -/
import Derived.Test.YtdehnokcjnbjoaaGreatLdA
namespace Go.Proofs.YtdehnokcjnbjoaaGreat
open Go.RowKit Go.Proofs.Gn
attribute [local go_sem] Oper.semAt_some
set_option linter.unusedVariables false
set_option maxHeartbeats 1000000 in
theorem p_hcmpG (ax ay bx b_y : Int) (w : World) :
    Calls Tryz.prog 148 #[pt ax ay, pt bx b_y] w fun e w' => e = .returned (.int .i64 (cmp2 ax ay bx b_y)) ∧ Gr w w' := by
  obtain ⟨X, hX⟩ : ∃ X, cmpV ax bx = X := ⟨_, rfl⟩
  obtain ⟨Y, hY⟩ : ∃ X, cmpV ay b_y = X := ⟨_, rfl⟩
  unfold cmp2
  rw [hX, hY]
  have CX : ∀ W : World, Calls Tryz.prog 150 #[.int .i64 ax, .int .i64 bx] W fun e w' => e = .returned (.int .i64 X) ∧ W = w' := fun W => by rw [← hX]; exact c_Compare ax bx W
  have CY : ∀ W : World, Calls Tryz.prog 150 #[.int .i64 ay, .int .i64 b_y] W fun e w' => e = .returned (.int .i64 Y) ∧ W = w' := fun W => by rw [← hY]; exact c_Compare ay b_y W
  obtain ⟨Z, hZ⟩ : ∃ Z, (if X = 0 then Y else X) = Z := ⟨_, rfl⟩
  rw [hZ]
  have CO : ∀ (W : World) (b : Nat), W.cell? ⟨b, 0, none⟩ = some (.int .i64 X) → W.cell? ⟨b, 1, none⟩ = some (.int .i64 Y) → Calls Tryz.prog 149 #[.slice (some ⟨b, 0, none⟩) 2 2] W fun e w' => e = .returned (.int .i64 Z) ∧ W = w' := fun W b h0 h1 => by rw [← hZ]; exact c_Or W h0 h1
  have HCX := hide CX
  have HCY := hide CY
  have HCO := hide CO
  clear CX CY CO hX hY hZ
  go_enter Tryz.func148, Tryz.ntmps148
  go_wp2
  obtain ⟨W, hW⟩ : ∃ W : World, W = ((w.alloc (Obj.cells #[Value.int IntKind.i64 ax, Value.int IntKind.i64 ay] 55)).alloc (Obj.cells #[Value.int IntKind.i64 bx, Value.int IntKind.i64 b_y] 55)) := ⟨_, rfl⟩
  rw [← hW]
  have c1 : W.cell? ⟨w.heap.size, 0, none⟩ = some (.int .i64 ax) := by rw [hW]; go_cell
  have c2 : W.cell? ⟨w.heap.size, 1, none⟩ = some (.int .i64 ay) := by rw [hW]; go_cell
  have c3 : W.cell? ⟨w.heap.size + 1, 0, none⟩ = some (.int .i64 bx) := by rw [hW]; go_cell
  have c4 : W.cell? ⟨w.heap.size + 1, 1, none⟩ = some (.int .i64 b_y) := by rw [hW]; go_cell
  have c5 : Gr w W := by rw [hW]; exact gr_alloc (gr_alloc (gr_refl _) _) _
  clear hW
  go_region_held3 (fun wx => wx.cell? ⟨w.heap.size, 0, none⟩ = some (.int .i64 ax) ∧ wx.cell? ⟨w.heap.size, 1, none⟩ = some (.int .i64 ay) ∧ wx.cell? ⟨w.heap.size + 1, 0, none⟩ = some (.int .i64 bx) ∧ wx.cell? ⟨w.heap.size + 1, 1, none⟩ = some (.int .i64 b_y) ∧ Gr w wx)
    ((first | exact ⟨c1, c2, c3, c4, gr_drew c5⟩ | exact ⟨alloc_cell _ c1, alloc_cell _ c2, alloc_cell _ c3, alloc_cell _ c4, gr_drew (gr_alloc c5 _)⟩ | (with_reducible assumption)))
    (first | (go_at_call 150; (with_reducible refine (unhide HCX _).mono ?_); rintro e w1 ⟨rfl, rfl⟩) | (go_at_call 150; (with_reducible refine (unhide HCY _).mono ?_); rintro e w1 ⟨rfl, rfl⟩) | (go_at_call 149; (with_reducible refine (unhide HCO _ _ (by go_cell) (by go_cell)).mono ?_); rintro e w2 ⟨rfl, rfl⟩))
  all_goals go_wp2
  all_goals go_ret
  all_goals exact ⟨rfl, gr_drew (gr_alloc c5 _)⟩
theorem p_hcmp (ax ay bx b_y : Int) (w : World) :
    Calls Tryz.prog 148 #[pt ax ay, pt bx b_y] w fun e w' => e = .returned (.int .i64 (cmp2 ax ay bx b_y)) ∧ Up w w' :=
  (p_hcmpG ax ay bx b_y w).mono fun _ _ ⟨he, hw⟩ => ⟨he, gr_up hw⟩
theorem c_CompareL (a b : Int) (w : World) :
    Calls Tryz.prog 176 #[.int .i64 a, .int .i64 b] w fun e w' => e = .returned (.int .i64 (cmpV a b)) ∧ w = w' := by
  unfold cmpV
  by_cases c1 : a < b
  · go_enter Tryz.func176, Tryz.ntmps176
    go_wp2
    go_ret
    exact ⟨rfl, rfl⟩
  by_cases c2 : b < a
  · go_enter Tryz.func176, Tryz.ntmps176
    go_wp2
    go_ret
    exact ⟨rfl, rfl⟩
  · go_enter Tryz.func176, Tryz.ntmps176
    go_wp2
    go_ret
    exact ⟨rfl, rfl⟩
/-- How two ways are ordered. -/
def cwF (x y p q : Int) : Int := if cmpV (haF x y) (haF p q) = 0 then cmpV 0 (x * q - y * p) else cmpV (haF x y) (haF p q)
set_option maxRecDepth 100000 in
set_option maxHeartbeats 4000000 in
theorem p_ways (x y p q : Int) (w : World) (e1 : IntKind.i64.wrap (x * q) = x * q) (e2 : IntKind.i64.wrap (y * p) = y * p) (e3 : IntKind.i64.wrap (x * q - y * p) = x * q - y * p) :
    Calls Tryz.prog 154 #[pt x y, pt p q] w fun e w' => e = .returned (.int .i64 (cwF x y p q)) ∧ Up w w' := by
  have HA := hide (fun W => p_halfL x y W)
  have HB := hide (fun W => p_halfL p q W)
  have HC := hide (fun W => p_crossL x y p q W e1 e2 e3)
  have HD := hide (fun W => c_Compare 0 (x * q - y * p) W)
  clear e1 e2 e3
  unfold cwF
  generalize x * q - y * p = c at *
  generalize haF x y = A at *
  generalize haF p q = B at *
  have HI := hide (fun W => (c_CompareL A B W).mono fun e w' ⟨h1, h2⟩ => (⟨h1, h2 ▸ up_refl _⟩ : _ ∧ Up W w'))
  generalize cmpV A B = C at *
  generalize cmpV 0 c = D at *
  obtain ⟨R, hR⟩ : ∃ R, (if C = 0 then D else C) = R := ⟨_, rfl⟩
  rw [hR]
  have HR := hide hR
  clear hR
  go_enter Tryz.func154, Tryz.ntmps154
  go_upto_region 1 with fail
  refine at_wpC (fun W0 hW0 => ?_)
  have U0 : Up w W0 := by rw [hW0]; exact (by repeat' (first | (with_reducible exact up_refl _) | (with_reducible assumption) | (with_reducible refine up_alloc ?_ _) | (with_reducible refine up_drewN ?_ _) | (with_reducible refine up_drew ?_) | (with_reducible refine up_set ?_ (by first | (simp; done) | (simp; omega) | omega) _) | (refine up_trans ?_ (by with_reducible assumption))))
  obtain ⟨bA, bB⟩ : Bx W0 w.heap.size [.int .i64 x, .int .i64 y] ∧ Bx W0 (w.heap.size + 1) [.int .i64 p, .int .i64 q] := by
    rw [hW0]
    exact bxl2 w _ _ _
  clear hW0
  have m0 : ∀ r : UpW W0, r.v.cell? ⟨w.heap.size, 0, none⟩ = some (.int .i64 x) := fun r => (bx_up bA r.up 0 _ rfl).1
  have m1 : ∀ r : UpW W0, r.v.cell? ⟨w.heap.size, 1, none⟩ = some (.int .i64 y) := fun r => (bx_up bA r.up 1 _ rfl).1
  have m2 : ∀ r : UpW W0, r.v.cell? ⟨w.heap.size + 1, 0, none⟩ = some (.int .i64 p) := fun r => (bx_up bB r.up 0 _ rfl).1
  have m3 : ∀ r : UpW W0, r.v.cell? ⟨w.heap.size + 1, 1, none⟩ = some (.int .i64 q) := fun r => (bx_up bB r.up 1 _ rfl).1
  refine wp_upq (by kernel_rfl) (by kernel_rfl) ?_; (repeat (go_big_quiet_step ((first | (go_at_call 177; with_reducible exact upq (unhide HA _)) | (go_at_call 177; with_reducible exact upq (unhide HB _)) | (go_at_call 176; with_reducible exact upq (unhide HI _)))))); refine wpQuiet_nil ?_; intro _ hw'; obtain ⟨pq, hw''⟩ := hw'; subst hw''; have hpq := pq.up
  generalize pq.v = W1 at hpq ⊢
  have U1 := up_trans U0 hpq
  obtain ⟨a0, a1⟩ := bx2 (bx_up bA hpq)
  obtain ⟨b0, b1⟩ := bx2 (bx_up bB hpq)
  clear m0 m1 m2 m3 bA bB U0 hpq
  by_cases hC : C = 0
  · subst hC
    obtain rfl : D = R := by rw [← unhide HR, if_pos rfl]
    go_wp2_with (first
      | (go_at_call 145; (with_reducible refine (unhide HC _).mono ?_); rintro e w2 ⟨rfl, u2⟩)
      | (go_at_call 150; (with_reducible refine (unhide HD _).mono ?_); rintro e w3 ⟨rfl, rfl⟩))
    go_ret
    exact ⟨rfl, up_trans U1 u2⟩
  · obtain rfl : C = R := by rw [← unhide HR, if_neg hC]
    have t1 : (C == 0) = false := by simp [hC]
    go_wp2_with fail
    go_ret
    exact ⟨rfl, U1⟩
set_option maxRecDepth 100000 in
theorem p_tUp (n : Int) (w : World) (h : 0 ≤ n ∧ n ≤ 1000000000) :
    Calls Tryz.prog 127 #[.int .i64 n] w fun e w' => e = .returned (.int .i64 ((n + 999) / 1000)) ∧ w = w' := by
  have e1 : IntKind.i64.wrap (n + 1000) = n + 1000 := IntWalk.i64_in _ ⟨by omega, by omega⟩
  have e2 : IntKind.i64.wrap (n + 1000 - 1) = n + 999 := by rw [show n + 1000 - 1 = n + 999 by omega]; exact IntWalk.i64_in _ ⟨by omega, by omega⟩
  have e3 : (n + 999).tdiv 1000 = (n + 999) / 1000 := Int.tdiv_eq_ediv_of_nonneg (by omega)
  have e4 : IntKind.i64.wrap ((n + 999) / 1000) = (n + 999) / 1000 := IntWalk.i64_in _ ⟨by omega, by omega⟩
  have t1 : ¬ n < 0 := by omega
  go_enter Tryz.func127, Tryz.ntmps127
  go_wp2_with fail
  go_ret
  exact ⟨rfl, rfl⟩
/-- Points as cells. -/
def cellsLd (l : List (Int × Int)) : List Value := l.flatMap fun t => [.int .i64 t.1, .int .i64 t.2]
set_option maxRecDepth 100000 in
theorem p_rubs (w : World) :
    Calls Tryz.prog 122 #[.int .i64 5000, .int .i64 300] w fun e w' => (∃ g, e = .returned (.slice (some ⟨g, 0, none⟩) 8 8) ∧ Bx w' g (cellsLd ruL) ∧ w.heap.size ≤ g) ∧ Up w w' := by
  have e1 : IntKind.i64.wrap 1500000 = 1500000 := IntWalk.i64_in _ ⟨by omega, by omega⟩
  go_enter Tryz.func122, Tryz.ntmps122
  go_wp2_with fail
  go_ret
  exact ⟨⟨_, rfl, bx_new w _ _, Nat.le_refl _⟩, (by repeat' (first | (with_reducible exact up_refl _) | (with_reducible assumption) | (with_reducible refine up_alloc ?_ _) | (with_reducible refine up_drewN ?_ _) | (with_reducible refine up_drew ?_) | (with_reducible refine up_set ?_ (by first | (simp; done) | (simp; omega) | omega) _) | (refine up_trans ?_ (by with_reducible assumption))))⟩
end Go.Proofs.YtdehnokcjnbjoaaGreat
