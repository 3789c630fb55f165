/- The order of points: what compare returns. -/
import Derived.Test.YtihckoenfklhpaaPt
import Derived.Test.YtihckoenfklhpaaHullM
import Derived.Sort.Grow
import Derived.StillTailTactics
namespace Go.Proofs.Ytihckoenfklhpaa
open Go.RowKit Go.Proofs.Gn
/-- What compare returns. -/
def cmp2 (ax ay bx b_y : Int) : Int := if cmpV ax bx = 0 then cmpV ay b_y else cmpV ax bx
theorem c_Or {b off : Nat} {x y : Int} (w : World) (h0 : w.cell? ⟨b, off, none⟩ = some (.int .i64 x)) (h1 : w.cell? ⟨b, off + 1, none⟩ = some (.int .i64 y)) :
    Calls Try.prog 89 #[.slice (some ⟨b, off, none⟩) 2 2] w fun e w' => e = .returned (.int .i64 (if x = 0 then y else x)) ∧ w = w' := by
  by_cases hx : x = 0
  · subst hx
    by_cases hy : y = 0
    · subst hy
      go_enter Try.func89, Try.ntmps89
      go_wp2
      go_rounds 3
      go_ret
      exact ⟨rfl, rfl⟩
    · have e1 : (y == 0) = false := by simp; exact hy
      go_enter Try.func89, Try.ntmps89
      go_wp2
      go_rounds 2
      go_ret
      exact ⟨rfl, rfl⟩
  · have e1 : (x == 0) = false := by simp; exact hx
    rw [if_neg hx]
    go_enter Try.func89, Try.ntmps89
    go_wp2
    go_rounds 1
    go_ret
    exact ⟨rfl, rfl⟩

/-- New blocks and draws, and nothing else. -/
def Gr (w w' : World) : Prop := ∃ q os, w' = Go.Sort.grow (w.drewN q) os
theorem gr_refl (w : World) : Gr w w := ⟨0, #[], by simp [Go.Sort.grow, World.drewN]⟩
theorem gr_alloc {a b : World} (h : Gr a b) (o : Obj) : Gr a (b.alloc o) := by
  obtain ⟨q, os, rfl⟩ := h
  exact ⟨q, os ++ #[o], by rw [Go.Sort.alloc_eq_grow, Go.Sort.grow_grow]⟩
theorem gr_drew {a b : World} (h : Gr a b) : Gr a b.drew := by
  obtain ⟨q, os, rfl⟩ := h
  exact ⟨q + 1, os, rfl⟩
theorem gr_up {a b : World} (h : Gr a b) : Up a b := by
  obtain ⟨q, os, rfl⟩ := h
  refine ⟨rfl, rfl, rfl, by simp, fun k hk => ?_⟩
  simp [Go.Sort.grow, Array.getElem?_append, hk]
theorem gr_cell {a b : World} (h : Gr a b) {p : Addr} {v : Value} (hc : a.cell? p = some v) : b.cell? p = some v := up_cell (gr_up h) hc
theorem gr_trans {a b c : World} (h : Gr a b) (k : Gr b c) : Gr a c := by
  obtain ⟨q, os, rfl⟩ := h
  obtain ⟨q', os', rfl⟩ := k
  exact ⟨q + q', os ++ os', by simp [Go.Sort.grow, World.drewN, Nat.add_assoc]⟩
set_option maxHeartbeats 1000000 in
theorem p_compareG (ax ay bx b_y : Int) (w : World) :
    Calls Try.prog 65 #[pt ax ay, pt bx b_y] w fun e w' => e = .returned (.int .i64 (cmp2 ax ay bx b_y)) ∧ Gr w w' := by
  obtain ⟨X, hX⟩ : ∃ X, cmpV ax bx = X := ⟨_, rfl⟩
  obtain ⟨Y, hY⟩ : ∃ X, cmpV ay b_y = X := ⟨_, rfl⟩
  unfold cmp2
  rw [hX, hY]
  have CX : ∀ W : World, Calls Try.prog 90 #[.int .i64 ax, .int .i64 bx] W fun e w' => e = .returned (.int .i64 X) ∧ W = w' := fun W => by rw [← hX]; exact c_Compare ax bx W
  have CY : ∀ W : World, Calls Try.prog 90 #[.int .i64 ay, .int .i64 b_y] W fun e w' => e = .returned (.int .i64 Y) ∧ W = w' := fun W => by rw [← hY]; exact c_Compare ay b_y W
  obtain ⟨Z, hZ⟩ : ∃ Z, (if X = 0 then Y else X) = Z := ⟨_, rfl⟩
  rw [hZ]
  have CO : ∀ (W : World) (b : Nat), W.cell? ⟨b, 0, none⟩ = some (.int .i64 X) → W.cell? ⟨b, 1, none⟩ = some (.int .i64 Y) → Calls Try.prog 89 #[.slice (some ⟨b, 0, none⟩) 2 2] W fun e w' => e = .returned (.int .i64 Z) ∧ W = w' := fun W b h0 h1 => by rw [← hZ]; exact c_Or W h0 h1
  have HCX := hide CX
  have HCY := hide CY
  have HCO := hide CO
  clear CX CY CO hX hY hZ
  go_enter Try.func65, Try.ntmps65
  go_wp2
  obtain ⟨W, hW⟩ : ∃ W : World, W = ((w.alloc (Obj.cells #[Value.int IntKind.i64 ax, Value.int IntKind.i64 ay] 24)).alloc (Obj.cells #[Value.int IntKind.i64 bx, Value.int IntKind.i64 b_y] 24)) := ⟨_, rfl⟩
  rw [← hW]
  have c1 : W.cell? ⟨w.heap.size, 0, none⟩ = some (.int .i64 ax) := by rw [hW]; go_cell
  have c2 : W.cell? ⟨w.heap.size, 1, none⟩ = some (.int .i64 ay) := by rw [hW]; go_cell
  have c3 : W.cell? ⟨w.heap.size + 1, 0, none⟩ = some (.int .i64 bx) := by rw [hW]; go_cell
  have c4 : W.cell? ⟨w.heap.size + 1, 1, none⟩ = some (.int .i64 b_y) := by rw [hW]; go_cell
  have c5 : Gr w W := by rw [hW]; exact gr_alloc (gr_alloc (gr_refl _) _) _
  clear hW
  go_region_held3 (fun wx => wx.cell? ⟨w.heap.size, 0, none⟩ = some (.int .i64 ax) ∧ wx.cell? ⟨w.heap.size, 1, none⟩ = some (.int .i64 ay) ∧ wx.cell? ⟨w.heap.size + 1, 0, none⟩ = some (.int .i64 bx) ∧ wx.cell? ⟨w.heap.size + 1, 1, none⟩ = some (.int .i64 b_y) ∧ Gr w wx)
    ((first | exact ⟨c1, c2, c3, c4, gr_drew c5⟩ | exact ⟨alloc_cell _ c1, alloc_cell _ c2, alloc_cell _ c3, alloc_cell _ c4, gr_drew (gr_alloc c5 _)⟩ | (with_reducible assumption)))
    (first | (go_at_call 90; (with_reducible refine (unhide HCX _).mono ?_); rintro e w1 ⟨rfl, rfl⟩) | (go_at_call 90; (with_reducible refine (unhide HCY _).mono ?_); rintro e w1 ⟨rfl, rfl⟩) | (go_at_call 89; (with_reducible refine (unhide HCO _ _ (by go_cell) (by go_cell)).mono ?_); rintro e w2 ⟨rfl, rfl⟩))
  all_goals go_wp2
  all_goals go_ret
  all_goals exact ⟨rfl, gr_drew (gr_alloc c5 _)⟩
theorem cmpV_neg (a b : Int) : cmpV a b < 0 ↔ a < b := by unfold cmpV; split; simp_all; split <;> simp_all
theorem cmpV_zero (a b : Int) : cmpV a b = 0 ↔ a = b := by unfold cmpV; split; omega; split <;> omega
theorem cmp2_neg (a b : Int × Int) : cmp2 a.1 a.2 b.1 b.2 < 0 ↔ Gx.lt2 a b := by
  unfold cmp2 Gx.lt2
  have h1 := cmpV_neg a.1 b.1
  have h2 := cmpV_neg a.2 b.2
  have h3 := cmpV_zero a.1 b.1
  split <;> omega
theorem cmp2_pos (a b : Int × Int) : 0 < cmp2 a.1 a.2 b.1 b.2 ↔ Gx.lt2 b a := by
  unfold cmp2 Gx.lt2 cmpV
  split <;> split <;> (try split) <;> (try split) <;> omega
theorem p_compare (ax ay bx b_y : Int) (w : World) :
    Calls Try.prog 65 #[pt ax ay, pt bx b_y] w fun e w' => e = .returned (.int .i64 (cmp2 ax ay bx b_y)) ∧ Up w w' :=
  (p_compareG ax ay bx b_y w).mono fun _ _ ⟨he, hw⟩ => ⟨he, gr_up hw⟩
end Go.Proofs.Ytihckoenfklhpaa
