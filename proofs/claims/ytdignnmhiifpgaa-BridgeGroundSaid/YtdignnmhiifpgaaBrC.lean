/- Which of two effects is the worse: what the closure of worst returns. -/
import Derived.Test.YtdignnmhiifpgaaBrE
namespace Go.Proofs.Ytdignnmhiifpgaa
open Go.RowKit Go.Proofs.Gn
def efA (v sp po s : Int) : Value := .agg #[.int .i64 v, .int .i64 sp, .int .i64 po, .int .i64 s]
/-- What the closure returns: greater values are worse, and then lesser places. -/
def cmpE (v s v' s' : Int) : Int := if cmpV v v' = 0 then cmpV s' s else cmpV v v'
theorem cmpE_pos (v s v' s' : Int) : 0 < cmpE v s v' s' ↔ v' < v ∨ (v = v' ∧ s < s') := by
  unfold cmpE cmpV
  split <;> split <;> (try split) <;> (try split) <;> omega
set_option maxHeartbeats 1000000 in
theorem p_worst1 (v sp po s v' sp' po' s' : Int) (w : World) :
    Calls Try.prog 77 #[efA v sp po s, efA v' sp' po' s'] w fun e w' => e = .returned (.int .i64 (cmpE v s v' s')) ∧ Up w w' := by
  unfold efA
  obtain ⟨X, hX⟩ : ∃ X, cmpV v v' = X := ⟨_, rfl⟩
  obtain ⟨Y, hY⟩ : ∃ X, cmpV s' s = X := ⟨_, rfl⟩
  unfold cmpE
  rw [hX, hY]
  have CX : ∀ W : World, Calls Try.prog 40 #[.int .i64 v, .int .i64 v'] W fun e w' => e = .returned (.int .i64 X) ∧ W = w' := fun W => by rw [← hX]; exact c_Compare v v' W
  have CY : ∀ W : World, Calls Try.prog 40 #[.int .i64 s', .int .i64 s] W fun e w' => e = .returned (.int .i64 Y) ∧ W = w' := fun W => by rw [← hY]; exact c_Compare s' s W
  obtain ⟨Z, hZ⟩ : ∃ Z, (if X = 0 then Y else X) = Z := ⟨_, rfl⟩
  rw [hZ]
  have CO : ∀ (W : World) (b : Nat), W.cell? ⟨b, 0, none⟩ = some (.int .i64 X) → W.cell? ⟨b, 1, none⟩ = some (.int .i64 Y) → Calls Try.prog 78 #[.slice (some ⟨b, 0, none⟩) 2 2] W fun e w' => e = .returned (.int .i64 Z) ∧ W = w' := fun W b h0 h1 => by rw [← hZ]; exact c_Or W h0 h1
  have HCX := hide CX
  have HCY := hide CY
  have HCO := hide CO
  clear CX CY CO hX hY hZ
  go_enter Try.func77, Try.ntmps77
  go_upto_region 1 with fail
  refine at_wpB (fun W hW => ?_)
  have c1 : W.cell? ⟨w.heap.size, 0, none⟩ = some (.int .i64 v) := by rw [hW]; go_cell
  have c2 : W.cell? ⟨w.heap.size, 3, none⟩ = some (.int .i64 s) := by rw [hW]; go_cell
  have c3 : W.cell? ⟨w.heap.size + 1, 0, none⟩ = some (.int .i64 v') := by rw [hW]; go_cell
  have c4 : W.cell? ⟨w.heap.size + 1, 3, none⟩ = some (.int .i64 s') := by rw [hW]; go_cell
  have c5 : Up w W := by rw [hW]; exact (by repeat' (first | (with_reducible exact up_refl _) | (with_reducible assumption) | (with_reducible refine up_alloc ?_ _) | (with_reducible refine up_drewN ?_ _) | (with_reducible refine up_drew ?_) | (with_reducible refine up_set ?_ (by first | (simp; done) | (simp; omega) | omega) _) | (refine up_trans ?_ (by with_reducible assumption))))
  clear hW
  go_region_held3 (fun wx => wx.cell? ⟨w.heap.size, 0, none⟩ = some (.int .i64 v) ∧ wx.cell? ⟨w.heap.size, 3, none⟩ = some (.int .i64 s) ∧ wx.cell? ⟨w.heap.size + 1, 0, none⟩ = some (.int .i64 v') ∧ wx.cell? ⟨w.heap.size + 1, 3, none⟩ = some (.int .i64 s') ∧ Up w wx)
    ((first | exact ⟨c1, c2, c3, c4, up_drew c5⟩ | exact ⟨alloc_cell _ c1, alloc_cell _ c2, alloc_cell _ c3, alloc_cell _ c4, up_drew (up_alloc c5 _)⟩ | (with_reducible assumption)))
    (first | (go_at_call 40; (with_reducible refine (unhide HCX _).mono ?_); rintro e w1 ⟨rfl, rfl⟩) | (go_at_call 40; (with_reducible refine (unhide HCY _).mono ?_); rintro e w1 ⟨rfl, rfl⟩) | (go_at_call 78; (with_reducible refine (unhide HCO _ _ (by go_cell) (by go_cell)).mono ?_); rintro e w2 ⟨rfl, rfl⟩))
  all_goals go_wp2
  all_goals go_ret
  all_goals exact ⟨rfl, up_drew (up_alloc c5 _)⟩
end Go.Proofs.Ytdignnmhiifpgaa
