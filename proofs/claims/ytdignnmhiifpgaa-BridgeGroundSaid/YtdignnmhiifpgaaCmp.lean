/- The order of points: what compare returns. -/
import Derived.Test.YtdignnmhiifpgaaPt
import Derived.Test.YtdignnmhiifpgaaHullM
import Derived.Sort.Grow
import Derived.StillTailTactics
namespace Go.Proofs.Ytdignnmhiifpgaa
open Go.RowKit Go.Proofs.Gn
/-- What compare returns. -/
def cmp2 (ax ay bx b_y : Int) : Int := if cmpV ax bx = 0 then cmpV ay b_y else cmpV ax bx
theorem c_Or {b off : Nat} {x y : Int} (w : World) (h0 : w.cell? ⟨b, off, none⟩ = some (.int .i64 x)) (h1 : w.cell? ⟨b, off + 1, none⟩ = some (.int .i64 y)) :
    Calls Try.prog 78 #[.slice (some ⟨b, off, none⟩) 2 2] w fun e w' => e = .returned (.int .i64 (if x = 0 then y else x)) ∧ w = w' := by
  by_cases hx : x = 0
  · subst hx
    by_cases hy : y = 0
    · subst hy
      go_enter Try.func78, Try.ntmps78
      go_wp2
      go_rounds 3
      go_ret
      exact ⟨rfl, rfl⟩
    · have e1 : (y == 0) = false := by simp; exact hy
      go_enter Try.func78, Try.ntmps78
      go_wp2
      go_rounds 2
      go_ret
      exact ⟨rfl, rfl⟩
  · have e1 : (x == 0) = false := by simp; exact hx
    rw [if_neg hx]
    go_enter Try.func78, Try.ntmps78
    go_wp2
    go_rounds 1
    go_ret
    exact ⟨rfl, rfl⟩

/-- New blocks and draws, and nothing else. -/
def Gr (w w' : World) : Prop := ∃ q os, w' = Go.Sort.grow (w.drewN q) os
theorem gr_refl (w : World) : Gr w w := ⟨0, #[], by simp [Go.Sort.grow, World.drewN]⟩
theorem gr_alloc {a b : World} (h : Gr a b) (o : Obj) : Gr a (b.alloc o) := by
  obtain ⟨q, os, rfl⟩ := h
  exact ⟨q, os ++ #[o], by rw [Go.Sort.alloc_eq_grow, Go.Sort.grow_grow]⟩
theorem gr_drew {a b : World} (h : Gr a b) : Gr a b.drew := by
  obtain ⟨q, os, rfl⟩ := h
  exact ⟨q + 1, os, rfl⟩
theorem gr_up {a b : World} (h : Gr a b) : Up a b := by
  obtain ⟨q, os, rfl⟩ := h
  refine ⟨rfl, rfl, rfl, by simp, fun k hk => ?_⟩
  simp [Go.Sort.grow, Array.getElem?_append, hk]
theorem gr_cell {a b : World} (h : Gr a b) {p : Addr} {v : Value} (hc : a.cell? p = some v) : b.cell? p = some v := up_cell (gr_up h) hc
theorem gr_trans {a b c : World} (h : Gr a b) (k : Gr b c) : Gr a c := by
  obtain ⟨q, os, rfl⟩ := h
  obtain ⟨q', os', rfl⟩ := k
  exact ⟨q + q', os ++ os', by simp [Go.Sort.grow, World.drewN, Nat.add_assoc]⟩
theorem cmpV_neg (a b : Int) : cmpV a b < 0 ↔ a < b := by unfold cmpV; split; simp_all; split <;> simp_all
theorem cmpV_zero (a b : Int) : cmpV a b = 0 ↔ a = b := by unfold cmpV; split; omega; split <;> omega
theorem cmp2_neg (a b : Int × Int) : cmp2 a.1 a.2 b.1 b.2 < 0 ↔ Gx.lt2 a b := by
  unfold cmp2 Gx.lt2
  have h1 := cmpV_neg a.1 b.1
  have h2 := cmpV_neg a.2 b.2
  have h3 := cmpV_zero a.1 b.1
  split <;> omega
theorem cmp2_pos (a b : Int × Int) : 0 < cmp2 a.1 a.2 b.1 b.2 ↔ Gx.lt2 b a := by
  unfold cmp2 Gx.lt2 cmpV
  split <;> split <;> (try split) <;> (try split) <;> omega
end Go.Proofs.Ytdignnmhiifpgaa
