/- load.Shifted: the program's, of a valid load. -/
import Derived.Test.YtdehnokcjnbjoaaGreatLdY
import Derived.Test.YtdehnokcjnbjoaaGreatPkLdV
namespace Go.Proofs.YtdehnokcjnbjoaaGreat
open Go.RowKit Go.Proofs.Gn
attribute [local go_sem] Oper.semAt_some
set_option linter.unusedVariables false
theorem ixL3 (x0 x1 x2 : Int) (w : World) : (Instr.index 31 (.agg #[.int .i64 x0, .int .i64 x1, .int .i64 x2]) (.int .i64 0)).run Tryz.prog w = .ok (.int .i64 x0) w ∧ (Instr.index 31 (.agg #[.int .i64 x0, .int .i64 x1, .int .i64 x2]) (.int .i64 1)).run Tryz.prog w = .ok (.int .i64 x1) w ∧ (Instr.index 31 (.agg #[.int .i64 x0, .int .i64 x1, .int .i64 x2]) (.int .i64 2)).run Tryz.prog w = .ok (.int .i64 x2) w := by
  refine ⟨?_, ?_, ?_⟩ <;> simp [Instr.index, run_underlying Tryz.underlying31, asIntOf, go_sem]
/-- How far a load may be shifted. -/
abbrev wiS (d : Int) : Bool := win d (-262144) 262144
/-- Which error a shift has. -/
def shE (s : ByteArray) (ps : List Pce) (ys : List Eye) (f a b c : Int) : Int :=
  if (wiS a && (wiS b && wiS c)) = true then (if loE s (ps.map (shP a b c)) (ys.map (shY a b c)) f = 0 then 0 else 4) else 3
/-- What a shift gives. -/
def ShQ (s : ByteArray) (ps : List Pce) (ys : List Eye) (f a b c : Int) (w : World) (e : Ending) (w' : World) : Prop :=
  ((e = .returned (.tuple #[lo0L, .int .i64 (shE s ps ys f a b c)]) ∧ shE s ps ys f a b c ≠ 0) ∨ (∃ P cq G d, e = .returned (.tuple #[loV s P ps.length cq G ys.length d f, .int .i64 0]) ∧ shE s ps ys f a b c = 0 ∧ Pcs w' P (ps.map (shP a b c)) ∧ Eyes w' G (ys.map (shY a b c)))) ∧ Up w w'
/-- What lies there while a load is shifted. -/
def SdB (v : List Value) (x gR : Nat) (w wx : World) : Prop := Bx wx x v ∧ Bx wx gR [.string { data := #[] }, .slice none 0 0, .slice none 0 0, .int .i64 0] ∧ Up w wx
theorem SdB.ups {v : List Value} {x gR : Nat} {w wx wy : World} (h : SdB v x gR w wx) (hu : Up wx wy) : SdB v x gR w wy := ⟨bx_up h.1 hu, bx_up h.2.1 hu, up_trans h.2.2 hu⟩
theorem SdB.set {v : List Value} {x gR : Nat} {w wx : World} (h : SdB v x gR w wx) {p : Addr} (h1 : p.block ≠ x) (h2 : p.block ≠ gR) (h3 : w.heap.size ≤ p.block) (u : Value) : SdB v x gR w (wx.setCell p u) :=
  ⟨bx_far h.1 h1 u, bx_far h.2.1 h2 u, up_set h.2.2 h3 u⟩
end Go.Proofs.YtdehnokcjnbjoaaGreat
