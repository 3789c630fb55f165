/- The worst effect of a train for a line. The worst one of the effects: the program's greatest and worst. Which of two effects is the worse: what the closure of worst returns. The effects of a train at all its breaks, as the program yields them. The breaks of a line, as the program yields them. -/
import Derived.Test.YthifcalemhpmoaaGreatPkRefDown
import Derived.Test.YthifcalemhpmoaaGreatPkKp
import Derived.RangeFuncNested
import Derived.RangeFuncLeaves
import Derived.Shelf.Abstract
import Derived.Shelf.RegionOpen
import Derived.OwnWalkIn
import Derived.TacticsInMore
import Derived.LoopNIn
import Derived.LoopIn
import Derived.Sort.CutIn
namespace Go.Proofs.YthifcalemhpmoaaGreat
open Go.RowKit Go.Proofs.Gn Go.Shelf
attribute [local go_sem] Oper.semAt_some
theorem ix6 (x0 x1 x2 : Int) (w : World) : (Instr.index 29 (.agg #[.int .i64 x0, .int .i64 x1, .int .i64 x2]) (.int .i64 0)).run Tryz.prog w = .ok (.int .i64 x0) w ∧ (Instr.index 29 (.agg #[.int .i64 x0, .int .i64 x1, .int .i64 x2]) (.int .i64 1)).run Tryz.prog w = .ok (.int .i64 x1) w ∧ (Instr.index 29 (.agg #[.int .i64 x0, .int .i64 x1, .int .i64 x2]) (.int .i64 2)).run Tryz.prog w = .ok (.int .i64 x2) w := by
  refine ⟨?_, ?_, ?_⟩ <;> kernel_rfl
/-- The breaks of one axle. -/
def brT (L : Ln) (t : Int × Int) : List Int := [L.org + L.c0 + t.1, L.org + L.c1 + t.1, L.org + L.c2 + t.1]
/-- The breaks of a train. -/
def brs (L : Ln) (ts : List (Int × Int)) : List Int := ts.flatMap (brT L)
theorem brs_take (L : Ln) {ts : List (Int × Int)} {k : Nat} (h : k < ts.length) : brs L (ts.take (k + 1)) = brs L (ts.take k) ++ brT L ts[k] := by
  unfold brs; rw [List.take_succ_eq_append_getElem h, List.flatMap_append]; simp
theorem brs_pre (L : Ln) (ts : List (Int × Int)) (k : Nat) : ∃ D, brs L (ts.take k) ++ D = brs L ts := ⟨brs L (ts.drop k), by unfold brs; rw [← List.flatMap_append, List.take_append_drop]⟩
/-- The corners are near. -/
def CoOk (L : Ln) : Prop := (-131072 ≤ L.c0 ∧ L.c0 ≤ 131072) ∧ (-131072 ≤ L.c1 ∧ L.c1 ≤ 131072) ∧ (-131072 ≤ L.c2 ∧ L.c2 ≤ 131072) ∧ (0 ≤ L.org ∧ L.org ≤ 1048576)
/-- Where the train and the line lie. -/
structure BrW (Bt Bl : Nat) (A : Option Addr) (cap : Nat) (L : Ln) (ts : List (Int × Int)) (V : World) : Prop where
  t : V.cell? ⟨Bt, 0, none⟩ = some (.slice A ts.length cap)
  l : Bx V Bl (lnC L)
  f : Frs V A ts
/-- None of these blocks is one of p. -/
structure BrN (p : Nat → Prop) (Bt Bl : Nat) (A : Option Addr) : Prop where
  t : ¬ p Bt
  l : ¬ p Bl
  a : ∀ b off, A = some ⟨b, off, none⟩ → ¬ p b
theorem frs_kpP {p : Nat → Prop} {V V' : World} {A : Option Addr} {ts : List (Int × Int)} (h : Frs V A ts) (k : KpP p V V') (ha : ∀ b off, A = some ⟨b, off, none⟩ → ¬ p b) : Frs V' A ts := by
  rcases h with h | ⟨b, off, rfl, hc⟩
  · exact .inl h
  · exact .inr ⟨b, off, rfl, fun i hi => ⟨kpP_cell k (ha b off rfl) (hc i hi).1, kpP_cell k (ha b off rfl) (hc i hi).2⟩⟩
theorem BrW.kept {p : Nat → Prop} {Bt Bl : Nat} {A : Option Addr} {cap : Nat} {L : Ln} {ts : List (Int × Int)} {V V' : World} (h : BrW Bt Bl A cap L ts V) (hn : BrN p Bt Bl A) (k : KpP p V V') : BrW Bt Bl A cap L ts V' :=
  ⟨kpP_cell k (a := ⟨Bt, 0, none⟩) hn.t h.t, bx_kpP h.l k hn.l, frs_kpP h.f k hn.a⟩
theorem BrW.up {Bt Bl : Nat} {A : Option Addr} {cap : Nat} {L : Ln} {ts : List (Int × Int)} {V V' : World} (h : BrW Bt Bl A cap L ts V) (u : Up V V') : BrW Bt Bl A cap L ts V' :=
  ⟨up_cell u h.t, bx_up h.l u, frs_up h.f u⟩
end Go.Proofs.YthifcalemhpmoaaGreat
namespace Go.Proofs.YthifcalemhpmoaaGreat
open Go.RowKit Go.Proofs.Gn Go.Shelf
attribute [local go_sem] Oper.semAt_some
/-- The effects at all breaks, with where they are. -/
def efp (L : Ln) (ts : List (Int × Int)) (s : Int) : Int × Int := (ef L s ts, s)
def efs (L : Ln) (ts : List (Int × Int)) : List (Int × Int) := (brs L ts).map (efp L ts)
/-- An effect as a value. -/
def feV (L : Ln) (x : Int × Int) : Value := .agg #[.int .i64 x.1, .int .i64 L.span, .int .i64 L.po, .int .i64 x.2]
theorem roundIn_wide {l2 n m : Nat} {P : Program} {l : Nat} {f : FuncId} {tmps : Array Value} {assign body : Code} {w : World} {R : Ending → World → Prop} (h : RoundIn Fence.wide n P l f tmps assign body w R) : RoundIn (Fence.wide.inRound l2) m P l f tmps assign body w R := ⟨trivial, fun c cs _ => h.2 c cs (room_wide _)⟩
end Go.Proofs.YthifcalemhpmoaaGreat
namespace Go.Proofs.YthifcalemhpmoaaGreat
open Go.RowKit Go.Proofs.Gn
def efA (v sp po s : Int) : Value := .agg #[.int .i64 v, .int .i64 sp, .int .i64 po, .int .i64 s]
/-- What the closure returns: greater values are worse, and then lesser places. -/
def cmpE (v s v' s' : Int) : Int := if cmpV v v' = 0 then cmpV s' s else cmpV v v'
theorem cmpE_pos (v s v' s' : Int) : 0 < cmpE v s v' s' ↔ v' < v ∨ (v = v' ∧ s < s') := by
  unfold cmpE cmpV
  split <;> split <;> (try split) <;> (try split) <;> omega
end Go.Proofs.YthifcalemhpmoaaGreat
namespace Go.Proofs.YthifcalemhpmoaaGreat
open Go.RowKit Go.Proofs.Gn Go.Shelf
attribute [local go_sem] Oper.semAt_some
set_option linter.unusedVariables false
/-- The worst so far, and the next one. -/
def btE (b : Option (Int × Int)) (x : Int × Int) : Option (Int × Int) := match b with
  | none => some x
  | some c => if 0 < cmpE x.1 x.2 c.1 c.2 then some x else some c
def bsE (xs : List (Int × Int)) : Option (Int × Int) := xs.foldl btE none
theorem bsE_snoc (xs : List (Int × Int)) (x : Int × Int) : bsE (xs ++ [x]) = btE (bsE xs) x := by unfold bsE; rw [List.foldl_append]; rfl
/-- What the box of the worst one holds. -/
def beC (L : Ln) : Option (Int × Int) → List Value
  | none => [.int .i64 0, .int .i64 0, .int .i64 0, .int .i64 0]
  | some c => [.int .i64 c.1, .int .i64 L.span, .int .i64 L.po, .int .i64 c.2]
def beV (L : Ln) : Option (Int × Int) → Value
  | none => .agg #[.int .i64 0, .int .i64 0, .int .i64 0, .int .i64 0]
  | some c => .agg #[.int .i64 c.1, .int .i64 L.span, .int .i64 L.po, .int .i64 c.2]
theorem bx_set4 {W : World} {b : Nat} {u0 u1 u2 u3 v0 v1 v2 v3 : Value} (h : Bx W b [u0, u1, u2, u3]) : Bx ((((W.setCell ⟨b, 0, none⟩ v0).setCell ⟨b, 1, none⟩ v1).setCell ⟨b, 2, none⟩ v2).setCell ⟨b, 3, none⟩ v3) b [v0, v1, v2, v3] := bx_set (bx_set (bx_set (bx_set h 0 v0) 1 v1) 2 v2) 3 v3
/-- Where the next one becomes the worst. -/
def stE6 (w V : World) (x : Int × Int) (L : Ln) : World := ((((V.setCell ⟨w.heap.size + 1 + 1, 0, none⟩ (.int .i64 x.1)).setCell ⟨w.heap.size + 1 + 1, 1, none⟩ (.int .i64 L.span)).setCell ⟨w.heap.size + 1 + 1, 2, none⟩ (.int .i64 L.po)).setCell ⟨w.heap.size + 1 + 1, 3, none⟩ (.int .i64 x.2)).setCell ⟨w.heap.size + 1 + 1 + 1, 0, none⟩ (.bool true)
structure GrE (p : Nat → Prop) (L : Ln) (w W0 : World) (xs : List (Int × Int)) (V : World) : Prop where
  be : Bx V (w.heap.size + 1 + 1) (beC L (bsE xs))
  fo : Bx V (w.heap.size + 1 + 1 + 1) [.bool (bsE xs).isSome]
  kp : KpP p W0 V
  up : Below w.heap.size w V
theorem grE_own {p : Nat → Prop} {L : Ln} {w W0 : World} {B : Nat} (hB : w.heap.size ≤ B) : OwnFrom B (GrE p L w W0) := fun _ V V' row hs hg hr =>
  ⟨bx_ownP hs.be hg (fun r e => (hr r e).2), bx_ownP hs.fo hg (fun r e => (hr r e).2), kpP_own hs.kp hg (fun r e => (hr r e).2), ownFrom_below (β := Unit) (Nat.le_refl _) hB () V V' row hs.up hg hr⟩
end Go.Proofs.YthifcalemhpmoaaGreat
namespace Go.Proofs.YthifcalemhpmoaaGreat
open Go.RowKit Go.Proofs.Gn Go.Shelf
set_option linter.unusedVariables false
theorem frs_block {w : World} {A : Option Addr} {ts : List (Int × Int)} (h : Frs w A ts) (h0 : 0 < ts.length) : ∀ b off, A = some ⟨b, off, none⟩ → b < w.heap.size := by
  rintro b off rfl
  rcases h with h | ⟨b', off', e, hc⟩
  · rw [h] at h0; simp at h0
  · cases e
    exact World.block_lt_of_cell? _ _ (hc 0 h0).1
theorem bx4 {W : World} {b : Nat} {v0 v1 v2 v3 : Value} (h : Bx W b [v0, v1, v2, v3]) : (W.cell? ⟨b, 0, none⟩ = some v0 ∧ W.frozen? ⟨b, 0, none⟩ = false) ∧ (W.cell? ⟨b, 1, none⟩ = some v1 ∧ W.frozen? ⟨b, 1, none⟩ = false) ∧ (W.cell? ⟨b, 2, none⟩ = some v2 ∧ W.frozen? ⟨b, 2, none⟩ = false) ∧ (W.cell? ⟨b, 3, none⟩ = some v3 ∧ W.frozen? ⟨b, 3, none⟩ = false) := ⟨h 0 _ rfl, h 1 _ rfl, h 2 _ rfl, h 3 _ rfl⟩
end Go.Proofs.YthifcalemhpmoaaGreat
