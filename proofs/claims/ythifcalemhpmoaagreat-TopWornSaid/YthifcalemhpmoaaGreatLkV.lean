/- A placed vehicle: whether its pose is one of it. -/
import Derived.Test.YthifcalemhpmoaaGreatLkQ
namespace Go.Proofs.YthifcalemhpmoaaGreat
open Go.RowKit Go.Proofs.Gn
attribute [local go_sem] Oper.semAt_some
set_option linter.unusedVariables false
theorem bx_below {n b : Nat} {vs : List Value} {V V' : World} (h : Bx V b vs) (k : Below n V V') (hb : b < n) : Bx V' b vs := fun i v hi =>
  ⟨(k.cell (p := ⟨b, i, none⟩) hb).trans (h i v hi).1, (k.frozen (p := ⟨b, i, none⟩) hb).trans (h i v hi).2⟩
theorem kpP_below {p : Nat → Prop} {n : Nat} {W V V' : World} (h : KpP p W V) (k : Below n V V') (hn : W.heap.size ≤ n) : KpP p W V' :=
  ⟨Nat.le_trans h.1 k.size, fun i o hi ho hc => (k.block i (Nat.lt_of_lt_of_le (Array.getElem?_eq_some_iff.1 ho).1 hn)).trans (h.2 i o hi ho hc)⟩
theorem wrap_step (a : Int) : IntKind.i64.wrap (IntKind.i64.wrap a + 1) = IntKind.i64.wrap (a + 1) := by
  simp only [IntKind.wrap_i64]
  omega
/-- Whether a link's points are no others than such that may be. -/
def lkOk (x : Lk) : Bool := okp x.jx x.jy && okp x.ax x.ay && !(x.jx == x.ax && x.jy == x.ay)
/-- Whether a pose is one of a vehicle. -/
def posOk (us : List Unt) (lx ly : Int) (qs : Pl) : Bool := decide (qs.length = us.length) && (lkS 0 us lx ly qs).all lkOk && decide ((lkS 0 us lx ly qs).length = us.length)
theorem lkS_len : ∀ (us : List Unt) (k : Nat) (x y : Int) (qs : Pl), (lkS k us x y qs).length ≤ us.length
  | [], k, x, y, qs => by unfold lkS; simp
  | u :: us, k, x, y, [] => by unfold lkS; simp
  | u :: us, k, x, y, q :: qs => by
    unfold lkS
    simp only [List.length_cons]
    split
    · have := lkS_len us (k + 1) (rrR u.le u.st u.be x y q.1 q.2).1.1 (rrR u.le u.st u.be x y q.1 q.2).1.2 qs
      omega
    · simp
/-- The cells of a placed vehicle. -/
abbrev plL (nm : Value) (Au : Option Addr) (nu cu : Nat) (fr tt lx ly : Value) (Aa : Option Addr) (na ca : Nat) : List Value := [nm, .slice Au nu cu, fr, tt, lx, ly, .slice Aa na ca]
theorem lk_make (n : Nat) (nm : Value) (Au : Option Addr) (nu cu : Nat) (fr tt lx ly : Value) (Aa : Option Addr) (na ca : Nat) (w : World) :
    CallsIn Fence.wide n Tryz.prog 118 #[.agg #[nm, .slice Au nu cu, fr, tt, lx, ly, .slice Aa na ca]] w fun e w' => e = .returned (.func (.func 131) #[] #[.pointer (some ⟨w.heap.size, 0, none⟩)]) ∧ w' = w.alloc (.cells #[nm, .slice Au nu cu, fr, tt, lx, ly, .slice Aa na ca] 157) := by
  refine callsIn_of_wp Tryz.func118 rfl trivial ?_ rfl
  simp only [Tryz.ntmps118, List.size_toArray, List.length_cons, List.length_nil, Nat.reduceAdd, Nat.reduceSub, Array.replicate_succ, Array.replicate_zero, List.push_toArray, List.append_toArray, List.nil_append, List.cons_append]
  gi_wp2
  go_ret
  exact ⟨rfl, rfl⟩
/-- What holds in each round of looking through the links. -/
structure LvE (p : Nat → Prop) (w W0 : World) (xs : List Lk) (V : World) : Prop where
  ok : ∀ x ∈ xs, lkOk x = true
  rs : Bx V (w.heap.size + 1) [.bool false]
  fo : Bx V (w.heap.size + 1 + 1) [.int .i64 (IntKind.i64.wrap (xs.length : Int))]
  kp : KpP p W0 V
  up : Up w V
theorem lvE_own {p : Nat → Prop} {w W0 : World} {B : Nat} (hB : w.heap.size ≤ B) : OwnFrom B (LvE p w W0) := fun _ V V' row hs hg hr =>
  ⟨hs.ok, bx_ownP hs.rs hg (fun r e => (hr r e).2), bx_ownP hs.fo hg (fun r e => (hr r e).2), kpP_own hs.kp hg (fun r e => (hr r e).2), hs.up.grown hg hs.up.size (fun j e => Nat.le_trans hB (hr j e).1)⟩
theorem lvE_below {p : Nat → Prop} {w W0 : World} {n : Nat} (h0 : W0.heap.size ≤ n) (h1 : w.heap.size + 3 ≤ n) : BeInv n (LvE p w W0) := fun _ V V' hs hb =>
  ⟨hs.ok, bx_below hs.rs hb (by omega), bx_below hs.fo hb (by omega), kpP_below hs.kp hb h0, Below.trans hs.up (Below.mono hb (by omega))⟩
/-- What holds where a link is none. -/
structure LvX (w : World) (xs : List Lk) (V : World) : Prop where
  no : ∃ x ∈ xs, lkOk x = false
  rs : Bx V (w.heap.size + 1) [.bool false]
  up : Up w V
theorem lvX_own {w : World} {B : Nat} (hB : w.heap.size ≤ B) : OwnFrom B (LvX w) := fun _ V V' row hs hg hr =>
  ⟨hs.no, bx_ownP hs.rs hg (fun r e => (hr r e).2), hs.up.grown hg hs.up.size (fun j e => Nat.le_trans hB (hr j e).1)⟩
theorem lvX_below {w : World} {n : Nat} (h1 : w.heap.size + 3 ≤ n) : BeInv n (LvX w) := fun _ V V' hs hb =>
  ⟨hs.no, bx_below hs.rs hb (by omega), Below.trans hs.up (Below.mono hb (by omega))⟩
end Go.Proofs.YthifcalemhpmoaaGreat
