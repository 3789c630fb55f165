/- The sides of a hull: how many, and which way each of them goes. The sum of two hulls, as the program makes it. -/
import Derived.Test.YtihckoenfklhpaaNeigh
import Derived.Test.YtihckoenfklhpaaCont
import Derived.Test.YtihckoenfklhpaaSumM
import Derived.Test.YtihckoenfklhpaaBoxP
import Derived.RangeFuncNested
import Derived.Test.YtihckoenfklhpaaHullOwn
import Derived.Deep.RegionHeld3
namespace Go.Proofs.Ytihckoenfklhpaa
open Go.RowKit Go.Proofs.Gn
theorem p_sidesP (A : Option Addr) (ps : Pl) (cap : Nat) (h : ps.length ≤ 70000) (w : World) :
    Calls Try.prog 75 #[.slice A ps.length cap] w fun e w' => e = .returned (.int .i64 (Gx.ns ps : Nat)) ∧ w = w' :=
  (callsIn_wide (n := 9)).1 (p_sides Fence.wide 9 trivial rfl A ps.length cap h w)
theorem sd_bd {ps : Pl} (h : BdL ps) (i : Nat) : (-268435456 ≤ (Gx.sd ps i).1 ∧ (Gx.sd ps i).1 ≤ 268435456) ∧ (-268435456 ≤ (Gx.sd ps i).2 ∧ (Gx.sd ps i).2 ≤ 268435456) := by
  have a := bdL_any h ((i + 1) % ps.length)
  have b := bdL_any h (i % ps.length)
  unfold Bd at a b
  unfold Gx.sd Gx.gc Gx.sb
  simp only
  omega
set_option maxHeartbeats 1000000 in
theorem p_side (b off : Nat) (ps : Pl) (cap i : Nat) (w : World) (hc : ∀ k (h : k < ps.length), w.cell? ⟨b, off + k * 2, none⟩ = some (.int .i64 ps[k].1) ∧ w.cell? ⟨b, off + k * 2 + 1, none⟩ = some (.int .i64 ps[k].2)) (h0 : 0 < ps.length) (hlen : ps.length ≤ 70000) (hb : BdL ps) (hi : i ≤ 200000) :
    Calls Try.prog 77 #[.slice (some ⟨b, off, none⟩) ps.length cap, .int .i64 i] w fun e w' => e = .returned (pt (Gx.sd ps i).1 (Gx.sd ps i).2) ∧ Up w w' := by
  have l1 : (i + 1) % ps.length < ps.length := Nat.mod_lt _ h0
  have l0 : i % ps.length < ps.length := Nat.mod_lt _ h0
  obtain ⟨a0, a1⟩ := pts_g hc l1
  obtain ⟨c0, c1⟩ := pts_g hc l0
  have ba := bdL_get hb l1
  have bc := bdL_get hb l0
  have e1 : Gx.sd ps i = Gx.sb (Gx.g ps ((i + 1) % ps.length)) (Gx.g ps (i % ps.length)) := rfl
  obtain ⟨P, hP⟩ : ∃ P, Gx.g ps ((i + 1) % ps.length) = P := ⟨_, rfl⟩
  obtain ⟨Q, hQ⟩ : ∃ P, Gx.g ps (i % ps.length) = P := ⟨_, rfl⟩
  rw [hP] at a0 a1 ba e1
  rw [hQ] at c0 c1 bc e1
  obtain ⟨p1, p2⟩ := P
  obtain ⟨q1, q2⟩ := Q
  have e2 : Gx.sd ps i = (p1 - q1, p2 - q2) := e1
  rw [e2]
  simp only at a0 a1 c0 c1 ba bc ⊢
  obtain ⟨n, hN⟩ : ∃ n, ps.length = n := ⟨_, rfl⟩
  rw [hN] at l1 l0 h0 hlen a0 a1 c0 c1 ⊢
  obtain ⟨M1, hM1⟩ : ∃ M, (i + 1) % n = M := ⟨_, rfl⟩
  obtain ⟨M0, hM0⟩ : ∃ M, i % n = M := ⟨_, rfl⟩
  rw [hM1] at a0 a1 l1
  rw [hM0] at c0 c1 l0
  have t1 : ((i : Int) + 1).tmod (n : Int) = (M1 : Int) := by rw [← hM1]; exact upto_mod i n
  have t0 : (i : Int).tmod (n : Int) = (M0 : Int) := by rw [← hM0]; rfl
  have k1 : IntKind.i64.wrap ((i : Int) + 1) = (i : Int) + 1 := IntWalk.i64_in _ ⟨by omega, by omega⟩
  have k4 : (M1 : Int) < (n : Int) := by omega
  have k5 : (M0 : Int) < (n : Int) := by omega
  have k6 : ¬ n = 0 := by omega
  have k7 : ¬ (n : Int) = 0 := by omega
  have PM : ∀ W : World, Calls Try.prog 80 #[pt p1 p2, pt q1 q2] W fun e w' => e = .returned (pt (p1 - q1) (p2 - q2)) ∧ Up W w' := fun W => by
    unfold Bd at ba bc
    exact p_minus p1 p2 q1 q2 W (by omega) (by omega) (by omega) (by omega)
  have HPM := hide PM
  have FU : ∀ wx : World, Up w wx → wx.cell? ⟨b, off + M1 * 2, none⟩ = some (.int .i64 p1) ∧ wx.cell? ⟨b, off + M1 * 2 + 1, none⟩ = some (.int .i64 p2) ∧ wx.cell? ⟨b, off + M0 * 2, none⟩ = some (.int .i64 q1) ∧ wx.cell? ⟨b, off + M0 * 2 + 1, none⟩ = some (.int .i64 q2) ∧ Up w wx := fun wx h => ⟨up_cell h a0, up_cell h a1, up_cell h c0, up_cell h c1, h⟩
  have HFU := hide FU
  have T1 := hide t1
  have T0 := hide t0
  clear e1 e2 hP hQ hN hM1 hM0 hc PM FU ba bc hb a0 a1 c0 c1 t1 t0
  go_enter Try.func77, Try.ntmps77
  go_wp2_with fail
  have t1 := unhide T1
  have t0 := unhide T0
  go_region_held3 (fun wx => wx.cell? ⟨b, off + M1 * 2, none⟩ = some (.int .i64 p1) ∧ wx.cell? ⟨b, off + M1 * 2 + 1, none⟩ = some (.int .i64 p2) ∧ wx.cell? ⟨b, off + M0 * 2, none⟩ = some (.int .i64 q1) ∧ wx.cell? ⟨b, off + M0 * 2 + 1, none⟩ = some (.int .i64 q2) ∧ Up w wx)
    (exact unhide HFU _ (by repeat' (first | (with_reducible exact up_refl _) | (with_reducible assumption) | (with_reducible refine up_alloc ?_ _) | (with_reducible refine up_drewN ?_ _) | (with_reducible refine up_drew ?_) | (with_reducible refine up_set ?_ (by first | (simp; done) | (simp; omega) | omega) _) | (refine up_trans ?_ (by with_reducible assumption))))) ((go_at_call 80; (with_reducible refine (unhide HPM _).mono ?_); rintro e w1 ⟨rfl, hb1⟩; have B := bx_up (bx_drew (bx_new w [.int .i64 0, .int .i64 0] 24)) hb1; have d0 := (bx2 B).1; have d1 := (bx2 B).2; have d2 := (bxf2 B).1; have d3 := (bxf2 B).2; clear B))
  go_wp2_with fail
  exact bodyPost_ret (v := pt (p1 - q1) (p2 - q2)) (by simp [results, Try.results77, go_sem, *]) rfl ⟨rfl, (by repeat' (first | (with_reducible exact up_refl _) | (with_reducible assumption) | (with_reducible refine up_alloc ?_ _) | (with_reducible refine up_drewN ?_ _) | (with_reducible refine up_drew ?_) | (with_reducible refine up_set ?_ (by first | (simp; done) | (simp; omega) | omega) _) | (refine up_trans ?_ (by with_reducible assumption))))⟩
end Go.Proofs.Ytihckoenfklhpaa
namespace Go.Proofs.Ytihckoenfklhpaa
open Go.RowKit Go.Proofs.Gn
theorem run_make_at {P : Program} (w : World) (base : Nat) (t e : TypeId) (i : TypeInfo) (z : Value) (size : Nat) (ht : P.underlying t = some (.slice e)) (hi : P.info? e = some i) (hz : i.zero = some z) (hsize : i.size = size)
    (kl kc : IntKind) (l c : Nat) (hlc : l ≤ c) (hbytes : i.bytes * c ≤ 281474976710656) (h63 : c ≤ maxLen) (hbase : base ≤ w.heap.size) :
    ∃ w' xs, (Instr.makeSlice t (.int kl (l : Int)) (.int kc (c : Int))).run P w = .ok (.slice (some ⟨w.heap.size, 0, none⟩) l c) w' ∧
      w'.ownsRow base e size (.slice (some ⟨w.heap.size, 0, none⟩) l c) l xs ∧ w.grownBy w' none := by
  subst hsize
  have h63' : (c : Int) ≤ 9223372036854775807 := by
    have h := h63
    simp [maxLen] at h
    omega
  have hb' : (i.bytes : Int) * (c : Int) ≤ 281474976710656 := by
    have h : ((i.bytes * c : Nat) : Int) ≤ 281474976710656 := by omega
    rwa [Int.natCast_mul] at h
  have hr := run_make (P := P) w t e i z ht hi hz kl kc l c (by omega) (by omega) hb' h63'
  simp only [Int.toNat_natCast] at hr
  refine ⟨_, _, hr, ⟨?_, .inr ⟨w.heap.size, c, _, rfl, hbase, heap_alloc_new w _, hlc, h63, size_madeCells _ _, rfl⟩⟩, World.grownBy_alloc w _ none⟩
  rw [List.length_take, Array.length_toList, size_madeCells]
  exact Nat.min_eq_left (Nat.mul_le_mul_right _ hlc)
theorem wpList_make_at {P : Program} (w : World) {ops : Array Oper} {rest : List Oper} {o : Oper} {a : Act} {Q : Exit → Act → World → Prop}
    (hg : o.guard = none) (l c : Operand) (t : TypeId) (hop : o.op = Op.makeSlice t l c)
    (base : Nat) (e : TypeId) (i : TypeInfo) (z : Value) (size : Nat) (h1 : P.underlying t = some (.slice e)) (h2 : P.info? e = some i) (h3 : i.zero = some z) (h4 : i.size = size)
    (kl kc : IntKind) (L C : Int) (m n : Nat) (hl : a.eval l = .int kl L) (hc : a.eval c = .int kc C) (hL : L = (m : Int)) (hC : C = (n : Int)) (hmn : m ≤ n) (b2 : i.bytes * n ≤ 281474976710656) (b3 : n ≤ maxLen) (b4 : base ≤ w.heap.size)
    (hK : ∀ w' xs, w'.ownsRow base e size (.slice (some ⟨w.heap.size, 0, none⟩) m n) m xs → w.grownBy w' none → wpList P ops Q rest (a.put o.dst (.slice (some ⟨w.heap.size, 0, none⟩) m n)) w') :
    wpList P ops Q (o :: rest) a w := by
  refine wpList_plain hg fun K hK' => ?_
  obtain ⟨w', xs, hrun, r1, r2⟩ := run_make_at (P := P) w base t e i z size h1 h2 h3 h4 kl kc m n hmn b2 b3 b4
  subst hC
  subst hL
  unfold Oper.wp
  simp [execOp, hop, hl, hc, hrun, Result.andThen]
  exact hK' _ _ (hK w' xs r1 r2)
/-- The length of a slice. -/
def slLen : Value → Nat
  | .slice _ n _ => n
  | _ => 0
theorem spL_take {a b : Pl} {m n : Nat} (h : m ≤ n) : (Gx.spL a b n).take m = Gx.spL a b m := by
  unfold Gx.spL
  rw [← List.map_take, List.take_range, Nat.min_eq_left h]
/-- A row of one point, both of whose cells are stored anew. -/
theorem own_stored2 {W : World} {base e g cap : Nat} {xs : List Value} {x y : Int} (h : W.ownsRow base e 2 (.slice (some ⟨g, 0, none⟩) 1 cap) 1 xs) :
    ((W.setCell ⟨g, 0, none⟩ (.int .i64 x)).setCell ⟨g, 1, none⟩ (.int .i64 y)).ownsRow base e 2 (.slice (some ⟨g, 0, none⟩) 1 cap) 1 (cellsPl [(x, y)]) := by
  have h1 := (h.stored 0 (.int .i64 x)).1
  have h2 := (h1.stored 1 (.int .i64 y)).1
  have hl : xs.length = 2 := h.1
  match xs, hl, h2 with
  | [u, v], _, h2 => exact h2
theorem own_cell2 {W : World} {base e g cap : Nat} {xs : List Value} (h : W.ownsRow base e 2 (.slice (some ⟨g, 0, none⟩) 1 cap) 1 xs) : ∃ u v, Bx W g [u, v] := by
  have hl : xs.length = 2 := h.1
  match xs, hl, h with
  | [u, v], _, h =>
    refine ⟨u, v, fun j z hj => ?_⟩
    have hj2 : j < 2 := (List.getElem?_eq_some_iff.1 hj).1
    refine ⟨(h.cellAt j (by omega)).trans hj, ?_⟩
    rcases h.2 with ⟨_, h1⟩ | ⟨g', cap', cur, e1, hb, hg, _⟩
    · omega
    · simp only [Value.slice.injEq, Option.some.injEq, Addr.mk.injEq, and_true, true_and] at e1
      obtain ⟨rfl, rfl⟩ := e1
      exact frozen_of_row W g j cur e hg
theorem sums_more {a b : Pl} {K k : Nat} (hw : Gx.Walk a b K) (hk : k < K) : (Gx.st a b k).1 < Gx.ns a ∨ (Gx.st a b k).2 < Gx.ns b := by
  have := hw.more k hk
  unfold Gx.Over at this
  omega
theorem st_next (a b : Pl) (k : Nat) {i j : Nat} (hi : (Gx.st a b k).1 = i) (hj : (Gx.st a b k).2 = j) : Gx.st a b (k + 1) = Gx.stp a b (i, j) := by
  rw [← hi, ← hj]; rfl
theorem spL_own {W : World} {B : Nat} {v : Value} {a b : Pl} {k : Nat} {x y : Int} (h : Gx.sp a b (k + 1) = (x, y)) (ho : W.ownsRow B 24 2 v (k + 1 + 1) (cellsPl (Gx.spL a b (k + 1)) ++ [.int .i64 x, .int .i64 y])) : W.ownsRow B 24 2 v (k + 1 + 1) (cellsPl (Gx.spL a b (k + 1 + 1))) := by
  rw [Gx.spL_succ, h, cellsPl_snoc]
  exact ho
theorem gc_bd {ps : Pl} (h : BdL ps) (i : Nat) : Bd (Gx.gc ps i).1 ∧ Bd (Gx.gc ps i).2 := bdL_any h _
theorem crs_bd {u v : Int × Int} (h1 : -268435456 ≤ u.1 ∧ u.1 ≤ 268435456) (h2 : -268435456 ≤ u.2 ∧ u.2 ≤ 268435456) (h3 : -268435456 ≤ v.1 ∧ v.1 ≤ 268435456) (h4 : -268435456 ≤ v.2 ∧ v.2 ≤ 268435456) :
    (-72057594037927936 ≤ u.1 * v.2 ∧ u.1 * v.2 ≤ 72057594037927936) ∧ (-72057594037927936 ≤ u.2 * v.1 ∧ u.2 * v.1 ≤ 72057594037927936) := by
  have key : ∀ x y : Int, -268435456 ≤ x → x ≤ 268435456 → -268435456 ≤ y → y ≤ 268435456 → -72057594037927936 ≤ x * y ∧ x * y ≤ 72057594037927936 := fun x y a b c d => by
    have p1 := Int.mul_nonneg (show 0 ≤ 268435456 - x by omega) (show 0 ≤ 268435456 - y by omega)
    have p2 := Int.mul_nonneg (show 0 ≤ 268435456 + x by omega) (show 0 ≤ 268435456 + y by omega)
    have p3 := Int.mul_nonneg (show 0 ≤ 268435456 - x by omega) (show 0 ≤ 268435456 + y by omega)
    have p4 := Int.mul_nonneg (show 0 ≤ 268435456 + x by omega) (show 0 ≤ 268435456 - y by omega)
    constructor <;> grind
  exact ⟨key _ _ h1.1 h1.2 h4.1 h4.2, key _ _ h2.1 h2.2 h3.1 h3.2⟩
end Go.Proofs.Ytihckoenfklhpaa
