/- Envelopes: the program's of any load, and the document's. -/
import Derived.Test.YtdehnokcjnbjoaaGreatLdS
import Derived.Test.YtdehnokcjnbjoaaGreatRefLoad
import Derived.BigRegion
namespace Go.Proofs.YtdehnokcjnbjoaaGreat
open Go.RowKit Go.Proofs.Gn
attribute [local go_sem] Oper.semAt_some
set_option linter.unusedVariables false
/-- What lies there while an envelope is found. -/
structure EnB (w : World) (V : List Value) (g5 : Nat) (P : List Value) (wx : World) : Prop where
  l : Bx wx w.heap.size V
  r : Bx wx (w.heap.size + 1) [.int .i64 0, .int .i64 0, .int .i64 0]
  t : Bx wx (w.heap.size + 1 + 1) [.int .i64 0, .int .i64 0, .int .i64 0]
  p : Bx wx g5 P
  g : w.heap.size + 1 + 1 < g5
  up : Up w wx
theorem EnB.ups {w wx wy : World} {V : List Value} {g5 : Nat} {P : List Value} (h : EnB w V g5 P wx) (u : Up wx wy) : EnB w V g5 P wy := ⟨bx_up h.l u, bx_up h.r u, bx_up h.t u, bx_up h.p u, h.g, up_trans h.up u⟩
theorem EnB.set {w wx : World} {V : List Value} {g5 : Nat} {P : List Value} (h : EnB w V g5 P wx) {p : Addr} (hp : g5 < p.block) (u : Value) : EnB w V g5 P (wx.setCell p u) := by
  have := h.g
  exact ⟨bx_far h.l (by omega) u, bx_far h.r (by omega) u, bx_far h.t (by omega) u, bx_far h.p (by omega) u, h.g, up_set h.up (by omega) u⟩
abbrev pcL7 (q : Pce) : List Value := [.int .i64 q.x, .int .i64 q.y, .int .i64 q.z, .int .i64 q.l, .int .i64 q.w, .int .i64 q.h, .int .i64 q.m]
theorem EnB.pce {w wx : World} {V : List Value} {g5 : Nat} {q : Pce} (h : EnB w V g5 (pcL7 q) wx) (r : Pce) : EnB w V g5 (pcL7 r) (((((((wx.setCell ⟨g5, 0, none⟩ (.int .i64 r.x)).setCell ⟨g5, 1, none⟩ (.int .i64 r.y)).setCell ⟨g5, 2, none⟩ (.int .i64 r.z)).setCell ⟨g5, 3, none⟩ (.int .i64 r.l)).setCell ⟨g5, 4, none⟩ (.int .i64 r.w)).setCell ⟨g5, 5, none⟩ (.int .i64 r.h)).setCell ⟨g5, 6, none⟩ (.int .i64 r.m)) := by
  obtain ⟨a, b, c, d, e, f⟩ := h
  have far : ∀ {W : World} {B : Nat} {vs : List Value} (i : Nat) (u : Value), Bx W B vs → g5 ≠ B → Bx (W.setCell ⟨g5, i, none⟩ u) B vs := fun i u hb hn => bx_far hb (p := ⟨g5, i, none⟩) hn u
  refine ⟨?_, ?_, ?_, ?_, e, ?_⟩
  · exact far 6 _ (far 5 _ (far 4 _ (far 3 _ (far 2 _ (far 1 _ (far 0 _ a (by omega)) (by omega)) (by omega)) (by omega)) (by omega)) (by omega)) (by omega)
  · exact far 6 _ (far 5 _ (far 4 _ (far 3 _ (far 2 _ (far 1 _ (far 0 _ b (by omega)) (by omega)) (by omega)) (by omega)) (by omega)) (by omega)) (by omega)
  · exact far 6 _ (far 5 _ (far 4 _ (far 3 _ (far 2 _ (far 1 _ (far 0 _ c (by omega)) (by omega)) (by omega)) (by omega)) (by omega)) (by omega)) (by omega)
  · exact bx_set (bx_set (bx_set (bx_set (bx_set (bx_set (bx_set d 0 _) 1 _) 2 _) 3 _) 4 _) 5 _) 6 _
  · exact up_set (up_set (up_set (up_set (up_set (up_set (up_set f (by simp only; omega) _) (by simp only; omega) _) (by simp only; omega) _) (by simp only; omega) _) (by simp only; omega) _) (by simp only; omega) _) (by simp only; omega) _
/-- What an envelope gives. -/
abbrev evQ (s : ByteArray) (ps : List Pce) (ys : List Eye) (f : Int) : Value := .tuple #[.agg #[.int .i64 (loN s ps ys f gX), .int .i64 (loN s ps ys f gY), .int .i64 (loN s ps ys f gZ)], .agg #[.int .i64 (loX s ps ys f hX), .int .i64 (loX s ps ys f hY), .int .i64 (loX s ps ys f hZ)], .int .i64 (loE s ps ys f)]
theorem evQ_no {s : ByteArray} {ps : List Pce} {ys : List Eye} {f : Int} (h : loE s ps ys f ≠ 0) : evQ s ps ys f = .tuple #[.agg #[.int .i64 0, .int .i64 0, .int .i64 0], .agg #[.int .i64 0, .int .i64 0, .int .i64 0], .int .i64 (loE s ps ys f)] := by
  unfold evQ loN loX
  simp only [if_neg h]
set_option maxRecDepth 100000 in
set_option maxHeartbeats 8000000 in
theorem p_EnvE (s : ByteArray) (A : Option Addr) (ps : List Pce) (capA : Nat) (B : Option Addr) (ys : List Eye) (capB : Nat) (f : Int) (w : World) (hA : Pcs w A ps) (hB : Eyes w B ys) (hn : ps.length ≤ 9223372036854775807) (hm : ys.length ≤ 9223372036854775807) (E : Int) (he : loE s ps ys f = E) (h0 : E ≠ 0) :
    Calls Tryz.prog 18 #[loV s A ps.length capA B ys.length capB f] w fun e w' => e = .returned (.tuple #[.agg #[.int .i64 0, .int .i64 0, .int .i64 0], .agg #[.int .i64 0, .int .i64 0, .int .i64 0], .int .i64 E]) ∧ Up w w' := by
  have HC := hide (fun W (hW : Up w W) => p_CheckL s A ps capA B ys capB f W (pcs_up hA hW) (eyes_up hB hW) hn hm)
  rw [he] at HC
  have t0 : (E == 0) = false := by simp [h0]
  have t1 : (E != 0) = true := by simp [h0]
  generalize ps.length = n at *
  generalize ys.length = m at *
  clear hA hB he h0 hn hm
  go_enter Tryz.func18, Tryz.ntmps18
  go_upto_region 1 with fail
  refine at_wpC (fun W0 hW0 => ?_)
  have U0 : Up w W0 := by rw [hW0]; exact (by repeat' (first | (with_reducible exact up_refl _) | (with_reducible assumption) | (with_reducible refine up_alloc ?_ _) | (with_reducible refine up_drewN ?_ _) | (with_reducible refine up_drew ?_) | (with_reducible refine up_set ?_ (by first | (simp; done) | (simp; omega) | omega) _) | (refine up_trans ?_ (by with_reducible assumption))))
  obtain ⟨bL, bR, bT⟩ : Bx W0 w.heap.size [.string s, .slice A n capA, .slice B m capB, .int .i64 f] ∧ Bx W0 (w.heap.size + 1) [.int .i64 0, .int .i64 0, .int .i64 0] ∧ Bx W0 (w.heap.size + 1 + 1) [.int .i64 0, .int .i64 0, .int .i64 0] := by
    rw [hW0]
    exact bxm3 w [.string s, .slice A n capA, .slice B m capB, .int .i64 f] [.int .i64 0, .int .i64 0, .int .i64 0] [.int .i64 0, .int .i64 0, .int .i64 0] _ _ _
  clear hW0
  have c0 := (bL 0 _ rfl).1
  have c1 := (bL 1 _ rfl).1
  have c2 := (bL 2 _ rfl).1
  have c3 := (bL 3 _ rfl).1
  go_wp2_with (go_at_call 16; (with_reducible refine (unhide HC _ U0).mono ?_); rintro e w9 ⟨rfl, v9⟩; have bR9 := bx_up bR v9; have bT9 := bx_up bT v9; have U9 := up_trans U0 v9; have y0 := (bR9 0 _ rfl).1; have f0 := (bR9 0 _ rfl).2; have z0 := (bT9 0 _ rfl).1; have g0 := (bT9 0 _ rfl).2; have y1 := (bR9 1 _ rfl).1; have f1 := (bR9 1 _ rfl).2; have z1 := (bT9 1 _ rfl).1; have g1 := (bT9 1 _ rfl).2; have y2 := (bR9 2 _ rfl).1; have f2 := (bR9 2 _ rfl).2; have z2 := (bT9 2 _ rfl).1; have g2 := (bT9 2 _ rfl).2)
  have BR := (bx_far (bx_far (bx_far (bx_set (bx_set (bx_set bR9 0 (.int .i64 0)) 1 (.int .i64 0)) 2 (.int .i64 0)) (p := ⟨w.heap.size + 1 + 1, 0, none⟩) (by simp only; omega) (.int .i64 0)) (p := ⟨w.heap.size + 1 + 1, 1, none⟩) (by simp only; omega) (.int .i64 0)) (p := ⟨w.heap.size + 1 + 1, 2, none⟩) (by simp only; omega) (.int .i64 0))
  have BT := (bx_set (bx_set (bx_set (bx_far (bx_far (bx_far bT9 (p := ⟨w.heap.size + 1, 0, none⟩) (by simp only; omega) (.int .i64 0)) (p := ⟨w.heap.size + 1, 1, none⟩) (by simp only; omega) (.int .i64 0)) (p := ⟨w.heap.size + 1, 2, none⟩) (by simp only; omega) (.int .i64 0)) 0 (.int .i64 0)) 1 (.int .i64 0)) 2 (.int .i64 0))
  have UZ := (up_set (up_set (up_set (up_set (up_set (up_set U9 (p := ⟨w.heap.size + 1, 0, none⟩) (by simp only; omega) (.int .i64 0)) (p := ⟨w.heap.size + 1, 1, none⟩) (by simp only; omega) (.int .i64 0)) (p := ⟨w.heap.size + 1, 2, none⟩) (by simp only; omega) (.int .i64 0)) (p := ⟨w.heap.size + 1 + 1, 0, none⟩) (by simp only; omega) (.int .i64 0)) (p := ⟨w.heap.size + 1 + 1, 1, none⟩) (by simp only; omega) (.int .i64 0)) (p := ⟨w.heap.size + 1 + 1, 2, none⟩) (by simp only; omega) (.int .i64 0))
  generalize ((((((w9.setCell ⟨w.heap.size + 1, 0, none⟩ (.int .i64 0)).setCell ⟨w.heap.size + 1, 1, none⟩ (.int .i64 0)).setCell ⟨w.heap.size + 1, 2, none⟩ (.int .i64 0)).setCell ⟨w.heap.size + 1 + 1, 0, none⟩ (.int .i64 0)).setCell ⟨w.heap.size + 1 + 1, 1, none⟩ (.int .i64 0)).setCell ⟨w.heap.size + 1 + 1, 2, none⟩ (.int .i64 0)) = WZ at BR BT UZ ⊢
  have q0 := (BR 0 _ rfl).1
  have q1 := (BR 1 _ rfl).1
  have q2 := (BR 2 _ rfl).1
  have r0 := (BT 0 _ rfl).1
  have r1 := (BT 1 _ rfl).1
  have r2 := (BT 2 _ rfl).1
  refine bodyPost_ret (v := .tuple #[.agg #[.int .i64 0, .int .i64 0, .int .i64 0], .agg #[.int .i64 0, .int .i64 0, .int .i64 0], .int .i64 E]) (by simp [results, Tryz.f18, go_sem, q0, q1, q2, r0, r1, r2]) rfl ?_
  exact ⟨rfl, UZ⟩
set_option maxRecDepth 100000 in
set_option maxHeartbeats 8000000 in
theorem r_EnvE (s : ByteArray) (A : Option Addr) (ps : List Pce) (capA : Nat) (B : Option Addr) (ys : List Eye) (capB : Nat) (f : Int) (w : World) (hA : Pcs w A ps) (hB : Eyes w B ys) (hn : ps.length ≤ 9223372036854775807) (hm : ys.length ≤ 9223372036854775807) (E : Int) (he : loE s ps ys f = E) (h0 : E ≠ 0) :
    Calls Tryz.prog 19 #[loV s A ps.length capA B ys.length capB f] w fun e w' => e = .returned (.tuple #[.agg #[.int .i64 0, .int .i64 0, .int .i64 0], .agg #[.int .i64 0, .int .i64 0, .int .i64 0], .int .i64 E]) ∧ Up w w' := by
  have HC := hide (fun W (hW : Up w W) => r_CheckL s A ps capA B ys capB f W (pcs_up hA hW) (eyes_up hB hW) hn hm)
  rw [he] at HC
  have t0 : (E == 0) = false := by simp [h0]
  have t1 : (E != 0) = true := by simp [h0]
  generalize ps.length = n at *
  generalize ys.length = m at *
  clear hA hB he h0 hn hm
  go_enter Tryz.func19, Tryz.ntmps19
  go_upto_region 1 with fail
  refine at_wpC (fun W0 hW0 => ?_)
  have U0 : Up w W0 := by rw [hW0]; exact (by repeat' (first | (with_reducible exact up_refl _) | (with_reducible assumption) | (with_reducible refine up_alloc ?_ _) | (with_reducible refine up_drewN ?_ _) | (with_reducible refine up_drew ?_) | (with_reducible refine up_set ?_ (by first | (simp; done) | (simp; omega) | omega) _) | (refine up_trans ?_ (by with_reducible assumption))))
  obtain ⟨bL, bR, bT⟩ : Bx W0 w.heap.size [.string s, .slice A n capA, .slice B m capB, .int .i64 f] ∧ Bx W0 (w.heap.size + 1) [.int .i64 0, .int .i64 0, .int .i64 0] ∧ Bx W0 (w.heap.size + 1 + 1) [.int .i64 0, .int .i64 0, .int .i64 0] := by
    rw [hW0]
    exact bxm3 w [.string s, .slice A n capA, .slice B m capB, .int .i64 f] [.int .i64 0, .int .i64 0, .int .i64 0] [.int .i64 0, .int .i64 0, .int .i64 0] _ _ _
  clear hW0
  have c0 := (bL 0 _ rfl).1
  have c1 := (bL 1 _ rfl).1
  have c2 := (bL 2 _ rfl).1
  have c3 := (bL 3 _ rfl).1
  go_upto_region 2 with (go_at_call 17; (with_reducible refine (unhide HC _ U0).mono ?_); rintro e w1 ⟨rfl, v1⟩; have bL1 := bx_up bL v1; have bR1 := bx_up bR v1; have bT1 := bx_up bT v1; have U1 := up_trans U0 v1)
  clear bL bR bT U0 v1 c0 c1 c2 c3
  have c0 := (bL1 0 _ rfl).1
  have c1 := (bL1 1 _ rfl).1
  have c2 := (bL1 2 _ rfl).1
  have c3 := (bL1 3 _ rfl).1
  go_wp2_with (go_at_call 17; (with_reducible refine (unhide HC _ U1).mono ?_); rintro e w9 ⟨rfl, v9⟩; have bR9 := bx_up bR1 v9; have bT9 := bx_up bT1 v9; have U9 := up_trans U1 v9; have y0 := (bR9 0 _ rfl).1; have f0 := (bR9 0 _ rfl).2; have z0 := (bT9 0 _ rfl).1; have g0 := (bT9 0 _ rfl).2; have y1 := (bR9 1 _ rfl).1; have f1 := (bR9 1 _ rfl).2; have z1 := (bT9 1 _ rfl).1; have g1 := (bT9 1 _ rfl).2; have y2 := (bR9 2 _ rfl).1; have f2 := (bR9 2 _ rfl).2; have z2 := (bT9 2 _ rfl).1; have g2 := (bT9 2 _ rfl).2)
  have BR := (bx_far (bx_far (bx_far (bx_set (bx_set (bx_set bR9 0 (.int .i64 0)) 1 (.int .i64 0)) 2 (.int .i64 0)) (p := ⟨w.heap.size + 1 + 1, 0, none⟩) (by simp only; omega) (.int .i64 0)) (p := ⟨w.heap.size + 1 + 1, 1, none⟩) (by simp only; omega) (.int .i64 0)) (p := ⟨w.heap.size + 1 + 1, 2, none⟩) (by simp only; omega) (.int .i64 0))
  have BT := (bx_set (bx_set (bx_set (bx_far (bx_far (bx_far bT9 (p := ⟨w.heap.size + 1, 0, none⟩) (by simp only; omega) (.int .i64 0)) (p := ⟨w.heap.size + 1, 1, none⟩) (by simp only; omega) (.int .i64 0)) (p := ⟨w.heap.size + 1, 2, none⟩) (by simp only; omega) (.int .i64 0)) 0 (.int .i64 0)) 1 (.int .i64 0)) 2 (.int .i64 0))
  have UZ := (up_set (up_set (up_set (up_set (up_set (up_set U9 (p := ⟨w.heap.size + 1, 0, none⟩) (by simp only; omega) (.int .i64 0)) (p := ⟨w.heap.size + 1, 1, none⟩) (by simp only; omega) (.int .i64 0)) (p := ⟨w.heap.size + 1, 2, none⟩) (by simp only; omega) (.int .i64 0)) (p := ⟨w.heap.size + 1 + 1, 0, none⟩) (by simp only; omega) (.int .i64 0)) (p := ⟨w.heap.size + 1 + 1, 1, none⟩) (by simp only; omega) (.int .i64 0)) (p := ⟨w.heap.size + 1 + 1, 2, none⟩) (by simp only; omega) (.int .i64 0))
  generalize ((((((w9.setCell ⟨w.heap.size + 1, 0, none⟩ (.int .i64 0)).setCell ⟨w.heap.size + 1, 1, none⟩ (.int .i64 0)).setCell ⟨w.heap.size + 1, 2, none⟩ (.int .i64 0)).setCell ⟨w.heap.size + 1 + 1, 0, none⟩ (.int .i64 0)).setCell ⟨w.heap.size + 1 + 1, 1, none⟩ (.int .i64 0)).setCell ⟨w.heap.size + 1 + 1, 2, none⟩ (.int .i64 0)) = WZ at BR BT UZ ⊢
  have q0 := (BR 0 _ rfl).1
  have q1 := (BR 1 _ rfl).1
  have q2 := (BR 2 _ rfl).1
  have r0 := (BT 0 _ rfl).1
  have r1 := (BT 1 _ rfl).1
  have r2 := (BT 2 _ rfl).1
  refine bodyPost_ret (v := .tuple #[.agg #[.int .i64 0, .int .i64 0, .int .i64 0], .agg #[.int .i64 0, .int .i64 0, .int .i64 0], .int .i64 E]) (by simp [results, Tryz.f19, go_sem, q0, q1, q2, r0, r1, r2]) rfl ?_
  exact ⟨rfl, UZ⟩
theorem p_EnvelopeA (s : ByteArray) (A : Option Addr) (ps : List Pce) (capA : Nat) (B : Option Addr) (ys : List Eye) (capB : Nat) (f : Int) (w : World) (hA : Pcs w A ps) (hB : Eyes w B ys) (hn : ps.length ≤ 9223372036854775807) (hm : ys.length ≤ 9223372036854775807) :
    Calls Tryz.prog 18 #[loV s A ps.length capA B ys.length capB f] w fun e w' => e = .returned (evQ s ps ys f) ∧ Up w w' := by
  by_cases he : loE s ps ys f = 0
  · have q := p_EnvelopeL s A ps capA B ys capB f w hA hB hn hm he
    show Calls Tryz.prog 18 _ w fun e w' => e = .returned (.tuple #[.agg #[.int .i64 (loN s ps ys f gX), .int .i64 (loN s ps ys f gY), .int .i64 (loN s ps ys f gZ)], .agg #[.int .i64 (loX s ps ys f hX), .int .i64 (loX s ps ys f hY), .int .i64 (loX s ps ys f hZ)], .int .i64 (loE s ps ys f)]) ∧ Up w w'
    rw [he]
    exact q
  · rw [evQ_no he]
    exact p_EnvE s A ps capA B ys capB f w hA hB hn hm _ rfl he
end Go.Proofs.YtdehnokcjnbjoaaGreat
