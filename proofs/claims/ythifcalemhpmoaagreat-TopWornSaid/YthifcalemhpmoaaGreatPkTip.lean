/- Which platforms are valid; their parts at a point, and what tips. The sums of the groups of a platform. The parts of a platform at a point. -/
import Derived.Test.YthifcalemhpmoaaGreatPlat
import Derived.Test.YthifcalemhpmoaaGreatPkLever
namespace Go.Proofs.YthifcalemhpmoaaGreat
open Go.RowKit Go.Proofs.Gn
def pv (D q : Int) : Int := if D < 0 then -q else if 0 < D then q else 0
theorem row_pt {X Y : Int} (hX : -262144 ≤ X ∧ X ≤ 262144) (hY : -262144 ≤ Y ∧ Y ≤ 262144) : Gs.Row 1 X Y := by unfold Gs.Row; omega
theorem cmpV_mul (D q : Int) : cmpV D 0 * q = pv D q := by
  unfold cmpV pv
  by_cases h : D < 0
  · rw [if_pos h, if_pos h]; omega
  · rw [if_neg h, if_neg h]
    by_cases h2 : 0 < D
    · rw [if_pos h2, if_pos h2]; omega
    · rw [if_neg h2, if_neg h2]; omega
theorem pv_bd {D q : Int} (h : -11399736556781568 ≤ q ∧ q ≤ 11399736556781568) : -11399736556781568 ≤ pv D q ∧ pv D q ≤ 11399736556781568 := by
  unfold pv; split
  · omega
  · split <;> omega
theorem bx_three (w : World) (v1 v2 v3 : List Value) (t1 t2 t3 : TypeId) : Bx (((w.alloc (.cells v1.toArray t1)).alloc (.cells v2.toArray t2)).alloc (.cells v3.toArray t3)) w.heap.size v1 ∧ Bx (((w.alloc (.cells v1.toArray t1)).alloc (.cells v2.toArray t2)).alloc (.cells v3.toArray t3)) (w.heap.size + 1) v2 ∧ Bx (((w.alloc (.cells v1.toArray t1)).alloc (.cells v2.toArray t2)).alloc (.cells v3.toArray t3)) (w.heap.size + 1 + 1) v3 := by
  refine ⟨bx_alloc (bx_alloc (bx_new w _ _) _) _, ?_, ?_⟩
  · have h := bx_alloc (bx_new (w.alloc (.cells v1.toArray t1)) v2 t2) (.cells v3.toArray t3)
    rwa [sz1] at h
  · have h := bx_new ((w.alloc (.cells v1.toArray t1)).alloc (.cells v2.toArray t2)) v3 t3
    rwa [sz1, sz1] at h
theorem bx_thru {W v : World} {o : Obj} {b : Nat} {vs : List Value} (h : Bx W b vs) (hv : Up (W.alloc o) v) : Bx v b vs := bx_up (bx_alloc h o) hv
set_option maxHeartbeats 4000000 in
theorem p_parts {a0 a1 a2 b0 b1 b2 c0 c1 c2 X Y : Int} (ha : Gs.Row a0 a1 a2) (hb : Gs.Row b0 b1 b2) (hc : Gs.Row c0 c1 c2) (hX : -262144 ≤ X ∧ X ≤ 262144) (hY : -262144 ≤ Y ∧ Y ≤ 262144) (w : World) :
    Calls Tryz.prog 61 #[m9 a0 a1 a2 b0 b1 b2 c0 c1 c2, pt X Y] w fun e w' => e = .returned (.tuple #[.agg #[.int .i64 (pv (Gs.dt a0 a1 a2 b0 b1 b2 c0 c1 c2) (Gs.dt 1 X Y b0 b1 b2 c0 c1 c2)), .int .i64 (pv (Gs.dt a0 a1 a2 b0 b1 b2 c0 c1 c2) (Gs.dt a0 a1 a2 1 X Y c0 c1 c2)), .int .i64 (pv (Gs.dt a0 a1 a2 b0 b1 b2 c0 c1 c2) (Gs.dt a0 a1 a2 b0 b1 b2 1 X Y))], .int .i64 (pv (Gs.dt a0 a1 a2 b0 b1 b2 c0 c1 c2) (Gs.dt a0 a1 a2 b0 b1 b2 c0 c1 c2))]) ∧ Up w w' := by
  have hp := row_pt hX hY
  have H0 := fun W => p_determinant ha hb hc W
  have H1 := fun W => p_determinant hp hb hc W
  have H2 := fun W => p_determinant ha hp hc W
  have H3 := fun W => p_determinant ha hb hp W
  have d0 := Gs.dt_bd ha hb hc
  have d1 := Gs.dt_bd hp hb hc
  have d2 := Gs.dt_bd ha hp hc
  have d3 := Gs.dt_bd ha hb hp
  clear ha hb hc hp hX hY
  generalize Gs.dt a0 a1 a2 b0 b1 b2 c0 c1 c2 = D at *
  generalize Gs.dt 1 X Y b0 b1 b2 c0 c1 c2 = E1 at *
  generalize Gs.dt a0 a1 a2 1 X Y c0 c1 c2 = E2 at *
  generalize Gs.dt a0 a1 a2 b0 b1 b2 1 X Y = E3 at *
  have HCm : ∀ W : World, Calls Tryz.prog 97 #[.int .i64 D, .int .i64 0] W fun e w' => e = .returned (.int .i64 (cmpV D 0)) ∧ W = w' := fun W => c_Compare D 0 W
  have p0 := pv_bd (D := D) d0
  have p1 := pv_bd (D := D) d1
  have p2 := pv_bd (D := D) d2
  have p3 := pv_bd (D := D) d3
  have e0 := cmpV_mul D D
  have e1 := cmpV_mul D E1
  have e2 := cmpV_mul D E2
  have e3 := cmpV_mul D E3
  rw [← e0, ← e1, ← e2, ← e3]
  rw [← e0] at p0
  rw [← e1] at p1
  rw [← e2] at p2
  rw [← e3] at p3
  clear e0 e1 e2 e3
  generalize cmpV D 0 = S at *
  have h0 := hide H0
  have h1 := hide H1
  have h2 := hide H2
  have h3 := hide H3
  have hcm := hide HCm
  clear H0 H1 H2 H3 HCm
  go_enter Tryz.func61, Tryz.ntmps61
  go_wp2_with (first | (go_at_call 56; (with_reducible refine (unhide h0 _).mono ?_); rintro e w1 ⟨rfl, hb1⟩) | (go_at_call 97; (with_reducible refine (unhide hcm _).mono ?_); rintro e w2 ⟨rfl, rfl⟩))
  have three := bx_three w [.int .i64 a0, .int .i64 a1, .int .i64 a2, .int .i64 b0, .int .i64 b1, .int .i64 b2, .int .i64 c0, .int .i64 c1, .int .i64 c2] [.int .i64 X, .int .i64 Y] [.int .i64 0, .int .i64 0, .int .i64 0] 122 62 29
  have R0 := bx_up three.1 hb1
  have P0 := bx_up three.2.1 hb1
  have Z0 := bx_up three.2.2 hb1
  have U0 : Up w w1 := up_trans (by repeat' (first | (with_reducible exact up_refl _) | (with_reducible assumption) | (with_reducible refine up_alloc ?_ _) | (with_reducible refine up_drewN ?_ _) | (with_reducible refine up_drew ?_) | (with_reducible refine up_set ?_ (by first | (simp; done) | (simp; omega) | omega) _) | (refine up_trans ?_ (by with_reducible assumption)))) hb1
  clear three hb1
  have l0 := bx_lt Z0 (by simp)
  refine at_wp (fun W0 hW0 => ?_)
  have O0 : Bx W0 w1.heap.size [.int .i64 0, .int .i64 0, .int .i64 0] := by rw [hW0]; exact bx_new w1 _ 29
  have u0 : Up w1 W0 := by rw [hW0]; exact (by repeat' (first | (with_reducible exact up_refl _) | (with_reducible assumption) | (with_reducible refine up_alloc ?_ _) | (with_reducible refine up_drewN ?_ _) | (with_reducible refine up_drew ?_) | (with_reducible refine up_set ?_ (by first | (simp; done) | (simp; omega) | omega) _) | (refine up_trans ?_ (by with_reducible assumption))))
  replace R0 := bx_up R0 u0
  replace P0 := bx_up P0 u0
  replace Z0 := bx_up Z0 u0
  replace U0 := up_trans U0 u0
  clear hW0 u0
  refine wp_loop_rounds 4 ?_
  have m0 := bx_lt O0 (by simp)
  obtain ⟨q0, q1, q2, q3, q4, q5, q6, q7, q8⟩ := bx9 R0
  obtain ⟨x0, x1⟩ := bx2 P0
  have y0 := fun o => alloc_cell o x0
  have y1 := fun o => alloc_cell o x1
  rw [rounds_succ]
  go_wp2_with (go_at_call 56; (with_reducible refine (unhide h1 _).mono ?_); rintro e v1 ⟨rfl, hv⟩; have o3 := bx3 (bx_thru O0 hv); have f3 := bxf3 (bx_thru O0 hv); obtain ⟨o3, o4, o5⟩ := o3; obtain ⟨f3, f4, f5⟩ := f3)
  refine at_rounds (fun W1 hW1 => ?_)
  have R1 : Bx W1 w.heap.size [.int .i64 a0, .int .i64 a1, .int .i64 a2, .int .i64 b0, .int .i64 b1, .int .i64 b2, .int .i64 c0, .int .i64 c1, .int .i64 c2] := by rw [hW1]; exact bx_far (bx_thru R0 hv) (by simp; omega) _
  have P1 : Bx W1 (w.heap.size + 1) [.int .i64 X, .int .i64 Y] := by rw [hW1]; exact bx_far (bx_thru P0 hv) (by simp; omega) _
  have Z1 : Bx W1 (w.heap.size + 1 + 1) [.int .i64 0, .int .i64 0, .int .i64 0] := by rw [hW1]; exact bx_far (bx_thru Z0 hv) (by simp; omega) _
  have O1 : Bx W1 w1.heap.size [.int .i64 (S * E1), .int .i64 0, .int .i64 0] := by rw [hW1]; exact bx_set (bx_thru O0 hv) 0 _
  have U1 : Up w W1 := by
    rw [hW1]
    exact up_set (up_trans (up_alloc U0 _) hv) (by simp; omega) _
  clear hW1 R0 P0 Z0 O0 U0 hv q0 q1 q2 q3 q4 q5 q6 q7 q8 x0 x1 y0 y1 o3 o4 o5 f3 f4 f5 m0
  have m0 := bx_lt O1 (by simp)
  obtain ⟨q0, q1, q2, q3, q4, q5, q6, q7, q8⟩ := bx9 R1
  obtain ⟨x0, x1⟩ := bx2 P1
  have y0 := fun o => alloc_cell o x0
  have y1 := fun o => alloc_cell o x1
  rw [rounds_succ]
  go_wp2_with (go_at_call 56; (with_reducible refine (unhide h2 _).mono ?_); rintro e v2 ⟨rfl, hv⟩; have o3 := bx3 (bx_thru O1 hv); have f3 := bxf3 (bx_thru O1 hv); obtain ⟨o3, o4, o5⟩ := o3; obtain ⟨f3, f4, f5⟩ := f3)
  refine at_rounds (fun W2 hW2 => ?_)
  have R2 : Bx W2 w.heap.size [.int .i64 a0, .int .i64 a1, .int .i64 a2, .int .i64 b0, .int .i64 b1, .int .i64 b2, .int .i64 c0, .int .i64 c1, .int .i64 c2] := by rw [hW2]; exact bx_far (bx_thru R1 hv) (by simp; omega) _
  have P2 : Bx W2 (w.heap.size + 1) [.int .i64 X, .int .i64 Y] := by rw [hW2]; exact bx_far (bx_thru P1 hv) (by simp; omega) _
  have Z2 : Bx W2 (w.heap.size + 1 + 1) [.int .i64 0, .int .i64 0, .int .i64 0] := by rw [hW2]; exact bx_far (bx_thru Z1 hv) (by simp; omega) _
  have O2 : Bx W2 w1.heap.size [.int .i64 (S * E1), .int .i64 (S * E2), .int .i64 0] := by rw [hW2]; exact bx_set (bx_thru O1 hv) 1 _
  have U2 : Up w W2 := by
    rw [hW2]
    exact up_set (up_trans (up_alloc U1 _) hv) (by simp; omega) _
  clear hW2 R1 P1 Z1 O1 U1 hv q0 q1 q2 q3 q4 q5 q6 q7 q8 x0 x1 y0 y1 o3 o4 o5 f3 f4 f5 m0
  have m0 := bx_lt O2 (by simp)
  obtain ⟨q0, q1, q2, q3, q4, q5, q6, q7, q8⟩ := bx9 R2
  obtain ⟨x0, x1⟩ := bx2 P2
  have y0 := fun o => alloc_cell o x0
  have y1 := fun o => alloc_cell o x1
  rw [rounds_succ]
  go_wp2_with (go_at_call 56; (with_reducible refine (unhide h3 _).mono ?_); rintro e v3 ⟨rfl, hv⟩; have o3 := bx3 (bx_thru O2 hv); have f3 := bxf3 (bx_thru O2 hv); obtain ⟨o3, o4, o5⟩ := o3; obtain ⟨f3, f4, f5⟩ := f3)
  refine at_rounds (fun W3 hW3 => ?_)
  have R3 : Bx W3 w.heap.size [.int .i64 a0, .int .i64 a1, .int .i64 a2, .int .i64 b0, .int .i64 b1, .int .i64 b2, .int .i64 c0, .int .i64 c1, .int .i64 c2] := by rw [hW3]; exact bx_far (bx_thru R2 hv) (by simp; omega) _
  have P3 : Bx W3 (w.heap.size + 1) [.int .i64 X, .int .i64 Y] := by rw [hW3]; exact bx_far (bx_thru P2 hv) (by simp; omega) _
  have Z3 : Bx W3 (w.heap.size + 1 + 1) [.int .i64 0, .int .i64 0, .int .i64 0] := by rw [hW3]; exact bx_far (bx_thru Z2 hv) (by simp; omega) _
  have O3 : Bx W3 w1.heap.size [.int .i64 (S * E1), .int .i64 (S * E2), .int .i64 (S * E3)] := by rw [hW3]; exact bx_set (bx_thru O2 hv) 2 _
  have U3 : Up w W3 := by
    rw [hW3]
    exact up_set (up_trans (up_alloc U2 _) hv) (by simp; omega) _
  clear hW3 R2 P2 Z2 O2 U2 hv q0 q1 q2 q3 q4 q5 q6 q7 q8 x0 x1 y0 y1 o3 o4 o5 f3 f4 f5 m0
  rw [rounds_succ]
  obtain ⟨o3, o4, o5⟩ := bx3 O3
  obtain ⟨f3, f4, f5⟩ := bxf3 Z3
  obtain ⟨z3, z4, z5⟩ := bx3 Z3
  go_wp2_with fail
  obtain ⟨W9, hW9⟩ : ∃ W9 : World, W9 = (((W3.setCell ⟨w.heap.size + 1 + 1, 0, none⟩ (.int .i64 (S * E1))).setCell ⟨w.heap.size + 1 + 1, 1, none⟩ (.int .i64 (S * E2))).setCell ⟨w.heap.size + 1 + 1, 2, none⟩ (.int .i64 (S * E3))) := ⟨_, rfl⟩
  rw [← hW9]
  have B9 : Bx W9 (w.heap.size + 1 + 1) [.int .i64 (S * E1), .int .i64 (S * E2), .int .i64 (S * E3)] := by rw [hW9]; exact bx_set3 Z3
  have U9 : Up w W9 := by rw [hW9]; exact up_set (up_set (up_set U3 (by simp; omega) _) (by simp; omega) _) (by simp; omega) _
  clear hW9 f3 f4 f5 z3 z4 z5 o3 o4 o5
  obtain ⟨q0, q1, q2⟩ := bx3 B9
  refine bodyPost_ret (v := .tuple #[.agg #[.int .i64 (S * E1), .int .i64 (S * E2), .int .i64 (S * E3)], .int .i64 (S * D)]) ?_ rfl ⟨rfl, U9⟩
  simp [results, Tryz.results61, go_sem, q0, q1, q2]
end Go.Proofs.YthifcalemhpmoaaGreat
namespace Go.Proofs.YthifcalemhpmoaaGreat
open Go.RowKit Go.Proofs.Gn
set_option maxHeartbeats 4000000 in
theorem p_sums (A : Option Addr) (ps : List Gs.Sup) (cap : Nat) (w : World) (h : Sups w A ps) (ho : Gs.okA ps = true) (hn : ps.length ≤ 48) :
    Calls Tryz.prog 57 #[.slice A ps.length cap] w fun e w' => e = .returned (.agg (l9 ps).toArray) ∧ Up w w' := by
  rcases h with rfl | ⟨b, off, rfl, hc⟩
  · go_enter Tryz.func57, Tryz.ntmps57
    go_wp2_with fail
    go_rounds 1
    go_returns
    exact ⟨rfl, (by repeat' (first | (with_reducible exact up_refl _) | (with_reducible assumption) | (with_reducible refine up_alloc ?_ _) | (with_reducible refine up_drewN ?_ _) | (with_reducible refine up_drew ?_) | (with_reducible refine up_set ?_ (by first | (simp; done) | (simp; omega) | omega) _) | (refine up_trans ?_ (by with_reducible assumption))))⟩
  have HC := hide hc
  have HO := hide ho
  clear hc ho
  obtain ⟨n, hN⟩ : ∃ n, ps.length = n := ⟨_, rfl⟩
  rw [hN] at hn ⊢
  have HN := hide hN
  clear hN
  go_enter Tryz.func57, Tryz.ntmps57
  go_wp2_with fail
  go_loopw [10] (fun i wr => ∃ k : Nat, k ≤ n ∧ i = .int .i64 k ∧ Up w wr ∧ Bx wr (w.heap.size + 1) (l9 (ps.take k)) ∧ Bx wr w.heap.size (l9 [])) (fun i _ => n - (intOf i).toNat)
  case atStart => exact ⟨0, by omega, rfl, (by repeat' (first | (with_reducible exact up_refl _) | (with_reducible assumption) | (with_reducible refine up_alloc ?_ _) | (with_reducible refine up_drewN ?_ _) | (with_reducible refine up_drew ?_) | (with_reducible refine up_set ?_ (by first | (simp; done) | (simp; omega) | omega) _) | (refine up_trans ?_ (by with_reducible assumption)))), by have h1 := bx_new (w.alloc (.cells #[.int .i64 0, .int .i64 0, .int .i64 0, .int .i64 0, .int .i64 0, .int .i64 0, .int .i64 0, .int .i64 0, .int .i64 0] 122)) (l9 []) 122; rwa [sz1] at h1, bx_alloc (bx_new w (l9 []) 122) _⟩
  case round =>
    obtain ⟨k, hk, rfl, hu, hB, hZ⟩ := hrel
    have hUs := bx_lt hB (by simp)
    by_cases hlt : k < n
    · have hl : k < ps.length := by rw [unhide HN]; exact hlt
      have hsup := supAt_up (unhide HC k hl) hu
      have hok := Gs.okS_yes (Gs.okA_get (unhide HO) hl)
      have R0 := row_take (unhide HO) (by rw [unhide HN]; exact hn) k 0 (.inl rfl)
      have R1 := row_take (unhide HO) (by rw [unhide HN]; exact hn) k 1 (.inr (.inl rfl))
      have R2 := row_take (unhide HO) (by rw [unhide HN]; exact hn) k 2 (.inr (.inr rfl))
      obtain ⟨d0, d1, d2, d3, d4, d5⟩ := hsup
      have HS := hide (⟨fun g hg => sums_step hl g hg, fun g hg => sums_stay hl g hg⟩ : (∀ g, ps[k].g = g → _) ∧ (∀ g, ¬ ps[k].g = g → _))
      obtain ⟨x, hx⟩ : ∃ x, ps[k].x = x := ⟨_, rfl⟩
      obtain ⟨y, hy⟩ : ∃ x, ps[k].y = x := ⟨_, rfl⟩
      obtain ⟨g, hg⟩ : ∃ x, ps[k].g = x := ⟨_, rfl⟩
      rw [hx] at d0 hok
      rw [hy] at d1 hok
      rw [hg] at d2 hok
      have HX := hide (And.intro hx (And.intro hy hg))
      clear hx hy hg
      obtain ⟨n0, hn0⟩ : ∃ x, Gs.cN 0 (ps.take k) = x := ⟨_, rfl⟩
      obtain ⟨x0, hx0⟩ : ∃ x, Gs.cX 0 (ps.take k) = x := ⟨_, rfl⟩
      obtain ⟨y0, hy0⟩ : ∃ x, Gs.cY 0 (ps.take k) = x := ⟨_, rfl⟩
      obtain ⟨n1, hn1⟩ : ∃ x, Gs.cN 1 (ps.take k) = x := ⟨_, rfl⟩
      obtain ⟨x1, hx1⟩ : ∃ x, Gs.cX 1 (ps.take k) = x := ⟨_, rfl⟩
      obtain ⟨y1, hy1⟩ : ∃ x, Gs.cY 1 (ps.take k) = x := ⟨_, rfl⟩
      obtain ⟨n2, hn2⟩ : ∃ x, Gs.cN 2 (ps.take k) = x := ⟨_, rfl⟩
      obtain ⟨x2, hx2⟩ : ∃ x, Gs.cX 2 (ps.take k) = x := ⟨_, rfl⟩
      obtain ⟨y2, hy2⟩ : ∃ x, Gs.cY 2 (ps.take k) = x := ⟨_, rfl⟩
      have hB' : Bx wr (w.heap.size + 1) [.int .i64 n0, .int .i64 x0, .int .i64 y0, .int .i64 n1, .int .i64 x1, .int .i64 y1, .int .i64 n2, .int .i64 x2, .int .i64 y2] := by
        rw [← hn0, ← hx0, ← hy0, ← hn1, ← hx1, ← hy1, ← hn2, ← hx2, ← hy2]; exact hB
      rw [hn0, hx0, hy0] at R0
      rw [hn1, hx1, hy1] at R1
      rw [hn2, hx2, hy2] at R2
      have HE := hide (And.intro hn0 (And.intro hx0 (And.intro hy0 (And.intro hn1 (And.intro hx1 (And.intro hy1 (And.intro hn2 (And.intro hx2 hy2))))))))
      clear hn0 hx0 hy0 hn1 hx1 hy1 hn2 hx2 hy2 hB
      obtain ⟨q0, q1, q2, q3, q4, q5, q6, q7, q8⟩ := bx9 hB'
      obtain ⟨f0, f1, f2, f3, f4, f5, f6, f7, f8⟩ := bxf9 hB'
      have HB := hide hB'
      clear hB'
      unfold Gs.Row at R0 R1 R2
      obtain ⟨⟨o1, o2⟩, ⟨o3, o4⟩, ⟨o5, o6⟩, _⟩ := hok
      obtain ⟨⟨_, _⟩, ⟨_, _⟩, _, _⟩ := R0
      obtain ⟨⟨_, _⟩, ⟨_, _⟩, _, _⟩ := R1
      obtain ⟨⟨_, _⟩, ⟨_, _⟩, _, _⟩ := R2
      rcases (show g = 0 ∨ g = 1 ∨ g = 2 by omega) with rfl | rfl | rfl
      · go_wp2_with fail
        refine at_wp (fun W0 hW0 => ?_)
        have u0 : Up wr W0 := by rw [hW0]; exact (by repeat' (first | (with_reducible exact up_refl _) | (with_reducible assumption) | (with_reducible refine up_alloc ?_ _) | (with_reducible refine up_drewN ?_ _) | (with_reducible refine up_drew ?_) | (with_reducible refine up_set ?_ (by first | (simp; done) | (simp; omega) | omega) _) | (refine up_trans ?_ (by with_reducible assumption))))
        have B0 : Bx W0 (w.heap.size + 1) [.int .i64 n0, .int .i64 x0, .int .i64 y0, .int .i64 n1, .int .i64 x1, .int .i64 y1, .int .i64 n2, .int .i64 x2, .int .i64 y2] := bx_up (unhide HB) u0
        have S0 : Bx W0 wr.heap.size [.int .i64 x, .int .i64 y, .int .i64 0, .int .i64 ps[k].lim, .int .i64 ps[k].lo, .int .i64 ps[k].hi] := by rw [hW0]; exact bx_alloc (bx_new wr _ 39) _
        have T0 : Bx W0 (wr.heap.size + 1) [.int .i64 1, .int .i64 x, .int .i64 y] := by
          rw [hW0]
          have t := bx_new (wr.alloc (.cells #[.int .i64 x, .int .i64 y, .int .i64 0, .int .i64 ps[k].lim, .int .i64 ps[k].lo, .int .i64 ps[k].hi] 39)) [.int .i64 1, .int .i64 x, .int .i64 y] 29
          rwa [sz1] at t
        have Z0 : Bx W0 w.heap.size (l9 []) := bx_up hZ u0
        have U0 : Up w W0 := up_trans hu u0
        clear hW0 u0 q0 q1 q2 q3 q4 q5 q6 q7 q8 f0 f1 f2 f3 f4 f5 f6 f7 f8 d0 d1 d2 d3 d4 d5
        refine wp_loop_rounds 4 ?_
        obtain ⟨q0, q1, q2, q3, q4, q5, q6, q7, q8⟩ := bx9 B0
        obtain ⟨f0, f1, f2, f3, f4, f5, f6, f7, f8⟩ := bxf9 B0
        have s2 := (S0 2 _ rfl).1
        have tc := (T0 0 _ rfl).1
        rw [rounds_succ]
        go_wp2_with fail
        go_region
        all_goals go_wp2_with fail
        refine at_rounds (fun W1 hW1 => ?_)
        have B1 : Bx W1 (w.heap.size + 1) [.int .i64 (n0 + 1), .int .i64 x0, .int .i64 y0, .int .i64 n1, .int .i64 x1, .int .i64 y1, .int .i64 n2, .int .i64 x2, .int .i64 y2] := by rw [hW1]; exact bx_set (bx_drew B0) 0 _
        have S1 : Bx W1 wr.heap.size [.int .i64 x, .int .i64 y, .int .i64 0, .int .i64 ps[k].lim, .int .i64 ps[k].lo, .int .i64 ps[k].hi] := by rw [hW1]; exact bx_far (bx_drew S0) (by simp; omega) _
        have T1 : Bx W1 (wr.heap.size + 1) [.int .i64 1, .int .i64 x, .int .i64 y] := by rw [hW1]; exact bx_far (bx_drew T0) (by simp; omega) _
        have Z1 : Bx W1 w.heap.size (l9 []) := by rw [hW1]; exact bx_far (bx_drew Z0) (by simp) _
        have U1 : Up w W1 := by rw [hW1]; exact up_set (up_drew U0) (by simp) _
        clear hW1 B0 S0 T0 U0 Z0 q0 q1 q2 q3 q4 q5 q6 q7 q8 f0 f1 f2 f3 f4 f5 f6 f7 f8 s2 tc
        obtain ⟨q0, q1, q2, q3, q4, q5, q6, q7, q8⟩ := bx9 B1
        obtain ⟨f0, f1, f2, f3, f4, f5, f6, f7, f8⟩ := bxf9 B1
        have s2 := (S1 2 _ rfl).1
        have tc := (T1 1 _ rfl).1
        rw [rounds_succ]
        go_wp2_with fail
        go_region
        all_goals go_wp2_with fail
        refine at_rounds (fun W2 hW2 => ?_)
        have B2 : Bx W2 (w.heap.size + 1) [.int .i64 (n0 + 1), .int .i64 (x0 + x), .int .i64 y0, .int .i64 n1, .int .i64 x1, .int .i64 y1, .int .i64 n2, .int .i64 x2, .int .i64 y2] := by rw [hW2]; exact bx_set (bx_drew B1) 1 _
        have S2 : Bx W2 wr.heap.size [.int .i64 x, .int .i64 y, .int .i64 0, .int .i64 ps[k].lim, .int .i64 ps[k].lo, .int .i64 ps[k].hi] := by rw [hW2]; exact bx_far (bx_drew S1) (by simp; omega) _
        have T2 : Bx W2 (wr.heap.size + 1) [.int .i64 1, .int .i64 x, .int .i64 y] := by rw [hW2]; exact bx_far (bx_drew T1) (by simp; omega) _
        have Z2 : Bx W2 w.heap.size (l9 []) := by rw [hW2]; exact bx_far (bx_drew Z1) (by simp) _
        have U2 : Up w W2 := by rw [hW2]; exact up_set (up_drew U1) (by simp) _
        clear hW2 B1 S1 T1 U1 Z1 q0 q1 q2 q3 q4 q5 q6 q7 q8 f0 f1 f2 f3 f4 f5 f6 f7 f8 s2 tc
        obtain ⟨q0, q1, q2, q3, q4, q5, q6, q7, q8⟩ := bx9 B2
        obtain ⟨f0, f1, f2, f3, f4, f5, f6, f7, f8⟩ := bxf9 B2
        have s2 := (S2 2 _ rfl).1
        have tc := (T2 2 _ rfl).1
        rw [rounds_succ]
        go_wp2_with fail
        go_region
        all_goals go_wp2_with fail
        refine at_rounds (fun W3 hW3 => ?_)
        have B3 : Bx W3 (w.heap.size + 1) [.int .i64 (n0 + 1), .int .i64 (x0 + x), .int .i64 (y0 + y), .int .i64 n1, .int .i64 x1, .int .i64 y1, .int .i64 n2, .int .i64 x2, .int .i64 y2] := by rw [hW3]; exact bx_set (bx_drew B2) 2 _
        have S3 : Bx W3 wr.heap.size [.int .i64 x, .int .i64 y, .int .i64 0, .int .i64 ps[k].lim, .int .i64 ps[k].lo, .int .i64 ps[k].hi] := by rw [hW3]; exact bx_far (bx_drew S2) (by simp; omega) _
        have T3 : Bx W3 (wr.heap.size + 1) [.int .i64 1, .int .i64 x, .int .i64 y] := by rw [hW3]; exact bx_far (bx_drew T2) (by simp; omega) _
        have Z3 : Bx W3 w.heap.size (l9 []) := by rw [hW3]; exact bx_far (bx_drew Z2) (by simp) _
        have U3 : Up w W3 := by rw [hW3]; exact up_set (up_drew U2) (by simp) _
        clear hW3 B2 S2 T2 U2 Z2 q0 q1 q2 q3 q4 q5 q6 q7 q8 f0 f1 f2 f3 f4 f5 f6 f7 f8 s2 tc
        rw [rounds_succ]
        go_wp2_with fail
        go_roundw
        case rel =>
          refine ⟨k + 1, by omega, by go_num, U3, ?_, Z3⟩
          obtain ⟨e1, e2, e3⟩ := unhide HX
          obtain ⟨k1, k2⟩ := unhide HS
          obtain ⟨z0, z1, z2, z3, z4, z5, z6, z7, z8⟩ := unhide HE
          have a := k1 0 e3
          have p := k2 1 (by rw [e3]; decide)
          have q := k2 2 (by rw [e3]; decide)
          rw [e1, e2] at a
          unfold l9
          rw [a.1, a.2.1, a.2.2, p.1, p.2.1, p.2.2, q.1, q.2.1, q.2.2, z0, z1, z2, z3, z4, z5, z6, z7, z8]
          exact B3
        case measure => simp [intOf]; omega
      · go_wp2_with fail
        refine at_wp (fun W0 hW0 => ?_)
        have u0 : Up wr W0 := by rw [hW0]; exact (by repeat' (first | (with_reducible exact up_refl _) | (with_reducible assumption) | (with_reducible refine up_alloc ?_ _) | (with_reducible refine up_drewN ?_ _) | (with_reducible refine up_drew ?_) | (with_reducible refine up_set ?_ (by first | (simp; done) | (simp; omega) | omega) _) | (refine up_trans ?_ (by with_reducible assumption))))
        have B0 : Bx W0 (w.heap.size + 1) [.int .i64 n0, .int .i64 x0, .int .i64 y0, .int .i64 n1, .int .i64 x1, .int .i64 y1, .int .i64 n2, .int .i64 x2, .int .i64 y2] := bx_up (unhide HB) u0
        have S0 : Bx W0 wr.heap.size [.int .i64 x, .int .i64 y, .int .i64 1, .int .i64 ps[k].lim, .int .i64 ps[k].lo, .int .i64 ps[k].hi] := by rw [hW0]; exact bx_alloc (bx_new wr _ 39) _
        have T0 : Bx W0 (wr.heap.size + 1) [.int .i64 1, .int .i64 x, .int .i64 y] := by
          rw [hW0]
          have t := bx_new (wr.alloc (.cells #[.int .i64 x, .int .i64 y, .int .i64 1, .int .i64 ps[k].lim, .int .i64 ps[k].lo, .int .i64 ps[k].hi] 39)) [.int .i64 1, .int .i64 x, .int .i64 y] 29
          rwa [sz1] at t
        have Z0 : Bx W0 w.heap.size (l9 []) := bx_up hZ u0
        have U0 : Up w W0 := up_trans hu u0
        clear hW0 u0 q0 q1 q2 q3 q4 q5 q6 q7 q8 f0 f1 f2 f3 f4 f5 f6 f7 f8 d0 d1 d2 d3 d4 d5
        refine wp_loop_rounds 4 ?_
        obtain ⟨q0, q1, q2, q3, q4, q5, q6, q7, q8⟩ := bx9 B0
        obtain ⟨f0, f1, f2, f3, f4, f5, f6, f7, f8⟩ := bxf9 B0
        have s2 := (S0 2 _ rfl).1
        have tc := (T0 0 _ rfl).1
        rw [rounds_succ]
        go_wp2_with fail
        go_region
        all_goals go_wp2_with fail
        refine at_rounds (fun W1 hW1 => ?_)
        have B1 : Bx W1 (w.heap.size + 1) [.int .i64 n0, .int .i64 x0, .int .i64 y0, .int .i64 (n1 + 1), .int .i64 x1, .int .i64 y1, .int .i64 n2, .int .i64 x2, .int .i64 y2] := by rw [hW1]; exact bx_set (bx_drew B0) 3 _
        have S1 : Bx W1 wr.heap.size [.int .i64 x, .int .i64 y, .int .i64 1, .int .i64 ps[k].lim, .int .i64 ps[k].lo, .int .i64 ps[k].hi] := by rw [hW1]; exact bx_far (bx_drew S0) (by simp; omega) _
        have T1 : Bx W1 (wr.heap.size + 1) [.int .i64 1, .int .i64 x, .int .i64 y] := by rw [hW1]; exact bx_far (bx_drew T0) (by simp; omega) _
        have Z1 : Bx W1 w.heap.size (l9 []) := by rw [hW1]; exact bx_far (bx_drew Z0) (by simp) _
        have U1 : Up w W1 := by rw [hW1]; exact up_set (up_drew U0) (by simp) _
        clear hW1 B0 S0 T0 U0 Z0 q0 q1 q2 q3 q4 q5 q6 q7 q8 f0 f1 f2 f3 f4 f5 f6 f7 f8 s2 tc
        obtain ⟨q0, q1, q2, q3, q4, q5, q6, q7, q8⟩ := bx9 B1
        obtain ⟨f0, f1, f2, f3, f4, f5, f6, f7, f8⟩ := bxf9 B1
        have s2 := (S1 2 _ rfl).1
        have tc := (T1 1 _ rfl).1
        rw [rounds_succ]
        go_wp2_with fail
        go_region
        all_goals go_wp2_with fail
        refine at_rounds (fun W2 hW2 => ?_)
        have B2 : Bx W2 (w.heap.size + 1) [.int .i64 n0, .int .i64 x0, .int .i64 y0, .int .i64 (n1 + 1), .int .i64 (x1 + x), .int .i64 y1, .int .i64 n2, .int .i64 x2, .int .i64 y2] := by rw [hW2]; exact bx_set (bx_drew B1) 4 _
        have S2 : Bx W2 wr.heap.size [.int .i64 x, .int .i64 y, .int .i64 1, .int .i64 ps[k].lim, .int .i64 ps[k].lo, .int .i64 ps[k].hi] := by rw [hW2]; exact bx_far (bx_drew S1) (by simp; omega) _
        have T2 : Bx W2 (wr.heap.size + 1) [.int .i64 1, .int .i64 x, .int .i64 y] := by rw [hW2]; exact bx_far (bx_drew T1) (by simp; omega) _
        have Z2 : Bx W2 w.heap.size (l9 []) := by rw [hW2]; exact bx_far (bx_drew Z1) (by simp) _
        have U2 : Up w W2 := by rw [hW2]; exact up_set (up_drew U1) (by simp) _
        clear hW2 B1 S1 T1 U1 Z1 q0 q1 q2 q3 q4 q5 q6 q7 q8 f0 f1 f2 f3 f4 f5 f6 f7 f8 s2 tc
        obtain ⟨q0, q1, q2, q3, q4, q5, q6, q7, q8⟩ := bx9 B2
        obtain ⟨f0, f1, f2, f3, f4, f5, f6, f7, f8⟩ := bxf9 B2
        have s2 := (S2 2 _ rfl).1
        have tc := (T2 2 _ rfl).1
        rw [rounds_succ]
        go_wp2_with fail
        go_region
        all_goals go_wp2_with fail
        refine at_rounds (fun W3 hW3 => ?_)
        have B3 : Bx W3 (w.heap.size + 1) [.int .i64 n0, .int .i64 x0, .int .i64 y0, .int .i64 (n1 + 1), .int .i64 (x1 + x), .int .i64 (y1 + y), .int .i64 n2, .int .i64 x2, .int .i64 y2] := by rw [hW3]; exact bx_set (bx_drew B2) 5 _
        have S3 : Bx W3 wr.heap.size [.int .i64 x, .int .i64 y, .int .i64 1, .int .i64 ps[k].lim, .int .i64 ps[k].lo, .int .i64 ps[k].hi] := by rw [hW3]; exact bx_far (bx_drew S2) (by simp; omega) _
        have T3 : Bx W3 (wr.heap.size + 1) [.int .i64 1, .int .i64 x, .int .i64 y] := by rw [hW3]; exact bx_far (bx_drew T2) (by simp; omega) _
        have Z3 : Bx W3 w.heap.size (l9 []) := by rw [hW3]; exact bx_far (bx_drew Z2) (by simp) _
        have U3 : Up w W3 := by rw [hW3]; exact up_set (up_drew U2) (by simp) _
        clear hW3 B2 S2 T2 U2 Z2 q0 q1 q2 q3 q4 q5 q6 q7 q8 f0 f1 f2 f3 f4 f5 f6 f7 f8 s2 tc
        rw [rounds_succ]
        go_wp2_with fail
        go_roundw
        case rel =>
          refine ⟨k + 1, by omega, by go_num, U3, ?_, Z3⟩
          obtain ⟨e1, e2, e3⟩ := unhide HX
          obtain ⟨k1, k2⟩ := unhide HS
          obtain ⟨z0, z1, z2, z3, z4, z5, z6, z7, z8⟩ := unhide HE
          have a := k1 1 e3
          have p := k2 2 (by rw [e3]; decide)
          have q := k2 0 (by rw [e3]; decide)
          rw [e1, e2] at a
          unfold l9
          rw [a.1, a.2.1, a.2.2, p.1, p.2.1, p.2.2, q.1, q.2.1, q.2.2, z0, z1, z2, z3, z4, z5, z6, z7, z8]
          exact B3
        case measure => simp [intOf]; omega
      · go_wp2_with fail
        refine at_wp (fun W0 hW0 => ?_)
        have u0 : Up wr W0 := by rw [hW0]; exact (by repeat' (first | (with_reducible exact up_refl _) | (with_reducible assumption) | (with_reducible refine up_alloc ?_ _) | (with_reducible refine up_drewN ?_ _) | (with_reducible refine up_drew ?_) | (with_reducible refine up_set ?_ (by first | (simp; done) | (simp; omega) | omega) _) | (refine up_trans ?_ (by with_reducible assumption))))
        have B0 : Bx W0 (w.heap.size + 1) [.int .i64 n0, .int .i64 x0, .int .i64 y0, .int .i64 n1, .int .i64 x1, .int .i64 y1, .int .i64 n2, .int .i64 x2, .int .i64 y2] := bx_up (unhide HB) u0
        have S0 : Bx W0 wr.heap.size [.int .i64 x, .int .i64 y, .int .i64 2, .int .i64 ps[k].lim, .int .i64 ps[k].lo, .int .i64 ps[k].hi] := by rw [hW0]; exact bx_alloc (bx_new wr _ 39) _
        have T0 : Bx W0 (wr.heap.size + 1) [.int .i64 1, .int .i64 x, .int .i64 y] := by
          rw [hW0]
          have t := bx_new (wr.alloc (.cells #[.int .i64 x, .int .i64 y, .int .i64 2, .int .i64 ps[k].lim, .int .i64 ps[k].lo, .int .i64 ps[k].hi] 39)) [.int .i64 1, .int .i64 x, .int .i64 y] 29
          rwa [sz1] at t
        have Z0 : Bx W0 w.heap.size (l9 []) := bx_up hZ u0
        have U0 : Up w W0 := up_trans hu u0
        clear hW0 u0 q0 q1 q2 q3 q4 q5 q6 q7 q8 f0 f1 f2 f3 f4 f5 f6 f7 f8 d0 d1 d2 d3 d4 d5
        refine wp_loop_rounds 4 ?_
        obtain ⟨q0, q1, q2, q3, q4, q5, q6, q7, q8⟩ := bx9 B0
        obtain ⟨f0, f1, f2, f3, f4, f5, f6, f7, f8⟩ := bxf9 B0
        have s2 := (S0 2 _ rfl).1
        have tc := (T0 0 _ rfl).1
        rw [rounds_succ]
        go_wp2_with fail
        go_region
        all_goals go_wp2_with fail
        refine at_rounds (fun W1 hW1 => ?_)
        have B1 : Bx W1 (w.heap.size + 1) [.int .i64 n0, .int .i64 x0, .int .i64 y0, .int .i64 n1, .int .i64 x1, .int .i64 y1, .int .i64 (n2 + 1), .int .i64 x2, .int .i64 y2] := by rw [hW1]; exact bx_set (bx_drew B0) 6 _
        have S1 : Bx W1 wr.heap.size [.int .i64 x, .int .i64 y, .int .i64 2, .int .i64 ps[k].lim, .int .i64 ps[k].lo, .int .i64 ps[k].hi] := by rw [hW1]; exact bx_far (bx_drew S0) (by simp; omega) _
        have T1 : Bx W1 (wr.heap.size + 1) [.int .i64 1, .int .i64 x, .int .i64 y] := by rw [hW1]; exact bx_far (bx_drew T0) (by simp; omega) _
        have Z1 : Bx W1 w.heap.size (l9 []) := by rw [hW1]; exact bx_far (bx_drew Z0) (by simp) _
        have U1 : Up w W1 := by rw [hW1]; exact up_set (up_drew U0) (by simp) _
        clear hW1 B0 S0 T0 U0 Z0 q0 q1 q2 q3 q4 q5 q6 q7 q8 f0 f1 f2 f3 f4 f5 f6 f7 f8 s2 tc
        obtain ⟨q0, q1, q2, q3, q4, q5, q6, q7, q8⟩ := bx9 B1
        obtain ⟨f0, f1, f2, f3, f4, f5, f6, f7, f8⟩ := bxf9 B1
        have s2 := (S1 2 _ rfl).1
        have tc := (T1 1 _ rfl).1
        rw [rounds_succ]
        go_wp2_with fail
        go_region
        all_goals go_wp2_with fail
        refine at_rounds (fun W2 hW2 => ?_)
        have B2 : Bx W2 (w.heap.size + 1) [.int .i64 n0, .int .i64 x0, .int .i64 y0, .int .i64 n1, .int .i64 x1, .int .i64 y1, .int .i64 (n2 + 1), .int .i64 (x2 + x), .int .i64 y2] := by rw [hW2]; exact bx_set (bx_drew B1) 7 _
        have S2 : Bx W2 wr.heap.size [.int .i64 x, .int .i64 y, .int .i64 2, .int .i64 ps[k].lim, .int .i64 ps[k].lo, .int .i64 ps[k].hi] := by rw [hW2]; exact bx_far (bx_drew S1) (by simp; omega) _
        have T2 : Bx W2 (wr.heap.size + 1) [.int .i64 1, .int .i64 x, .int .i64 y] := by rw [hW2]; exact bx_far (bx_drew T1) (by simp; omega) _
        have Z2 : Bx W2 w.heap.size (l9 []) := by rw [hW2]; exact bx_far (bx_drew Z1) (by simp) _
        have U2 : Up w W2 := by rw [hW2]; exact up_set (up_drew U1) (by simp) _
        clear hW2 B1 S1 T1 U1 Z1 q0 q1 q2 q3 q4 q5 q6 q7 q8 f0 f1 f2 f3 f4 f5 f6 f7 f8 s2 tc
        obtain ⟨q0, q1, q2, q3, q4, q5, q6, q7, q8⟩ := bx9 B2
        obtain ⟨f0, f1, f2, f3, f4, f5, f6, f7, f8⟩ := bxf9 B2
        have s2 := (S2 2 _ rfl).1
        have tc := (T2 2 _ rfl).1
        rw [rounds_succ]
        go_wp2_with fail
        go_region
        all_goals go_wp2_with fail
        refine at_rounds (fun W3 hW3 => ?_)
        have B3 : Bx W3 (w.heap.size + 1) [.int .i64 n0, .int .i64 x0, .int .i64 y0, .int .i64 n1, .int .i64 x1, .int .i64 y1, .int .i64 (n2 + 1), .int .i64 (x2 + x), .int .i64 (y2 + y)] := by rw [hW3]; exact bx_set (bx_drew B2) 8 _
        have S3 : Bx W3 wr.heap.size [.int .i64 x, .int .i64 y, .int .i64 2, .int .i64 ps[k].lim, .int .i64 ps[k].lo, .int .i64 ps[k].hi] := by rw [hW3]; exact bx_far (bx_drew S2) (by simp; omega) _
        have T3 : Bx W3 (wr.heap.size + 1) [.int .i64 1, .int .i64 x, .int .i64 y] := by rw [hW3]; exact bx_far (bx_drew T2) (by simp; omega) _
        have Z3 : Bx W3 w.heap.size (l9 []) := by rw [hW3]; exact bx_far (bx_drew Z2) (by simp) _
        have U3 : Up w W3 := by rw [hW3]; exact up_set (up_drew U2) (by simp) _
        clear hW3 B2 S2 T2 U2 Z2 q0 q1 q2 q3 q4 q5 q6 q7 q8 f0 f1 f2 f3 f4 f5 f6 f7 f8 s2 tc
        rw [rounds_succ]
        go_wp2_with fail
        go_roundw
        case rel =>
          refine ⟨k + 1, by omega, by go_num, U3, ?_, Z3⟩
          obtain ⟨e1, e2, e3⟩ := unhide HX
          obtain ⟨k1, k2⟩ := unhide HS
          obtain ⟨z0, z1, z2, z3, z4, z5, z6, z7, z8⟩ := unhide HE
          have a := k1 2 e3
          have p := k2 0 (by rw [e3]; decide)
          have q := k2 1 (by rw [e3]; decide)
          rw [e1, e2] at a
          unfold l9
          rw [a.1, a.2.1, a.2.2, p.1, p.2.1, p.2.2, q.1, q.2.1, q.2.2, z0, z1, z2, z3, z4, z5, z6, z7, z8]
          exact B3
        case measure => simp [intOf]; omega
    · obtain rfl : k = n := by omega
      have hz : ps.take k = ps := List.take_of_length_le (by rw [unhide HN]; omega)
      rw [hz] at hB
      obtain ⟨q0, q1, q2, q3, q4, q5, q6, q7, q8⟩ := bx9 hB
      obtain ⟨f0, f1, f2, f3, f4, f5, f6, f7, f8⟩ := bxf9 hZ
      obtain ⟨z0, z1, z2, z3, z4, z5, z6, z7, z8⟩ := bx9 hZ
      clear hz
      go_wp2_with fail
      obtain ⟨W9, hW9⟩ : ∃ W9 : World, W9 = (((((((((wr.setCell ⟨w.heap.size, 0, none⟩ (.int .i64 (Gs.cN 0 ps))).setCell ⟨w.heap.size, 1, none⟩ (.int .i64 (Gs.cX 0 ps))).setCell ⟨w.heap.size, 2, none⟩ (.int .i64 (Gs.cY 0 ps))).setCell ⟨w.heap.size, 3, none⟩ (.int .i64 (Gs.cN 1 ps))).setCell ⟨w.heap.size, 4, none⟩ (.int .i64 (Gs.cX 1 ps))).setCell ⟨w.heap.size, 5, none⟩ (.int .i64 (Gs.cY 1 ps))).setCell ⟨w.heap.size, 6, none⟩ (.int .i64 (Gs.cN 2 ps))).setCell ⟨w.heap.size, 7, none⟩ (.int .i64 (Gs.cX 2 ps))).setCell ⟨w.heap.size, 8, none⟩ (.int .i64 (Gs.cY 2 ps))) := ⟨_, rfl⟩
      rw [← hW9]
      have B9 : Bx W9 w.heap.size (l9 ps) := by rw [hW9]; exact (bx_set (bx_set (bx_set (bx_set (bx_set (bx_set (bx_set (bx_set (bx_set hZ 0 _) 1 _) 2 _) 3 _) 4 _) 5 _) 6 _) 7 _) 8 _)
      have U9 : Up w W9 := by rw [hW9]; exact (by repeat' (first | (with_reducible exact up_refl _) | (with_reducible assumption) | (with_reducible refine up_alloc ?_ _) | (with_reducible refine up_drewN ?_ _) | (with_reducible refine up_drew ?_) | (with_reducible refine up_set ?_ (by first | (simp; done) | (simp; omega) | omega) _) | (refine up_trans ?_ (by with_reducible assumption))))
      clear hW9 q0 q1 q2 q3 q4 q5 q6 q7 q8 f0 f1 f2 f3 f4 f5 f6 f7 f8 z0 z1 z2 z3 z4 z5 z6 z7 z8
      obtain ⟨q0, q1, q2, q3, q4, q5, q6, q7, q8⟩ := bx9 B9
      refine bodyPost_ret (v := .agg (l9 ps).toArray) ?_ rfl ⟨rfl, U9⟩
      simp [results, Tryz.results57, go_sem, q0, q1, q2, q3, q4, q5, q6, q7, q8]
end Go.Proofs.YthifcalemhpmoaaGreat
namespace Go.Proofs.YthifcalemhpmoaaGreat
open Go.RowKit Go.Proofs.Gn
def chE (ps : List Gs.Sup) : Int := if ps.length < 3 ∨ 48 < ps.length then 6 else if Gs.okA ps then (if Gs.wh ps = 0 then 9 else 0) else 2
abbrev n9 (ps : List Gs.Sup) : Value := m9 (Gs.cN 0 ps) (Gs.cX 0 ps) (Gs.cY 0 ps) (Gs.cN 1 ps) (Gs.cX 1 ps) (Gs.cY 1 ps) (Gs.cN 2 ps) (Gs.cX 2 ps) (Gs.cY 2 ps)
theorem p_sums9 (A : Option Addr) (ps : List Gs.Sup) (cap : Nat) (ho : Gs.okA ps = true) (hn : ps.length ≤ 48) (w : World) (h : Sups w A ps) :
    Calls Tryz.prog 57 #[.slice A ps.length cap] w fun e w' => e = .returned (n9 ps) ∧ Up w w' := p_sums A ps cap w h ho hn
theorem p_det9 {ps : List Gs.Sup} (ho : Gs.okA ps = true) (hn : ps.length ≤ 48) (w : World) :
    Calls Tryz.prog 56 #[n9 ps] w fun e w' => e = .returned (.int .i64 (Gs.wh ps)) ∧ Up w w' :=
  p_determinant (Gs.row_of ho hn 0 (.inl rfl)) (Gs.row_of ho hn 1 (.inr (.inl rfl))) (Gs.row_of ho hn 2 (.inr (.inr rfl))) w
theorem okA_step {ps : List Gs.Sup} {k : Nat} (h : k < ps.length) (ho : Gs.okA (ps.take k) = true) : (Gs.okS ps[k] = true → Gs.okA (ps.take (k + 1)) = true) ∧ (Gs.okS ps[k] = false → Gs.okA ps = false) :=
  ⟨fun hs => by rw [Gs.okA_take_succ h, ho, hs]; rfl, fun hs => Gs.okA_at h hs⟩
set_option maxHeartbeats 4000000 in
theorem p_CheckS (A : Option Addr) (ps : List Gs.Sup) (cap : Nat) (w : World) (h : Sups w A ps) (hn : ps.length ≤ 9223372036854775807) :
    Calls Tryz.prog 25 #[.slice A ps.length cap] w fun e w' => e = .returned (.int .i64 (chE ps)) ∧ Up w w' := by
  unfold chE
  by_cases c1 : ps.length < 3 ∨ 48 < ps.length
  · rw [if_pos c1]
    obtain ⟨n, hN⟩ : ∃ n, ps.length = n := ⟨_, rfl⟩
    rw [hN] at c1 hn ⊢
    clear hN h
    rcases c1 with c1 | c1
    · go_enter Tryz.func25, Tryz.ntmps25
      go_wp2_with fail
      go_ret
      exact ⟨rfl, (by repeat' (first | (with_reducible exact up_refl _) | (with_reducible assumption) | (with_reducible refine up_alloc ?_ _) | (with_reducible refine up_drewN ?_ _) | (with_reducible refine up_drew ?_) | (with_reducible refine up_set ?_ (by first | (simp; done) | (simp; omega) | omega) _) | (refine up_trans ?_ (by with_reducible assumption))))⟩
    · go_enter Tryz.func25, Tryz.ntmps25
      go_wp2_with fail
      go_ret
      exact ⟨rfl, (by repeat' (first | (with_reducible exact up_refl _) | (with_reducible assumption) | (with_reducible refine up_alloc ?_ _) | (with_reducible refine up_drewN ?_ _) | (with_reducible refine up_drew ?_) | (with_reducible refine up_set ?_ (by first | (simp; done) | (simp; omega) | omega) _) | (refine up_trans ?_ (by with_reducible assumption))))⟩
  rw [if_neg c1]
  obtain ⟨E, hE⟩ : ∃ E : Int, (if Gs.okA ps = true then (if Gs.wh ps = 0 then 9 else 0) else 2) = E := ⟨_, rfl⟩
  rw [hE]
  have HE := hide hE
  clear hE
  have hP := hide h
  rcases h with rfl | ⟨b, off, rfl, hc⟩
  · simp at c1
  have HC := hide hc
  clear hc
  have HSum := hide (fun (ho : Gs.okA ps = true) (W : World) (hW : Up w W) => p_sums9 (some ⟨b, off, none⟩) ps cap ho (by omega) W (sups_up (unhide hP) hW))
  have HDet := hide (fun (ho : Gs.okA ps = true) (W : World) => p_det9 ho (by omega) W)
  obtain ⟨n, hN⟩ : ∃ n, ps.length = n := ⟨_, rfl⟩
  rw [hN] at c1 HSum ⊢
  have c2 : 3 ≤ n ∧ n ≤ 48 := by omega
  have HN := hide hN
  clear hN hn c1 hP
  obtain ⟨c2, c3⟩ := c2
  go_enter Tryz.func25, Tryz.ntmps25
  go_wp2_with fail
  go_loopw [15] (fun i wr => ∃ k : Nat, k ≤ n ∧ i = .int .i64 k ∧ Up w wr ∧ Gs.okA (ps.take k) = true) (fun i _ => n - (intOf i).toNat)
  case atStart => exact ⟨0, by omega, rfl, up_refl _, rfl⟩
  case round =>
    obtain ⟨k, hk, rfl, hu, ho⟩ := hrel
    have HO := hide ho
    clear ho
    by_cases hlt : k < n
    · have hl : k < ps.length := by rw [unhide HN]; exact hlt
      obtain ⟨d0, d1, d2, d3, d4, d5⟩ := supAt_up (unhide HC k hl) hu
      have HS := hide (fun W => p_isSupport ps[k] W)
      have HT := hide (okA_step hl (unhide HO))
      obtain ⟨x, hx⟩ : ∃ x, ps[k].x = x := ⟨_, rfl⟩
      obtain ⟨y, hy⟩ : ∃ x, ps[k].y = x := ⟨_, rfl⟩
      obtain ⟨g, hg⟩ : ∃ x, ps[k].g = x := ⟨_, rfl⟩
      obtain ⟨m, hm⟩ : ∃ x, ps[k].lim = x := ⟨_, rfl⟩
      obtain ⟨lo, hlo⟩ : ∃ x, ps[k].lo = x := ⟨_, rfl⟩
      obtain ⟨hi, hhi⟩ : ∃ x, ps[k].hi = x := ⟨_, rfl⟩
      unfold sv at HS
      rw [hx] at d0 HS
      rw [hy] at d1 HS
      rw [hg] at d2 HS
      rw [hm] at d3 HS
      rw [hlo] at d4 HS
      rw [hhi] at d5 HS
      clear hx hy hg hm hlo hhi
      cases hs : Gs.okS ps[k]
      · rw [hs] at HS
        have HV := hide ((unhide HT).2 hs)
        clear hs HT
        go_wp2_with (go_at_call 55; (with_reducible refine (unhide HS _).mono ?_); rintro e w1 ⟨rfl, hb⟩)
        go_ret
        exact ⟨ret_int (by rw [← unhide HE, unhide HV]; rfl), (by repeat' (first | (with_reducible exact up_refl _) | (with_reducible assumption) | (with_reducible refine up_alloc ?_ _) | (with_reducible refine up_drewN ?_ _) | (with_reducible refine up_drew ?_) | (with_reducible refine up_set ?_ (by first | (simp; done) | (simp; omega) | omega) _) | (refine up_trans ?_ (by with_reducible assumption))))⟩
      · rw [hs] at HS
        have HV := hide ((unhide HT).1 hs)
        clear hs HT
        go_wp2_with (go_at_call 55; (with_reducible refine (unhide HS _).mono ?_); rintro e w1 ⟨rfl, hb⟩)
        go_roundw
        case rel => exact ⟨k + 1, by omega, by go_num, (by repeat' (first | (with_reducible exact up_refl _) | (with_reducible assumption) | (with_reducible refine up_alloc ?_ _) | (with_reducible refine up_drewN ?_ _) | (with_reducible refine up_drew ?_) | (with_reducible refine up_set ?_ (by first | (simp; done) | (simp; omega) | omega) _) | (refine up_trans ?_ (by with_reducible assumption)))), unhide HV⟩
        case measure => simp [intOf]; omega
    · obtain rfl : k = n := by omega
      have ho : Gs.okA ps = true := by
        have := unhide HO
        rwa [List.take_of_length_le (by rw [unhide HN]; omega)] at this
      have hS := hide (unhide HSum ho)
      have hD := hide (unhide HDet ho)
      obtain ⟨D, hDv⟩ : ∃ D, Gs.wh ps = D := ⟨_, rfl⟩
      rw [hDv] at hD
      have HE2 := unhide HE
      rw [ho, hDv, if_pos rfl] at HE2
      clear ho HSum HDet hDv HE
      by_cases hz : D = 0
      · subst hz
        obtain rfl : (9 : Int) = E := HE2
        go_wp2_with (first | (go_at_call 57; (with_reducible refine (unhide hS _ (by repeat' (first | (with_reducible exact up_refl _) | (with_reducible assumption) | (with_reducible refine up_alloc ?_ _) | (with_reducible refine up_drewN ?_ _) | (with_reducible refine up_drew ?_) | (with_reducible refine up_set ?_ (by first | (simp; done) | (simp; omega) | omega) _) | (refine up_trans ?_ (by with_reducible assumption))))).mono ?_); rintro e w1 ⟨rfl, hb⟩) | (go_at_call 56; (with_reducible refine (unhide hD _).mono ?_); rintro e w2 ⟨rfl, hb2⟩))
        go_ret
        exact ⟨rfl, (by repeat' (first | (with_reducible exact up_refl _) | (with_reducible assumption) | (with_reducible refine up_alloc ?_ _) | (with_reducible refine up_drewN ?_ _) | (with_reducible refine up_drew ?_) | (with_reducible refine up_set ?_ (by first | (simp; done) | (simp; omega) | omega) _) | (refine up_trans ?_ (by with_reducible assumption))))⟩
      · rw [if_neg hz] at HE2
        obtain rfl : (0 : Int) = E := HE2
        have hz2 : (D == 0) = false := by simp; exact hz
        go_wp2_with (first | (go_at_call 57; (with_reducible refine (unhide hS _ (by repeat' (first | (with_reducible exact up_refl _) | (with_reducible assumption) | (with_reducible refine up_alloc ?_ _) | (with_reducible refine up_drewN ?_ _) | (with_reducible refine up_drew ?_) | (with_reducible refine up_set ?_ (by first | (simp; done) | (simp; omega) | omega) _) | (refine up_trans ?_ (by with_reducible assumption))))).mono ?_); rintro e w1 ⟨rfl, hb⟩) | (go_at_call 56; (with_reducible refine (unhide hD _).mono ?_); rintro e w2 ⟨rfl, hb2⟩))
        go_ret
        exact ⟨rfl, (by repeat' (first | (with_reducible exact up_refl _) | (with_reducible assumption) | (with_reducible refine up_alloc ?_ _) | (with_reducible refine up_drewN ?_ _) | (with_reducible refine up_drew ?_) | (with_reducible refine up_set ?_ (by first | (simp; done) | (simp; omega) | omega) _) | (refine up_trans ?_ (by with_reducible assumption))))⟩
/-! ### At a point -/
def ptB (X Y : Int) : Bool := win X (-262144) 262144 && win Y (-262144) 262144
def ptE (X Y : Int) : Int := if ptB X Y then 0 else 3
theorem p_checkPoint (X Y : Int) (w : World) : Calls Tryz.prog 96 #[pt X Y] w fun e w' => e = .returned (.int .i64 (ptE X Y)) ∧ Up w w' := by
  have H1 : ∀ W : World, Calls Tryz.prog 49 #[.int .i64 X, .int .i64 (-262144), .int .i64 262144] W fun e w' => e = .returned (.bool (win X (-262144) 262144)) ∧ W = w' := fun W => p_within _ _ _ W
  have H2 : ∀ W : World, Calls Tryz.prog 49 #[.int .i64 Y, .int .i64 (-262144), .int .i64 262144] W fun e w' => e = .returned (.bool (win Y (-262144) 262144)) ∧ W = w' := fun W => p_within _ _ _ W
  unfold ptE ptB
  generalize win X (-262144) 262144 = b1 at *
  generalize win Y (-262144) 262144 = b2 at *
  have h1 := hide H1
  have h2 := hide H2
  clear H1 H2
  cases b1
  · show Calls Tryz.prog 96 #[pt X Y] w fun e w' => e = .returned (.int .i64 3) ∧ Up w w'
    go_enter Tryz.func96, Tryz.ntmps96
    go_wp2_with (first | (go_at_call 49; (with_reducible refine (unhide h1 _).mono ?_); rintro e w1 ⟨rfl, rfl⟩) | (go_at_call 49; (with_reducible refine (unhide h2 _).mono ?_); rintro e w1 ⟨rfl, rfl⟩))
    go_ret
    exact ⟨rfl, (by repeat' (first | (with_reducible exact up_refl _) | (with_reducible assumption) | (with_reducible refine up_alloc ?_ _) | (with_reducible refine up_drewN ?_ _) | (with_reducible refine up_drew ?_) | (with_reducible refine up_set ?_ (by first | (simp; done) | (simp; omega) | omega) _) | (refine up_trans ?_ (by with_reducible assumption))))⟩
  cases b2
  · show Calls Tryz.prog 96 #[pt X Y] w fun e w' => e = .returned (.int .i64 3) ∧ Up w w'
    go_enter Tryz.func96, Tryz.ntmps96
    go_wp2_with (first | (go_at_call 49; (with_reducible refine (unhide h1 _).mono ?_); rintro e w1 ⟨rfl, rfl⟩) | (go_at_call 49; (with_reducible refine (unhide h2 _).mono ?_); rintro e w1 ⟨rfl, rfl⟩))
    go_ret
    exact ⟨rfl, (by repeat' (first | (with_reducible exact up_refl _) | (with_reducible assumption) | (with_reducible refine up_alloc ?_ _) | (with_reducible refine up_drewN ?_ _) | (with_reducible refine up_drew ?_) | (with_reducible refine up_set ?_ (by first | (simp; done) | (simp; omega) | omega) _) | (refine up_trans ?_ (by with_reducible assumption))))⟩
  · show Calls Tryz.prog 96 #[pt X Y] w fun e w' => e = .returned (.int .i64 0) ∧ Up w w'
    go_enter Tryz.func96, Tryz.ntmps96
    go_wp2_with (first | (go_at_call 49; (with_reducible refine (unhide h1 _).mono ?_); rintro e w1 ⟨rfl, rfl⟩) | (go_at_call 49; (with_reducible refine (unhide h2 _).mono ?_); rintro e w1 ⟨rfl, rfl⟩))
    go_ret
    exact ⟨rfl, (by repeat' (first | (with_reducible exact up_refl _) | (with_reducible assumption) | (with_reducible refine up_alloc ?_ _) | (with_reducible refine up_drewN ?_ _) | (with_reducible refine up_drew ?_) | (with_reducible refine up_set ?_ (by first | (simp; done) | (simp; omega) | omega) _) | (refine up_trans ?_ (by with_reducible assumption))))⟩
def atE (ps : List Gs.Sup) (X Y : Int) : Int := if chE ps = 0 then ptE X Y else chE ps
end Go.Proofs.YthifcalemhpmoaaGreat
