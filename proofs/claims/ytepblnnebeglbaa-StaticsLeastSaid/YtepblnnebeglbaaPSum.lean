/- The sums of the groups of a platform. -/
import Derived.Test.YtepblnnebeglbaaPlat
namespace Go.Proofs.Ytepblnnebeglbaa
open Go.RowKit Go.Proofs.Gn
set_option maxHeartbeats 4000000 in
theorem p_sums (A : Option Addr) (ps : List Gs.Sup) (cap : Nat) (w : World) (h : Sups w A ps) (ho : Gs.okA ps = true) (hn : ps.length ≤ 48) :
    Calls Try.prog 22 #[.slice A ps.length cap] w fun e w' => e = .returned (.agg (l9 ps).toArray) ∧ Up w w' := by
  rcases h with rfl | ⟨b, off, rfl, hc⟩
  · go_enter Try.func22, Try.ntmps22
    go_wp2_with fail
    go_rounds 1
    go_returns
    exact ⟨rfl, (by repeat' (first | (with_reducible exact up_refl _) | (with_reducible assumption) | (with_reducible refine up_alloc ?_ _) | (with_reducible refine up_drewN ?_ _) | (with_reducible refine up_drew ?_) | (with_reducible refine up_set ?_ (by first | (simp; done) | (simp; omega) | omega) _) | (refine up_trans ?_ (by with_reducible assumption))))⟩
  have HC := hide hc
  have HO := hide ho
  clear hc ho
  obtain ⟨n, hN⟩ : ∃ n, ps.length = n := ⟨_, rfl⟩
  rw [hN] at hn ⊢
  have HN := hide hN
  clear hN
  go_enter Try.func22, Try.ntmps22
  go_wp2_with fail
  go_loopw [10] (fun i wr => ∃ k : Nat, k ≤ n ∧ i = .int .i64 k ∧ Up w wr ∧ Bx wr (w.heap.size + 1) (l9 (ps.take k)) ∧ Bx wr w.heap.size (l9 [])) (fun i _ => n - (intOf i).toNat)
  case atStart => exact ⟨0, by omega, rfl, (by repeat' (first | (with_reducible exact up_refl _) | (with_reducible assumption) | (with_reducible refine up_alloc ?_ _) | (with_reducible refine up_drewN ?_ _) | (with_reducible refine up_drew ?_) | (with_reducible refine up_set ?_ (by first | (simp; done) | (simp; omega) | omega) _) | (refine up_trans ?_ (by with_reducible assumption)))), by have h1 := bx_new (w.alloc (.cells #[.int .i64 0, .int .i64 0, .int .i64 0, .int .i64 0, .int .i64 0, .int .i64 0, .int .i64 0, .int .i64 0, .int .i64 0] 54)) (l9 []) 54; rwa [sz1] at h1, bx_alloc (bx_new w (l9 []) 54) _⟩
  case round =>
    obtain ⟨k, hk, rfl, hu, hB, hZ⟩ := hrel
    have hUs := bx_lt hB (by simp)
    by_cases hlt : k < n
    · have hl : k < ps.length := by rw [unhide HN]; exact hlt
      have hsup := supAt_up (unhide HC k hl) hu
      have hok := Gs.okS_yes (Gs.okA_get (unhide HO) hl)
      have R0 := row_take (unhide HO) (by rw [unhide HN]; exact hn) k 0 (.inl rfl)
      have R1 := row_take (unhide HO) (by rw [unhide HN]; exact hn) k 1 (.inr (.inl rfl))
      have R2 := row_take (unhide HO) (by rw [unhide HN]; exact hn) k 2 (.inr (.inr rfl))
      obtain ⟨d0, d1, d2, d3, d4, d5⟩ := hsup
      have HS := hide (⟨fun g hg => sums_step hl g hg, fun g hg => sums_stay hl g hg⟩ : (∀ g, ps[k].g = g → _) ∧ (∀ g, ¬ ps[k].g = g → _))
      obtain ⟨x, hx⟩ : ∃ x, ps[k].x = x := ⟨_, rfl⟩
      obtain ⟨y, hy⟩ : ∃ x, ps[k].y = x := ⟨_, rfl⟩
      obtain ⟨g, hg⟩ : ∃ x, ps[k].g = x := ⟨_, rfl⟩
      rw [hx] at d0 hok
      rw [hy] at d1 hok
      rw [hg] at d2 hok
      have HX := hide (And.intro hx (And.intro hy hg))
      clear hx hy hg
      obtain ⟨n0, hn0⟩ : ∃ x, Gs.cN 0 (ps.take k) = x := ⟨_, rfl⟩
      obtain ⟨x0, hx0⟩ : ∃ x, Gs.cX 0 (ps.take k) = x := ⟨_, rfl⟩
      obtain ⟨y0, hy0⟩ : ∃ x, Gs.cY 0 (ps.take k) = x := ⟨_, rfl⟩
      obtain ⟨n1, hn1⟩ : ∃ x, Gs.cN 1 (ps.take k) = x := ⟨_, rfl⟩
      obtain ⟨x1, hx1⟩ : ∃ x, Gs.cX 1 (ps.take k) = x := ⟨_, rfl⟩
      obtain ⟨y1, hy1⟩ : ∃ x, Gs.cY 1 (ps.take k) = x := ⟨_, rfl⟩
      obtain ⟨n2, hn2⟩ : ∃ x, Gs.cN 2 (ps.take k) = x := ⟨_, rfl⟩
      obtain ⟨x2, hx2⟩ : ∃ x, Gs.cX 2 (ps.take k) = x := ⟨_, rfl⟩
      obtain ⟨y2, hy2⟩ : ∃ x, Gs.cY 2 (ps.take k) = x := ⟨_, rfl⟩
      have hB' : Bx wr (w.heap.size + 1) [.int .i64 n0, .int .i64 x0, .int .i64 y0, .int .i64 n1, .int .i64 x1, .int .i64 y1, .int .i64 n2, .int .i64 x2, .int .i64 y2] := by
        rw [← hn0, ← hx0, ← hy0, ← hn1, ← hx1, ← hy1, ← hn2, ← hx2, ← hy2]; exact hB
      rw [hn0, hx0, hy0] at R0
      rw [hn1, hx1, hy1] at R1
      rw [hn2, hx2, hy2] at R2
      have HE := hide (And.intro hn0 (And.intro hx0 (And.intro hy0 (And.intro hn1 (And.intro hx1 (And.intro hy1 (And.intro hn2 (And.intro hx2 hy2))))))))
      clear hn0 hx0 hy0 hn1 hx1 hy1 hn2 hx2 hy2 hB
      obtain ⟨q0, q1, q2, q3, q4, q5, q6, q7, q8⟩ := bx9 hB'
      obtain ⟨f0, f1, f2, f3, f4, f5, f6, f7, f8⟩ := bxf9 hB'
      have HB := hide hB'
      clear hB'
      unfold Gs.Row at R0 R1 R2
      obtain ⟨⟨o1, o2⟩, ⟨o3, o4⟩, ⟨o5, o6⟩, _⟩ := hok
      obtain ⟨⟨_, _⟩, ⟨_, _⟩, _, _⟩ := R0
      obtain ⟨⟨_, _⟩, ⟨_, _⟩, _, _⟩ := R1
      obtain ⟨⟨_, _⟩, ⟨_, _⟩, _, _⟩ := R2
      rcases (show g = 0 ∨ g = 1 ∨ g = 2 by omega) with rfl | rfl | rfl
      · go_wp2_with fail
        refine at_wp (fun W0 hW0 => ?_)
        have u0 : Up wr W0 := by rw [hW0]; exact (by repeat' (first | (with_reducible exact up_refl _) | (with_reducible assumption) | (with_reducible refine up_alloc ?_ _) | (with_reducible refine up_drewN ?_ _) | (with_reducible refine up_drew ?_) | (with_reducible refine up_set ?_ (by first | (simp; done) | (simp; omega) | omega) _) | (refine up_trans ?_ (by with_reducible assumption))))
        have B0 : Bx W0 (w.heap.size + 1) [.int .i64 n0, .int .i64 x0, .int .i64 y0, .int .i64 n1, .int .i64 x1, .int .i64 y1, .int .i64 n2, .int .i64 x2, .int .i64 y2] := bx_up (unhide HB) u0
        have S0 : Bx W0 wr.heap.size [.int .i64 x, .int .i64 y, .int .i64 0, .int .i64 ps[k].lim, .int .i64 ps[k].lo, .int .i64 ps[k].hi] := by rw [hW0]; exact bx_alloc (bx_new wr _ 33) _
        have T0 : Bx W0 (wr.heap.size + 1) [.int .i64 1, .int .i64 x, .int .i64 y] := by
          rw [hW0]
          have t := bx_new (wr.alloc (.cells #[.int .i64 x, .int .i64 y, .int .i64 0, .int .i64 ps[k].lim, .int .i64 ps[k].lo, .int .i64 ps[k].hi] 33)) [.int .i64 1, .int .i64 x, .int .i64 y] 36
          rwa [sz1] at t
        have Z0 : Bx W0 w.heap.size (l9 []) := bx_up hZ u0
        have U0 : Up w W0 := up_trans hu u0
        clear hW0 u0 q0 q1 q2 q3 q4 q5 q6 q7 q8 f0 f1 f2 f3 f4 f5 f6 f7 f8 d0 d1 d2 d3 d4 d5
        refine wp_loop_rounds 4 ?_
        obtain ⟨q0, q1, q2, q3, q4, q5, q6, q7, q8⟩ := bx9 B0
        obtain ⟨f0, f1, f2, f3, f4, f5, f6, f7, f8⟩ := bxf9 B0
        have s2 := (S0 2 _ rfl).1
        have tc := (T0 0 _ rfl).1
        rw [rounds_succ]
        go_wp2_with fail
        go_region
        all_goals go_wp2_with fail
        refine at_rounds (fun W1 hW1 => ?_)
        have B1 : Bx W1 (w.heap.size + 1) [.int .i64 (n0 + 1), .int .i64 x0, .int .i64 y0, .int .i64 n1, .int .i64 x1, .int .i64 y1, .int .i64 n2, .int .i64 x2, .int .i64 y2] := by rw [hW1]; exact bx_set (bx_drew B0) 0 _
        have S1 : Bx W1 wr.heap.size [.int .i64 x, .int .i64 y, .int .i64 0, .int .i64 ps[k].lim, .int .i64 ps[k].lo, .int .i64 ps[k].hi] := by rw [hW1]; exact bx_far (bx_drew S0) (by simp; omega) _
        have T1 : Bx W1 (wr.heap.size + 1) [.int .i64 1, .int .i64 x, .int .i64 y] := by rw [hW1]; exact bx_far (bx_drew T0) (by simp; omega) _
        have Z1 : Bx W1 w.heap.size (l9 []) := by rw [hW1]; exact bx_far (bx_drew Z0) (by simp) _
        have U1 : Up w W1 := by rw [hW1]; exact up_set (up_drew U0) (by simp) _
        clear hW1 B0 S0 T0 U0 Z0 q0 q1 q2 q3 q4 q5 q6 q7 q8 f0 f1 f2 f3 f4 f5 f6 f7 f8 s2 tc
        obtain ⟨q0, q1, q2, q3, q4, q5, q6, q7, q8⟩ := bx9 B1
        obtain ⟨f0, f1, f2, f3, f4, f5, f6, f7, f8⟩ := bxf9 B1
        have s2 := (S1 2 _ rfl).1
        have tc := (T1 1 _ rfl).1
        rw [rounds_succ]
        go_wp2_with fail
        go_region
        all_goals go_wp2_with fail
        refine at_rounds (fun W2 hW2 => ?_)
        have B2 : Bx W2 (w.heap.size + 1) [.int .i64 (n0 + 1), .int .i64 (x0 + x), .int .i64 y0, .int .i64 n1, .int .i64 x1, .int .i64 y1, .int .i64 n2, .int .i64 x2, .int .i64 y2] := by rw [hW2]; exact bx_set (bx_drew B1) 1 _
        have S2 : Bx W2 wr.heap.size [.int .i64 x, .int .i64 y, .int .i64 0, .int .i64 ps[k].lim, .int .i64 ps[k].lo, .int .i64 ps[k].hi] := by rw [hW2]; exact bx_far (bx_drew S1) (by simp; omega) _
        have T2 : Bx W2 (wr.heap.size + 1) [.int .i64 1, .int .i64 x, .int .i64 y] := by rw [hW2]; exact bx_far (bx_drew T1) (by simp; omega) _
        have Z2 : Bx W2 w.heap.size (l9 []) := by rw [hW2]; exact bx_far (bx_drew Z1) (by simp) _
        have U2 : Up w W2 := by rw [hW2]; exact up_set (up_drew U1) (by simp) _
        clear hW2 B1 S1 T1 U1 Z1 q0 q1 q2 q3 q4 q5 q6 q7 q8 f0 f1 f2 f3 f4 f5 f6 f7 f8 s2 tc
        obtain ⟨q0, q1, q2, q3, q4, q5, q6, q7, q8⟩ := bx9 B2
        obtain ⟨f0, f1, f2, f3, f4, f5, f6, f7, f8⟩ := bxf9 B2
        have s2 := (S2 2 _ rfl).1
        have tc := (T2 2 _ rfl).1
        rw [rounds_succ]
        go_wp2_with fail
        go_region
        all_goals go_wp2_with fail
        refine at_rounds (fun W3 hW3 => ?_)
        have B3 : Bx W3 (w.heap.size + 1) [.int .i64 (n0 + 1), .int .i64 (x0 + x), .int .i64 (y0 + y), .int .i64 n1, .int .i64 x1, .int .i64 y1, .int .i64 n2, .int .i64 x2, .int .i64 y2] := by rw [hW3]; exact bx_set (bx_drew B2) 2 _
        have S3 : Bx W3 wr.heap.size [.int .i64 x, .int .i64 y, .int .i64 0, .int .i64 ps[k].lim, .int .i64 ps[k].lo, .int .i64 ps[k].hi] := by rw [hW3]; exact bx_far (bx_drew S2) (by simp; omega) _
        have T3 : Bx W3 (wr.heap.size + 1) [.int .i64 1, .int .i64 x, .int .i64 y] := by rw [hW3]; exact bx_far (bx_drew T2) (by simp; omega) _
        have Z3 : Bx W3 w.heap.size (l9 []) := by rw [hW3]; exact bx_far (bx_drew Z2) (by simp) _
        have U3 : Up w W3 := by rw [hW3]; exact up_set (up_drew U2) (by simp) _
        clear hW3 B2 S2 T2 U2 Z2 q0 q1 q2 q3 q4 q5 q6 q7 q8 f0 f1 f2 f3 f4 f5 f6 f7 f8 s2 tc
        rw [rounds_succ]
        go_wp2_with fail
        go_roundw
        case rel =>
          refine ⟨k + 1, by omega, by go_num, U3, ?_, Z3⟩
          obtain ⟨e1, e2, e3⟩ := unhide HX
          obtain ⟨k1, k2⟩ := unhide HS
          obtain ⟨z0, z1, z2, z3, z4, z5, z6, z7, z8⟩ := unhide HE
          have a := k1 0 e3
          have p := k2 1 (by rw [e3]; decide)
          have q := k2 2 (by rw [e3]; decide)
          rw [e1, e2] at a
          unfold l9
          rw [a.1, a.2.1, a.2.2, p.1, p.2.1, p.2.2, q.1, q.2.1, q.2.2, z0, z1, z2, z3, z4, z5, z6, z7, z8]
          exact B3
        case measure => simp [intOf]; omega
      · go_wp2_with fail
        refine at_wp (fun W0 hW0 => ?_)
        have u0 : Up wr W0 := by rw [hW0]; exact (by repeat' (first | (with_reducible exact up_refl _) | (with_reducible assumption) | (with_reducible refine up_alloc ?_ _) | (with_reducible refine up_drewN ?_ _) | (with_reducible refine up_drew ?_) | (with_reducible refine up_set ?_ (by first | (simp; done) | (simp; omega) | omega) _) | (refine up_trans ?_ (by with_reducible assumption))))
        have B0 : Bx W0 (w.heap.size + 1) [.int .i64 n0, .int .i64 x0, .int .i64 y0, .int .i64 n1, .int .i64 x1, .int .i64 y1, .int .i64 n2, .int .i64 x2, .int .i64 y2] := bx_up (unhide HB) u0
        have S0 : Bx W0 wr.heap.size [.int .i64 x, .int .i64 y, .int .i64 1, .int .i64 ps[k].lim, .int .i64 ps[k].lo, .int .i64 ps[k].hi] := by rw [hW0]; exact bx_alloc (bx_new wr _ 33) _
        have T0 : Bx W0 (wr.heap.size + 1) [.int .i64 1, .int .i64 x, .int .i64 y] := by
          rw [hW0]
          have t := bx_new (wr.alloc (.cells #[.int .i64 x, .int .i64 y, .int .i64 1, .int .i64 ps[k].lim, .int .i64 ps[k].lo, .int .i64 ps[k].hi] 33)) [.int .i64 1, .int .i64 x, .int .i64 y] 36
          rwa [sz1] at t
        have Z0 : Bx W0 w.heap.size (l9 []) := bx_up hZ u0
        have U0 : Up w W0 := up_trans hu u0
        clear hW0 u0 q0 q1 q2 q3 q4 q5 q6 q7 q8 f0 f1 f2 f3 f4 f5 f6 f7 f8 d0 d1 d2 d3 d4 d5
        refine wp_loop_rounds 4 ?_
        obtain ⟨q0, q1, q2, q3, q4, q5, q6, q7, q8⟩ := bx9 B0
        obtain ⟨f0, f1, f2, f3, f4, f5, f6, f7, f8⟩ := bxf9 B0
        have s2 := (S0 2 _ rfl).1
        have tc := (T0 0 _ rfl).1
        rw [rounds_succ]
        go_wp2_with fail
        go_region
        all_goals go_wp2_with fail
        refine at_rounds (fun W1 hW1 => ?_)
        have B1 : Bx W1 (w.heap.size + 1) [.int .i64 n0, .int .i64 x0, .int .i64 y0, .int .i64 (n1 + 1), .int .i64 x1, .int .i64 y1, .int .i64 n2, .int .i64 x2, .int .i64 y2] := by rw [hW1]; exact bx_set (bx_drew B0) 3 _
        have S1 : Bx W1 wr.heap.size [.int .i64 x, .int .i64 y, .int .i64 1, .int .i64 ps[k].lim, .int .i64 ps[k].lo, .int .i64 ps[k].hi] := by rw [hW1]; exact bx_far (bx_drew S0) (by simp; omega) _
        have T1 : Bx W1 (wr.heap.size + 1) [.int .i64 1, .int .i64 x, .int .i64 y] := by rw [hW1]; exact bx_far (bx_drew T0) (by simp; omega) _
        have Z1 : Bx W1 w.heap.size (l9 []) := by rw [hW1]; exact bx_far (bx_drew Z0) (by simp) _
        have U1 : Up w W1 := by rw [hW1]; exact up_set (up_drew U0) (by simp) _
        clear hW1 B0 S0 T0 U0 Z0 q0 q1 q2 q3 q4 q5 q6 q7 q8 f0 f1 f2 f3 f4 f5 f6 f7 f8 s2 tc
        obtain ⟨q0, q1, q2, q3, q4, q5, q6, q7, q8⟩ := bx9 B1
        obtain ⟨f0, f1, f2, f3, f4, f5, f6, f7, f8⟩ := bxf9 B1
        have s2 := (S1 2 _ rfl).1
        have tc := (T1 1 _ rfl).1
        rw [rounds_succ]
        go_wp2_with fail
        go_region
        all_goals go_wp2_with fail
        refine at_rounds (fun W2 hW2 => ?_)
        have B2 : Bx W2 (w.heap.size + 1) [.int .i64 n0, .int .i64 x0, .int .i64 y0, .int .i64 (n1 + 1), .int .i64 (x1 + x), .int .i64 y1, .int .i64 n2, .int .i64 x2, .int .i64 y2] := by rw [hW2]; exact bx_set (bx_drew B1) 4 _
        have S2 : Bx W2 wr.heap.size [.int .i64 x, .int .i64 y, .int .i64 1, .int .i64 ps[k].lim, .int .i64 ps[k].lo, .int .i64 ps[k].hi] := by rw [hW2]; exact bx_far (bx_drew S1) (by simp; omega) _
        have T2 : Bx W2 (wr.heap.size + 1) [.int .i64 1, .int .i64 x, .int .i64 y] := by rw [hW2]; exact bx_far (bx_drew T1) (by simp; omega) _
        have Z2 : Bx W2 w.heap.size (l9 []) := by rw [hW2]; exact bx_far (bx_drew Z1) (by simp) _
        have U2 : Up w W2 := by rw [hW2]; exact up_set (up_drew U1) (by simp) _
        clear hW2 B1 S1 T1 U1 Z1 q0 q1 q2 q3 q4 q5 q6 q7 q8 f0 f1 f2 f3 f4 f5 f6 f7 f8 s2 tc
        obtain ⟨q0, q1, q2, q3, q4, q5, q6, q7, q8⟩ := bx9 B2
        obtain ⟨f0, f1, f2, f3, f4, f5, f6, f7, f8⟩ := bxf9 B2
        have s2 := (S2 2 _ rfl).1
        have tc := (T2 2 _ rfl).1
        rw [rounds_succ]
        go_wp2_with fail
        go_region
        all_goals go_wp2_with fail
        refine at_rounds (fun W3 hW3 => ?_)
        have B3 : Bx W3 (w.heap.size + 1) [.int .i64 n0, .int .i64 x0, .int .i64 y0, .int .i64 (n1 + 1), .int .i64 (x1 + x), .int .i64 (y1 + y), .int .i64 n2, .int .i64 x2, .int .i64 y2] := by rw [hW3]; exact bx_set (bx_drew B2) 5 _
        have S3 : Bx W3 wr.heap.size [.int .i64 x, .int .i64 y, .int .i64 1, .int .i64 ps[k].lim, .int .i64 ps[k].lo, .int .i64 ps[k].hi] := by rw [hW3]; exact bx_far (bx_drew S2) (by simp; omega) _
        have T3 : Bx W3 (wr.heap.size + 1) [.int .i64 1, .int .i64 x, .int .i64 y] := by rw [hW3]; exact bx_far (bx_drew T2) (by simp; omega) _
        have Z3 : Bx W3 w.heap.size (l9 []) := by rw [hW3]; exact bx_far (bx_drew Z2) (by simp) _
        have U3 : Up w W3 := by rw [hW3]; exact up_set (up_drew U2) (by simp) _
        clear hW3 B2 S2 T2 U2 Z2 q0 q1 q2 q3 q4 q5 q6 q7 q8 f0 f1 f2 f3 f4 f5 f6 f7 f8 s2 tc
        rw [rounds_succ]
        go_wp2_with fail
        go_roundw
        case rel =>
          refine ⟨k + 1, by omega, by go_num, U3, ?_, Z3⟩
          obtain ⟨e1, e2, e3⟩ := unhide HX
          obtain ⟨k1, k2⟩ := unhide HS
          obtain ⟨z0, z1, z2, z3, z4, z5, z6, z7, z8⟩ := unhide HE
          have a := k1 1 e3
          have p := k2 2 (by rw [e3]; decide)
          have q := k2 0 (by rw [e3]; decide)
          rw [e1, e2] at a
          unfold l9
          rw [a.1, a.2.1, a.2.2, p.1, p.2.1, p.2.2, q.1, q.2.1, q.2.2, z0, z1, z2, z3, z4, z5, z6, z7, z8]
          exact B3
        case measure => simp [intOf]; omega
      · go_wp2_with fail
        refine at_wp (fun W0 hW0 => ?_)
        have u0 : Up wr W0 := by rw [hW0]; exact (by repeat' (first | (with_reducible exact up_refl _) | (with_reducible assumption) | (with_reducible refine up_alloc ?_ _) | (with_reducible refine up_drewN ?_ _) | (with_reducible refine up_drew ?_) | (with_reducible refine up_set ?_ (by first | (simp; done) | (simp; omega) | omega) _) | (refine up_trans ?_ (by with_reducible assumption))))
        have B0 : Bx W0 (w.heap.size + 1) [.int .i64 n0, .int .i64 x0, .int .i64 y0, .int .i64 n1, .int .i64 x1, .int .i64 y1, .int .i64 n2, .int .i64 x2, .int .i64 y2] := bx_up (unhide HB) u0
        have S0 : Bx W0 wr.heap.size [.int .i64 x, .int .i64 y, .int .i64 2, .int .i64 ps[k].lim, .int .i64 ps[k].lo, .int .i64 ps[k].hi] := by rw [hW0]; exact bx_alloc (bx_new wr _ 33) _
        have T0 : Bx W0 (wr.heap.size + 1) [.int .i64 1, .int .i64 x, .int .i64 y] := by
          rw [hW0]
          have t := bx_new (wr.alloc (.cells #[.int .i64 x, .int .i64 y, .int .i64 2, .int .i64 ps[k].lim, .int .i64 ps[k].lo, .int .i64 ps[k].hi] 33)) [.int .i64 1, .int .i64 x, .int .i64 y] 36
          rwa [sz1] at t
        have Z0 : Bx W0 w.heap.size (l9 []) := bx_up hZ u0
        have U0 : Up w W0 := up_trans hu u0
        clear hW0 u0 q0 q1 q2 q3 q4 q5 q6 q7 q8 f0 f1 f2 f3 f4 f5 f6 f7 f8 d0 d1 d2 d3 d4 d5
        refine wp_loop_rounds 4 ?_
        obtain ⟨q0, q1, q2, q3, q4, q5, q6, q7, q8⟩ := bx9 B0
        obtain ⟨f0, f1, f2, f3, f4, f5, f6, f7, f8⟩ := bxf9 B0
        have s2 := (S0 2 _ rfl).1
        have tc := (T0 0 _ rfl).1
        rw [rounds_succ]
        go_wp2_with fail
        go_region
        all_goals go_wp2_with fail
        refine at_rounds (fun W1 hW1 => ?_)
        have B1 : Bx W1 (w.heap.size + 1) [.int .i64 n0, .int .i64 x0, .int .i64 y0, .int .i64 n1, .int .i64 x1, .int .i64 y1, .int .i64 (n2 + 1), .int .i64 x2, .int .i64 y2] := by rw [hW1]; exact bx_set (bx_drew B0) 6 _
        have S1 : Bx W1 wr.heap.size [.int .i64 x, .int .i64 y, .int .i64 2, .int .i64 ps[k].lim, .int .i64 ps[k].lo, .int .i64 ps[k].hi] := by rw [hW1]; exact bx_far (bx_drew S0) (by simp; omega) _
        have T1 : Bx W1 (wr.heap.size + 1) [.int .i64 1, .int .i64 x, .int .i64 y] := by rw [hW1]; exact bx_far (bx_drew T0) (by simp; omega) _
        have Z1 : Bx W1 w.heap.size (l9 []) := by rw [hW1]; exact bx_far (bx_drew Z0) (by simp) _
        have U1 : Up w W1 := by rw [hW1]; exact up_set (up_drew U0) (by simp) _
        clear hW1 B0 S0 T0 U0 Z0 q0 q1 q2 q3 q4 q5 q6 q7 q8 f0 f1 f2 f3 f4 f5 f6 f7 f8 s2 tc
        obtain ⟨q0, q1, q2, q3, q4, q5, q6, q7, q8⟩ := bx9 B1
        obtain ⟨f0, f1, f2, f3, f4, f5, f6, f7, f8⟩ := bxf9 B1
        have s2 := (S1 2 _ rfl).1
        have tc := (T1 1 _ rfl).1
        rw [rounds_succ]
        go_wp2_with fail
        go_region
        all_goals go_wp2_with fail
        refine at_rounds (fun W2 hW2 => ?_)
        have B2 : Bx W2 (w.heap.size + 1) [.int .i64 n0, .int .i64 x0, .int .i64 y0, .int .i64 n1, .int .i64 x1, .int .i64 y1, .int .i64 (n2 + 1), .int .i64 (x2 + x), .int .i64 y2] := by rw [hW2]; exact bx_set (bx_drew B1) 7 _
        have S2 : Bx W2 wr.heap.size [.int .i64 x, .int .i64 y, .int .i64 2, .int .i64 ps[k].lim, .int .i64 ps[k].lo, .int .i64 ps[k].hi] := by rw [hW2]; exact bx_far (bx_drew S1) (by simp; omega) _
        have T2 : Bx W2 (wr.heap.size + 1) [.int .i64 1, .int .i64 x, .int .i64 y] := by rw [hW2]; exact bx_far (bx_drew T1) (by simp; omega) _
        have Z2 : Bx W2 w.heap.size (l9 []) := by rw [hW2]; exact bx_far (bx_drew Z1) (by simp) _
        have U2 : Up w W2 := by rw [hW2]; exact up_set (up_drew U1) (by simp) _
        clear hW2 B1 S1 T1 U1 Z1 q0 q1 q2 q3 q4 q5 q6 q7 q8 f0 f1 f2 f3 f4 f5 f6 f7 f8 s2 tc
        obtain ⟨q0, q1, q2, q3, q4, q5, q6, q7, q8⟩ := bx9 B2
        obtain ⟨f0, f1, f2, f3, f4, f5, f6, f7, f8⟩ := bxf9 B2
        have s2 := (S2 2 _ rfl).1
        have tc := (T2 2 _ rfl).1
        rw [rounds_succ]
        go_wp2_with fail
        go_region
        all_goals go_wp2_with fail
        refine at_rounds (fun W3 hW3 => ?_)
        have B3 : Bx W3 (w.heap.size + 1) [.int .i64 n0, .int .i64 x0, .int .i64 y0, .int .i64 n1, .int .i64 x1, .int .i64 y1, .int .i64 (n2 + 1), .int .i64 (x2 + x), .int .i64 (y2 + y)] := by rw [hW3]; exact bx_set (bx_drew B2) 8 _
        have S3 : Bx W3 wr.heap.size [.int .i64 x, .int .i64 y, .int .i64 2, .int .i64 ps[k].lim, .int .i64 ps[k].lo, .int .i64 ps[k].hi] := by rw [hW3]; exact bx_far (bx_drew S2) (by simp; omega) _
        have T3 : Bx W3 (wr.heap.size + 1) [.int .i64 1, .int .i64 x, .int .i64 y] := by rw [hW3]; exact bx_far (bx_drew T2) (by simp; omega) _
        have Z3 : Bx W3 w.heap.size (l9 []) := by rw [hW3]; exact bx_far (bx_drew Z2) (by simp) _
        have U3 : Up w W3 := by rw [hW3]; exact up_set (up_drew U2) (by simp) _
        clear hW3 B2 S2 T2 U2 Z2 q0 q1 q2 q3 q4 q5 q6 q7 q8 f0 f1 f2 f3 f4 f5 f6 f7 f8 s2 tc
        rw [rounds_succ]
        go_wp2_with fail
        go_roundw
        case rel =>
          refine ⟨k + 1, by omega, by go_num, U3, ?_, Z3⟩
          obtain ⟨e1, e2, e3⟩ := unhide HX
          obtain ⟨k1, k2⟩ := unhide HS
          obtain ⟨z0, z1, z2, z3, z4, z5, z6, z7, z8⟩ := unhide HE
          have a := k1 2 e3
          have p := k2 0 (by rw [e3]; decide)
          have q := k2 1 (by rw [e3]; decide)
          rw [e1, e2] at a
          unfold l9
          rw [a.1, a.2.1, a.2.2, p.1, p.2.1, p.2.2, q.1, q.2.1, q.2.2, z0, z1, z2, z3, z4, z5, z6, z7, z8]
          exact B3
        case measure => simp [intOf]; omega
    · obtain rfl : k = n := by omega
      have hz : ps.take k = ps := List.take_of_length_le (by rw [unhide HN]; omega)
      rw [hz] at hB
      obtain ⟨q0, q1, q2, q3, q4, q5, q6, q7, q8⟩ := bx9 hB
      obtain ⟨f0, f1, f2, f3, f4, f5, f6, f7, f8⟩ := bxf9 hZ
      obtain ⟨z0, z1, z2, z3, z4, z5, z6, z7, z8⟩ := bx9 hZ
      clear hz
      go_wp2_with fail
      obtain ⟨W9, hW9⟩ : ∃ W9 : World, W9 = (((((((((wr.setCell ⟨w.heap.size, 0, none⟩ (.int .i64 (Gs.cN 0 ps))).setCell ⟨w.heap.size, 1, none⟩ (.int .i64 (Gs.cX 0 ps))).setCell ⟨w.heap.size, 2, none⟩ (.int .i64 (Gs.cY 0 ps))).setCell ⟨w.heap.size, 3, none⟩ (.int .i64 (Gs.cN 1 ps))).setCell ⟨w.heap.size, 4, none⟩ (.int .i64 (Gs.cX 1 ps))).setCell ⟨w.heap.size, 5, none⟩ (.int .i64 (Gs.cY 1 ps))).setCell ⟨w.heap.size, 6, none⟩ (.int .i64 (Gs.cN 2 ps))).setCell ⟨w.heap.size, 7, none⟩ (.int .i64 (Gs.cX 2 ps))).setCell ⟨w.heap.size, 8, none⟩ (.int .i64 (Gs.cY 2 ps))) := ⟨_, rfl⟩
      rw [← hW9]
      have B9 : Bx W9 w.heap.size (l9 ps) := by rw [hW9]; exact (bx_set (bx_set (bx_set (bx_set (bx_set (bx_set (bx_set (bx_set (bx_set hZ 0 _) 1 _) 2 _) 3 _) 4 _) 5 _) 6 _) 7 _) 8 _)
      have U9 : Up w W9 := by rw [hW9]; exact (by repeat' (first | (with_reducible exact up_refl _) | (with_reducible assumption) | (with_reducible refine up_alloc ?_ _) | (with_reducible refine up_drewN ?_ _) | (with_reducible refine up_drew ?_) | (with_reducible refine up_set ?_ (by first | (simp; done) | (simp; omega) | omega) _) | (refine up_trans ?_ (by with_reducible assumption))))
      clear hW9 q0 q1 q2 q3 q4 q5 q6 q7 q8 f0 f1 f2 f3 f4 f5 f6 f7 f8 z0 z1 z2 z3 z4 z5 z6 z7 z8
      obtain ⟨q0, q1, q2, q3, q4, q5, q6, q7, q8⟩ := bx9 B9
      refine bodyPost_ret (v := .agg (l9 ps).toArray) ?_ rfl ⟨rfl, U9⟩
      simp [results, Try.results22, go_sem, q0, q1, q2, q3, q4, q5, q6, q7, q8]
end Go.Proofs.Ytepblnnebeglbaa
