/- The sums of the groups of a platform, as the document's own answers reckon them; which supports are valid. -/
import Derived.Test.YtepblnnebeglbaaTip
namespace Go.Proofs.Ytepblnnebeglbaa
open Go.RowKit Go.Proofs.Gn
theorem at_y {F : Act → World → Prop} {a : Act} {w : World} (h : ∀ W, W = w → F a W) : F a w := h w rfl
theorem r_within (n a b : Int) (w : World) :
    Calls Try.prog 38 #[.int .i64 n, .int .i64 a, .int .i64 b] w fun e w' => e = .returned (.bool (win n a b)) ∧ w = w' := by
  unfold win
  go_enter Try.func38, Try.ntmps38
  go_wp2
  · go_ret
    have h : a ≤ n := by assumption
    exact ⟨ret_bool (by simp [h]), rfl⟩
  · go_ret
    exact ⟨ret_bool (by simp; omega), rfl⟩
theorem r_det {a0 a1 a2 b0 b1 b2 c0 c1 c2 : Int} (ha : Gs.Row a0 a1 a2) (hb : Gs.Row b0 b1 b2) (hc : Gs.Row c0 c1 c2) (w : World) :
    Calls Try.prog 36 #[m9 a0 a1 a2 b0 b1 b2 c0 c1 c2] w fun e w' => e = .returned (.int .i64 (Gs.dt a0 a1 a2 b0 b1 b2 c0 c1 c2)) ∧ Up w w' := by
  obtain ⟨⟨m1, m2⟩, ⟨m3, m4⟩, ⟨m5, m6⟩, ⟨m7, m8⟩, ⟨m9, m10⟩, ⟨m11, m12⟩, ⟨m13, m14⟩, ⟨m15, m16⟩, ⟨m17, m18⟩⟩ := dt_parts ha hb hc
  have f1 : c1 * b2 = b2 * c1 := Int.mul_comm _ _
  have f2 : c0 * b2 = b2 * c0 := Int.mul_comm _ _
  have f3 : c0 * b1 = b1 * c0 := Int.mul_comm _ _
  have e : a1 * (b0 * c2 - b2 * c0) = -(a1 * (b2 * c0 - b0 * c2)) := by rw [← Int.mul_neg]; congr 1; omega
  have hv : a0 * (b1 * c2 - c1 * b2) - a1 * (b0 * c2 - c0 * b2) + a2 * (b0 * c1 - c0 * b1) = Gs.dt a0 a1 a2 b0 b1 b2 c0 c1 c2 := by unfold Gs.dt; rw [f1, f2, f3, e]; omega
  have n1 : -3799912185597056 ≤ a1 * (b0 * c2 - c0 * b2) := by rw [f2, e]; omega
  have n2 : a1 * (b0 * c2 - c0 * b2) ≤ 3799912185597056 := by rw [f2, e]; omega
  have n3 : -3799912185597056 ≤ a0 * (b1 * c2 - c1 * b2) := by rw [f1]; omega
  have n4 : a0 * (b1 * c2 - c1 * b2) ≤ 3799912185597056 := by rw [f1]; omega
  have n5 : -3799912185597056 ≤ a2 * (b0 * c1 - c0 * b1) := by rw [f3]; omega
  have n6 : a2 * (b0 * c1 - c0 * b1) ≤ 3799912185597056 := by rw [f3]; omega
  have o1 : -39582418599936 ≤ c1 * b2 ∧ c1 * b2 ≤ 39582418599936 := by omega
  have o2 : -301989888 ≤ c0 * b2 ∧ c0 * b2 ≤ 301989888 := by omega
  have o3 : -301989888 ≤ c0 * b1 ∧ c0 * b1 ≤ 301989888 := by omega
  have HV := hide hv
  clear ha hb hc f1 f2 f3 e hv m13 m14 m15 m16 m17 m18
  obtain ⟨o4, o5⟩ := o1
  obtain ⟨o6, o7⟩ := o2
  obtain ⟨o8, o9⟩ := o3
  go_enter Try.func36, Try.ntmps36
  go_wp2_with fail
  go_ret
  exact ⟨ret_int (unhide HV), (by repeat' (first | (with_reducible exact up_refl _) | (with_reducible assumption) | (with_reducible refine up_alloc ?_ _) | (with_reducible refine up_drewN ?_ _) | (with_reducible refine up_drew ?_) | (with_reducible refine up_set ?_ (by first | (simp; done) | (simp; omega) | omega) _) | (refine up_trans ?_ (by with_reducible assumption))))⟩
set_option maxHeartbeats 16000000 in
theorem r_sums (A : Option Addr) (ps : List Gs.Sup) (cap : Nat) (w : World) (h : Sups w A ps) (ho : Gs.okA ps = true) (hn : ps.length ≤ 48) :
    Calls Try.prog 37 #[.slice A ps.length cap] w fun e w' => e = .returned (n9 ps) ∧ Up w w' := by
  rcases h with rfl | ⟨b, off, rfl, hc⟩
  · go_enter Try.func37, Try.ntmps37
    go_wp2_with fail
    go_rounds 1
    go_returns
    exact ⟨rfl, (by repeat' (first | (with_reducible exact up_refl _) | (with_reducible assumption) | (with_reducible refine up_alloc ?_ _) | (with_reducible refine up_drewN ?_ _) | (with_reducible refine up_drew ?_) | (with_reducible refine up_set ?_ (by first | (simp; done) | (simp; omega) | omega) _) | (refine up_trans ?_ (by with_reducible assumption))))⟩
  have HC := hide hc
  have HO := hide ho
  clear hc ho
  obtain ⟨n, hN⟩ : ∃ n, ps.length = n := ⟨_, rfl⟩
  rw [hN] at hn ⊢
  have HN := hide hN
  clear hN
  go_enter Try.func37, Try.ntmps37
  go_wp2_with fail
  go_loopw [4] (fun i wr => ∃ k : Nat, k ≤ n ∧ i = .int .i64 k ∧ Up w wr ∧ Bx wr (w.heap.size + 1) (l9 (ps.take k)) ∧ Bx wr w.heap.size (l9 [])) (fun i _ => n - (intOf i).toNat)
  case atStart => exact ⟨0, by omega, rfl, (by repeat' (first | (with_reducible exact up_refl _) | (with_reducible assumption) | (with_reducible refine up_alloc ?_ _) | (with_reducible refine up_drewN ?_ _) | (with_reducible refine up_drew ?_) | (with_reducible refine up_set ?_ (by first | (simp; done) | (simp; omega) | omega) _) | (refine up_trans ?_ (by with_reducible assumption)))), by have h1 := bx_new (w.alloc (.cells #[.int .i64 0, .int .i64 0, .int .i64 0, .int .i64 0, .int .i64 0, .int .i64 0, .int .i64 0, .int .i64 0, .int .i64 0] 54)) (l9 []) 54; rwa [sz1] at h1, bx_alloc (bx_new w (l9 []) 54) _⟩
  case round =>
    obtain ⟨k, hk, rfl, hu, hB, hZ⟩ := hrel
    have hUs := bx_lt hB (by simp)
    by_cases hlt : k < n
    · have hl : k < ps.length := by rw [unhide HN]; exact hlt
      have hsup := supAt_up (unhide HC k hl) hu
      have hok := Gs.okS_yes (Gs.okA_get (unhide HO) hl)
      have R0 := row_take (unhide HO) (by rw [unhide HN]; exact hn) k 0 (.inl rfl)
      have R1 := row_take (unhide HO) (by rw [unhide HN]; exact hn) k 1 (.inr (.inl rfl))
      have R2 := row_take (unhide HO) (by rw [unhide HN]; exact hn) k 2 (.inr (.inr rfl))
      obtain ⟨d0, d1, d2, d3, d4, d5⟩ := hsup
      have HS := hide (⟨fun g hg => sums_step hl g hg, fun g hg => sums_stay hl g hg⟩ : (∀ g, ps[k].g = g → _) ∧ (∀ g, ¬ ps[k].g = g → _))
      obtain ⟨x, hx⟩ : ∃ x, ps[k].x = x := ⟨_, rfl⟩
      obtain ⟨y, hy⟩ : ∃ x, ps[k].y = x := ⟨_, rfl⟩
      obtain ⟨g, hg⟩ : ∃ x, ps[k].g = x := ⟨_, rfl⟩
      rw [hx] at d0 hok
      rw [hy] at d1 hok
      rw [hg] at d2 hok
      have HX := hide (And.intro hx (And.intro hy hg))
      clear hx hy hg
      obtain ⟨n0, hn0⟩ : ∃ x, Gs.cN 0 (ps.take k) = x := ⟨_, rfl⟩
      obtain ⟨x0, hx0⟩ : ∃ x, Gs.cX 0 (ps.take k) = x := ⟨_, rfl⟩
      obtain ⟨y0, hy0⟩ : ∃ x, Gs.cY 0 (ps.take k) = x := ⟨_, rfl⟩
      obtain ⟨n1, hn1⟩ : ∃ x, Gs.cN 1 (ps.take k) = x := ⟨_, rfl⟩
      obtain ⟨x1, hx1⟩ : ∃ x, Gs.cX 1 (ps.take k) = x := ⟨_, rfl⟩
      obtain ⟨y1, hy1⟩ : ∃ x, Gs.cY 1 (ps.take k) = x := ⟨_, rfl⟩
      obtain ⟨n2, hn2⟩ : ∃ x, Gs.cN 2 (ps.take k) = x := ⟨_, rfl⟩
      obtain ⟨x2, hx2⟩ : ∃ x, Gs.cX 2 (ps.take k) = x := ⟨_, rfl⟩
      obtain ⟨y2, hy2⟩ : ∃ x, Gs.cY 2 (ps.take k) = x := ⟨_, rfl⟩
      have hB' : Bx wr (w.heap.size + 1) [.int .i64 n0, .int .i64 x0, .int .i64 y0, .int .i64 n1, .int .i64 x1, .int .i64 y1, .int .i64 n2, .int .i64 x2, .int .i64 y2] := by
        rw [← hn0, ← hx0, ← hy0, ← hn1, ← hx1, ← hy1, ← hn2, ← hx2, ← hy2]; exact hB
      rw [hn0, hx0, hy0] at R0
      rw [hn1, hx1, hy1] at R1
      rw [hn2, hx2, hy2] at R2
      have HE := hide (And.intro hn0 (And.intro hx0 (And.intro hy0 (And.intro hn1 (And.intro hx1 (And.intro hy1 (And.intro hn2 (And.intro hx2 hy2))))))))
      clear hn0 hx0 hy0 hn1 hx1 hy1 hn2 hx2 hy2
      obtain ⟨q0, q1, q2, q3, q4, q5, q6, q7, q8⟩ := bx9 hB'
      obtain ⟨f0, f1, f2, f3, f4, f5, f6, f7, f8⟩ := bxf9 hB'
      have U0 := hu
      have B0 := hB'
      have Z0 := hZ
      have hsw := unhide HC k hl
      obtain ⟨g0, g1, g2, _, _, _⟩ := hsw
      rw [(unhide HX).1] at g0
      rw [(unhide HX).2.1] at g1
      rw [(unhide HX).2.2] at g2
      clear hB' hB hZ hu hUs d0 d1 d2 d3 d4 d5 q0 q1 q2 q3 q4 q5 q6 q7 q8 f0 f1 f2 f3 f4 f5 f6 f7 f8
      unfold Gs.Row at R0 R1 R2
      obtain ⟨⟨o1, o2⟩, ⟨o3, o4⟩, ⟨o5, o6⟩, _⟩ := hok
      obtain ⟨⟨_, _⟩, ⟨_, _⟩, _, _⟩ := R0
      obtain ⟨⟨_, _⟩, ⟨_, _⟩, _, _⟩ := R1
      obtain ⟨⟨_, _⟩, ⟨_, _⟩, _, _⟩ := R2
      rcases (show g = 0 ∨ g = 1 ∨ g = 2 by omega) with rfl | rfl | rfl
      · obtain ⟨Wa, rfl⟩ : ∃ x : World, x = wr := ⟨_, rfl⟩
        obtain ⟨q0, q1, q2, q3, q4, q5, q6, q7, q8⟩ := bx9 B0
        obtain ⟨f0, f1, f2, f3, f4, f5, f6, f7, f8⟩ := bxf9 B0
        have d0 := up_cell U0 g0
        have d1 := up_cell U0 g1
        have d2 := up_cell U0 g2
        go_wp2_with fail
        go_region
        refine at_y (fun W1 hW1 => ?_)
        have B1 : Bx W1 (w.heap.size + 1) [.int .i64 (n0 + 1), .int .i64 x0, .int .i64 y0, .int .i64 n1, .int .i64 x1, .int .i64 y1, .int .i64 n2, .int .i64 x2, .int .i64 y2] := by rw [hW1]; exact bx_set (bx_drew B0) 0 _
        have Z1 : Bx W1 w.heap.size (l9 []) := by rw [hW1]; exact bx_far (bx_drew Z0) (by simp) _
        have U1 : Up w W1 := by rw [hW1]; exact up_set (up_drew U0) (by simp) _
        clear hW1 B0 U0 Z0 q0 q1 q2 q3 q4 q5 q6 q7 q8 f0 f1 f2 f3 f4 f5 f6 f7 f8 d0 d1 d2
        obtain ⟨q0, q1, q2, q3, q4, q5, q6, q7, q8⟩ := bx9 B1
        obtain ⟨f0, f1, f2, f3, f4, f5, f6, f7, f8⟩ := bxf9 B1
        have d0 := up_cell U1 g0
        have d1 := up_cell U1 g1
        have d2 := up_cell U1 g2
        go_wp2_with fail
        go_region
        refine at_y (fun W2 hW2 => ?_)
        have B2 : Bx W2 (w.heap.size + 1) [.int .i64 (n0 + 1), .int .i64 (x0 + x), .int .i64 y0, .int .i64 n1, .int .i64 x1, .int .i64 y1, .int .i64 n2, .int .i64 x2, .int .i64 y2] := by rw [hW2]; exact bx_set (bx_drew B1) 1 _
        have Z2 : Bx W2 w.heap.size (l9 []) := by rw [hW2]; exact bx_far (bx_drew Z1) (by simp) _
        have U2 : Up w W2 := by rw [hW2]; exact up_set (up_drew U1) (by simp) _
        clear hW2 B1 U1 Z1 q0 q1 q2 q3 q4 q5 q6 q7 q8 f0 f1 f2 f3 f4 f5 f6 f7 f8 d0 d1 d2
        obtain ⟨q0, q1, q2, q3, q4, q5, q6, q7, q8⟩ := bx9 B2
        obtain ⟨f0, f1, f2, f3, f4, f5, f6, f7, f8⟩ := bxf9 B2
        have d0 := up_cell U2 g0
        have d1 := up_cell U2 g1
        have d2 := up_cell U2 g2
        go_wp2_with fail
        go_region
        refine at_y (fun W3 hW3 => ?_)
        have B3 : Bx W3 (w.heap.size + 1) [.int .i64 (n0 + 1), .int .i64 (x0 + x), .int .i64 (y0 + y), .int .i64 n1, .int .i64 x1, .int .i64 y1, .int .i64 n2, .int .i64 x2, .int .i64 y2] := by rw [hW3]; exact bx_set (bx_drew B2) 2 _
        have Z3 : Bx W3 w.heap.size (l9 []) := by rw [hW3]; exact bx_far (bx_drew Z2) (by simp) _
        have U3 : Up w W3 := by rw [hW3]; exact up_set (up_drew U2) (by simp) _
        clear hW3 B2 U2 Z2 q0 q1 q2 q3 q4 q5 q6 q7 q8 f0 f1 f2 f3 f4 f5 f6 f7 f8 d0 d1 d2
        go_wp2_with fail
        go_roundw
        case rel =>
          refine ⟨k + 1, by omega, by go_num, U3, ?_, Z3⟩
          obtain ⟨e1, e2, e3⟩ := unhide HX
          obtain ⟨k1, k2⟩ := unhide HS
          obtain ⟨z0, z1, z2, z3, z4, z5, z6, z7, z8⟩ := unhide HE
          have a := k1 0 e3
          have p := k2 1 (by rw [e3]; decide)
          have q := k2 2 (by rw [e3]; decide)
          rw [e1, e2] at a
          unfold l9
          rw [a.1, a.2.1, a.2.2, p.1, p.2.1, p.2.2, q.1, q.2.1, q.2.2, z0, z1, z2, z3, z4, z5, z6, z7, z8]
          exact B3
        case measure => simp [intOf]; omega
      · obtain ⟨Wa, rfl⟩ : ∃ x : World, x = wr := ⟨_, rfl⟩
        obtain ⟨q0, q1, q2, q3, q4, q5, q6, q7, q8⟩ := bx9 B0
        obtain ⟨f0, f1, f2, f3, f4, f5, f6, f7, f8⟩ := bxf9 B0
        have d0 := up_cell U0 g0
        have d1 := up_cell U0 g1
        have d2 := up_cell U0 g2
        go_wp2_with fail
        go_region
        refine at_y (fun W1 hW1 => ?_)
        have B1 : Bx W1 (w.heap.size + 1) [.int .i64 n0, .int .i64 x0, .int .i64 y0, .int .i64 (n1 + 1), .int .i64 x1, .int .i64 y1, .int .i64 n2, .int .i64 x2, .int .i64 y2] := by rw [hW1]; exact bx_set (bx_drew B0) 3 _
        have Z1 : Bx W1 w.heap.size (l9 []) := by rw [hW1]; exact bx_far (bx_drew Z0) (by simp) _
        have U1 : Up w W1 := by rw [hW1]; exact up_set (up_drew U0) (by simp) _
        clear hW1 B0 U0 Z0 q0 q1 q2 q3 q4 q5 q6 q7 q8 f0 f1 f2 f3 f4 f5 f6 f7 f8 d0 d1 d2
        obtain ⟨q0, q1, q2, q3, q4, q5, q6, q7, q8⟩ := bx9 B1
        obtain ⟨f0, f1, f2, f3, f4, f5, f6, f7, f8⟩ := bxf9 B1
        have d0 := up_cell U1 g0
        have d1 := up_cell U1 g1
        have d2 := up_cell U1 g2
        go_wp2_with fail
        go_region
        refine at_y (fun W2 hW2 => ?_)
        have B2 : Bx W2 (w.heap.size + 1) [.int .i64 n0, .int .i64 x0, .int .i64 y0, .int .i64 (n1 + 1), .int .i64 (x1 + x), .int .i64 y1, .int .i64 n2, .int .i64 x2, .int .i64 y2] := by rw [hW2]; exact bx_set (bx_drew B1) 4 _
        have Z2 : Bx W2 w.heap.size (l9 []) := by rw [hW2]; exact bx_far (bx_drew Z1) (by simp) _
        have U2 : Up w W2 := by rw [hW2]; exact up_set (up_drew U1) (by simp) _
        clear hW2 B1 U1 Z1 q0 q1 q2 q3 q4 q5 q6 q7 q8 f0 f1 f2 f3 f4 f5 f6 f7 f8 d0 d1 d2
        obtain ⟨q0, q1, q2, q3, q4, q5, q6, q7, q8⟩ := bx9 B2
        obtain ⟨f0, f1, f2, f3, f4, f5, f6, f7, f8⟩ := bxf9 B2
        have d0 := up_cell U2 g0
        have d1 := up_cell U2 g1
        have d2 := up_cell U2 g2
        go_wp2_with fail
        go_region
        refine at_y (fun W3 hW3 => ?_)
        have B3 : Bx W3 (w.heap.size + 1) [.int .i64 n0, .int .i64 x0, .int .i64 y0, .int .i64 (n1 + 1), .int .i64 (x1 + x), .int .i64 (y1 + y), .int .i64 n2, .int .i64 x2, .int .i64 y2] := by rw [hW3]; exact bx_set (bx_drew B2) 5 _
        have Z3 : Bx W3 w.heap.size (l9 []) := by rw [hW3]; exact bx_far (bx_drew Z2) (by simp) _
        have U3 : Up w W3 := by rw [hW3]; exact up_set (up_drew U2) (by simp) _
        clear hW3 B2 U2 Z2 q0 q1 q2 q3 q4 q5 q6 q7 q8 f0 f1 f2 f3 f4 f5 f6 f7 f8 d0 d1 d2
        go_wp2_with fail
        go_roundw
        case rel =>
          refine ⟨k + 1, by omega, by go_num, U3, ?_, Z3⟩
          obtain ⟨e1, e2, e3⟩ := unhide HX
          obtain ⟨k1, k2⟩ := unhide HS
          obtain ⟨z0, z1, z2, z3, z4, z5, z6, z7, z8⟩ := unhide HE
          have a := k1 1 e3
          have p := k2 2 (by rw [e3]; decide)
          have q := k2 0 (by rw [e3]; decide)
          rw [e1, e2] at a
          unfold l9
          rw [a.1, a.2.1, a.2.2, p.1, p.2.1, p.2.2, q.1, q.2.1, q.2.2, z0, z1, z2, z3, z4, z5, z6, z7, z8]
          exact B3
        case measure => simp [intOf]; omega
      · obtain ⟨Wa, rfl⟩ : ∃ x : World, x = wr := ⟨_, rfl⟩
        obtain ⟨q0, q1, q2, q3, q4, q5, q6, q7, q8⟩ := bx9 B0
        obtain ⟨f0, f1, f2, f3, f4, f5, f6, f7, f8⟩ := bxf9 B0
        have d0 := up_cell U0 g0
        have d1 := up_cell U0 g1
        have d2 := up_cell U0 g2
        go_wp2_with fail
        go_region
        refine at_y (fun W1 hW1 => ?_)
        have B1 : Bx W1 (w.heap.size + 1) [.int .i64 n0, .int .i64 x0, .int .i64 y0, .int .i64 n1, .int .i64 x1, .int .i64 y1, .int .i64 (n2 + 1), .int .i64 x2, .int .i64 y2] := by rw [hW1]; exact bx_set (bx_drew B0) 6 _
        have Z1 : Bx W1 w.heap.size (l9 []) := by rw [hW1]; exact bx_far (bx_drew Z0) (by simp) _
        have U1 : Up w W1 := by rw [hW1]; exact up_set (up_drew U0) (by simp) _
        clear hW1 B0 U0 Z0 q0 q1 q2 q3 q4 q5 q6 q7 q8 f0 f1 f2 f3 f4 f5 f6 f7 f8 d0 d1 d2
        obtain ⟨q0, q1, q2, q3, q4, q5, q6, q7, q8⟩ := bx9 B1
        obtain ⟨f0, f1, f2, f3, f4, f5, f6, f7, f8⟩ := bxf9 B1
        have d0 := up_cell U1 g0
        have d1 := up_cell U1 g1
        have d2 := up_cell U1 g2
        go_wp2_with fail
        go_region
        refine at_y (fun W2 hW2 => ?_)
        have B2 : Bx W2 (w.heap.size + 1) [.int .i64 n0, .int .i64 x0, .int .i64 y0, .int .i64 n1, .int .i64 x1, .int .i64 y1, .int .i64 (n2 + 1), .int .i64 (x2 + x), .int .i64 y2] := by rw [hW2]; exact bx_set (bx_drew B1) 7 _
        have Z2 : Bx W2 w.heap.size (l9 []) := by rw [hW2]; exact bx_far (bx_drew Z1) (by simp) _
        have U2 : Up w W2 := by rw [hW2]; exact up_set (up_drew U1) (by simp) _
        clear hW2 B1 U1 Z1 q0 q1 q2 q3 q4 q5 q6 q7 q8 f0 f1 f2 f3 f4 f5 f6 f7 f8 d0 d1 d2
        obtain ⟨q0, q1, q2, q3, q4, q5, q6, q7, q8⟩ := bx9 B2
        obtain ⟨f0, f1, f2, f3, f4, f5, f6, f7, f8⟩ := bxf9 B2
        have d0 := up_cell U2 g0
        have d1 := up_cell U2 g1
        have d2 := up_cell U2 g2
        go_wp2_with fail
        go_region
        refine at_y (fun W3 hW3 => ?_)
        have B3 : Bx W3 (w.heap.size + 1) [.int .i64 n0, .int .i64 x0, .int .i64 y0, .int .i64 n1, .int .i64 x1, .int .i64 y1, .int .i64 (n2 + 1), .int .i64 (x2 + x), .int .i64 (y2 + y)] := by rw [hW3]; exact bx_set (bx_drew B2) 8 _
        have Z3 : Bx W3 w.heap.size (l9 []) := by rw [hW3]; exact bx_far (bx_drew Z2) (by simp) _
        have U3 : Up w W3 := by rw [hW3]; exact up_set (up_drew U2) (by simp) _
        clear hW3 B2 U2 Z2 q0 q1 q2 q3 q4 q5 q6 q7 q8 f0 f1 f2 f3 f4 f5 f6 f7 f8 d0 d1 d2
        go_wp2_with fail
        go_roundw
        case rel =>
          refine ⟨k + 1, by omega, by go_num, U3, ?_, Z3⟩
          obtain ⟨e1, e2, e3⟩ := unhide HX
          obtain ⟨k1, k2⟩ := unhide HS
          obtain ⟨z0, z1, z2, z3, z4, z5, z6, z7, z8⟩ := unhide HE
          have a := k1 2 e3
          have p := k2 0 (by rw [e3]; decide)
          have q := k2 1 (by rw [e3]; decide)
          rw [e1, e2] at a
          unfold l9
          rw [a.1, a.2.1, a.2.2, p.1, p.2.1, p.2.2, q.1, q.2.1, q.2.2, z0, z1, z2, z3, z4, z5, z6, z7, z8]
          exact B3
        case measure => simp [intOf]; omega
    · obtain rfl : k = n := by omega
      have hz : ps.take k = ps := List.take_of_length_le (by rw [unhide HN]; omega)
      rw [hz] at hB
      obtain ⟨q0, q1, q2, q3, q4, q5, q6, q7, q8⟩ := bx9 hB
      obtain ⟨f0, f1, f2, f3, f4, f5, f6, f7, f8⟩ := bxf9 hZ
      obtain ⟨z0, z1, z2, z3, z4, z5, z6, z7, z8⟩ := bx9 hZ
      clear hz
      go_wp2_with fail
      obtain ⟨W9, hW9⟩ : ∃ W9 : World, W9 = (((((((((wr.setCell ⟨w.heap.size, 0, none⟩ (.int .i64 (Gs.cN 0 ps))).setCell ⟨w.heap.size, 1, none⟩ (.int .i64 (Gs.cX 0 ps))).setCell ⟨w.heap.size, 2, none⟩ (.int .i64 (Gs.cY 0 ps))).setCell ⟨w.heap.size, 3, none⟩ (.int .i64 (Gs.cN 1 ps))).setCell ⟨w.heap.size, 4, none⟩ (.int .i64 (Gs.cX 1 ps))).setCell ⟨w.heap.size, 5, none⟩ (.int .i64 (Gs.cY 1 ps))).setCell ⟨w.heap.size, 6, none⟩ (.int .i64 (Gs.cN 2 ps))).setCell ⟨w.heap.size, 7, none⟩ (.int .i64 (Gs.cX 2 ps))).setCell ⟨w.heap.size, 8, none⟩ (.int .i64 (Gs.cY 2 ps))) := ⟨_, rfl⟩
      rw [← hW9]
      have B9 : Bx W9 w.heap.size (l9 ps) := by rw [hW9]; exact (bx_set (bx_set (bx_set (bx_set (bx_set (bx_set (bx_set (bx_set (bx_set hZ 0 _) 1 _) 2 _) 3 _) 4 _) 5 _) 6 _) 7 _) 8 _)
      have U9 : Up w W9 := by rw [hW9]; exact (by repeat' (first | (with_reducible exact up_refl _) | (with_reducible assumption) | (with_reducible refine up_alloc ?_ _) | (with_reducible refine up_drewN ?_ _) | (with_reducible refine up_drew ?_) | (with_reducible refine up_set ?_ (by first | (simp; done) | (simp; omega) | omega) _) | (refine up_trans ?_ (by with_reducible assumption))))
      clear hW9 q0 q1 q2 q3 q4 q5 q6 q7 q8 f0 f1 f2 f3 f4 f5 f6 f7 f8 z0 z1 z2 z3 z4 z5 z6 z7 z8
      obtain ⟨q0, q1, q2, q3, q4, q5, q6, q7, q8⟩ := bx9 B9
      refine bodyPost_ret (v := n9 ps) ?_ rfl ⟨rfl, U9⟩
      simp [results, Try.results37, go_sem, q0, q1, q2, q3, q4, q5, q6, q7, q8]
end Go.Proofs.Ytepblnnebeglbaa
