/- The few examples with which each statement of the chapter ends are right. -/
import Derived.Test.YtdignnmhiifpgaaBrY
import Derived.Test.YtdignnmhiifpgaaBrPE
namespace Go.Proofs.Ytdignnmhiifpgaa
open Go.RowKit Go.Proofs.Gn
set_option linter.unusedVariables false
def exB (a0 a1 a2 : Option Addr) : Brg := { sp := [20000, 10000], mo := [200000, 100000], sh := [60000, 50000], A0 := a0, A1 := a1, A2 := a2, k0 := 2, k1 := 2, k2 := 2, dy := 200, la := 2, tr := 500 }
def exT : List (Int × Int) := [(0, 12000), (2000, 12000)]
def exP : Pav := { ld := 10000, lf := 1000, pw := 4 }
theorem ex_mom (a0 a1 a2 : Option Addr) : wmE (exB a0 a1 a2) exT 0 10000 = 0 ∧ wmV (exB a0 a1 a2) exT 0 10000 = .agg #[.int .i64 2160000000000, .int .i64 0, .int .i64 10000, .int .i64 10000] := ⟨by kernel_rfl, by kernel_rfl⟩
theorem ex_end (a0 a1 a2 : Option Addr) : weE (exB a0 a1 a2) exT 0 = 0 ∧ weV false (exB a0 a1 a2) exT 0 = .agg #[.int .i64 456000000, .int .i64 0, .int .i64 0, .int .i64 2000] := ⟨by kernel_rfl, by kernel_rfl⟩
theorem ex_dam : daE exP exT 1 = 0 ∧ daV exP exT 1 = 4148 := ⟨by kernel_rfl, by kernel_rfl⟩
theorem i6_22 {W : World} {g : Nat} {a b : Int} (h : Bx W g [.int .i64 a, .int .i64 b]) : I6 W (some ⟨g, 0, none⟩) [a, b] := i6_2 (h 0 _ rfl).1 (h 1 _ rfl).1
theorem frs_ex {W : World} {g : Nat} (h : Bx W g [.int .i64 0, .int .i64 12000, .int .i64 2000, .int .i64 12000]) : Frs W (some ⟨g, 0, none⟩) exT := .inr ⟨g, 0, rfl, fun k hk => by
  match k, hk with
  | 0, _ => exact ⟨(h 0 _ rfl).1, (h 1 _ rfl).1⟩
  | 1, _ => exact ⟨(h 2 _ rfl).1, (h 3 _ rfl).1⟩
  | n + 2, h => exact absurd h (by simp [exT])⟩
theorem at_post {fn : Func} {K : Ending → World → Prop} {x : Exit} {a : Act} {w : World} (h : ∀ W, W = w → bodyPost Try.prog fn K x a W) : bodyPost Try.prog fn K x a w := h w rfl
theorem l_Two (w : World) : Calls Try.prog 29 #[] w fun e w' => ∃ g : Nat, e = .returned (.slice (some ⟨g, 0, none⟩) 2 2) ∧ Frs w' (some ⟨g, 0, none⟩) exT ∧ Up w w' := by
  go_enter Try.func29, Try.ntmps29
  go_wp2
  go_ret
  exact ⟨w.heap.size, rfl, frs_ex (bx_new w _ _), (by repeat' (first | (with_reducible exact up_refl _) | (with_reducible assumption) | (with_reducible refine up_alloc ?_ _) | (with_reducible refine up_drewN ?_ _) | (with_reducible refine up_drew ?_) | (with_reducible refine up_set ?_ (by first | (simp; done) | (simp; omega) | omega) _) | (refine up_trans ?_ (by with_reducible assumption))))⟩
set_option maxHeartbeats 2000000 in
theorem l_Example (w : World) : Calls Try.prog 28 #[] w fun e w' => ∃ a0 a1 a2 : Option Addr, e = .returned (bgV (exB a0 a1 a2)) ∧ BgAt w' (exB a0 a1 a2) ∧ Up w w' := by
  go_enter Try.func28, Try.ntmps28
  go_wp2
  refine at_post (fun W hW => ?_)
  obtain ⟨t0, t1, t2, t3⟩ : Bx W w.heap.size [.slice (some ⟨w.heap.size + 1, 0, none⟩) 2 2, .slice (some ⟨w.heap.size + 1 + 1, 0, none⟩) 2 2, .slice (some ⟨w.heap.size + 1 + 1 + 1, 0, none⟩) 2 2, .int .i64 200, .int .i64 2, .int .i64 500] ∧ Bx W (w.heap.size + 1) [.int .i64 20000, .int .i64 10000] ∧ Bx W (w.heap.size + 1 + 1) [.int .i64 200000, .int .i64 100000] ∧ Bx W (w.heap.size + 1 + 1 + 1) [.int .i64 60000, .int .i64 50000] := by
    rw [hW]
    refine ⟨bx_alloc (bx_alloc (bx_alloc (bx_new w _ _) _) _) _, ?_, ?_, ?_⟩
    · have t := bx_new (w.alloc (.cells #[.slice (some ⟨w.heap.size + 1, 0, none⟩) 2 2, .slice (some ⟨w.heap.size + 1 + 1, 0, none⟩) 2 2, .slice (some ⟨w.heap.size + 1 + 1 + 1, 0, none⟩) 2 2, .int .i64 200, .int .i64 2, .int .i64 500] 44)) [.int .i64 20000, .int .i64 10000] 2
      rw [World.size_alloc] at t
      exact bx_alloc (bx_alloc t _) _
    · have t := bx_new ((w.alloc (.cells #[.slice (some ⟨w.heap.size + 1, 0, none⟩) 2 2, .slice (some ⟨w.heap.size + 1 + 1, 0, none⟩) 2 2, .slice (some ⟨w.heap.size + 1 + 1 + 1, 0, none⟩) 2 2, .int .i64 200, .int .i64 2, .int .i64 500] 44)).alloc (.cells #[.int .i64 20000, .int .i64 10000] 2)) [.int .i64 200000, .int .i64 100000] 2
      rw [World.size_alloc, World.size_alloc] at t
      exact bx_alloc t _
    · have t := bx_new (((w.alloc (.cells #[.slice (some ⟨w.heap.size + 1, 0, none⟩) 2 2, .slice (some ⟨w.heap.size + 1 + 1, 0, none⟩) 2 2, .slice (some ⟨w.heap.size + 1 + 1 + 1, 0, none⟩) 2 2, .int .i64 200, .int .i64 2, .int .i64 500] 44)).alloc (.cells #[.int .i64 20000, .int .i64 10000] 2)).alloc (.cells #[.int .i64 200000, .int .i64 100000] 2)) [.int .i64 60000, .int .i64 50000] 2
      rw [World.size_alloc, World.size_alloc, World.size_alloc] at t
      exact t
  have U : Up w W := by rw [hW]; exact (by repeat' (first | (with_reducible exact up_refl _) | (with_reducible assumption) | (with_reducible refine up_alloc ?_ _) | (with_reducible refine up_drewN ?_ _) | (with_reducible refine up_drew ?_) | (with_reducible refine up_set ?_ (by first | (simp; done) | (simp; omega) | omega) _) | (refine up_trans ?_ (by with_reducible assumption))))
  clear hW
  have z0 := (t0 0 _ rfl).1
  have z1 := (t0 1 _ rfl).1
  have z2 := (t0 2 _ rfl).1
  have z3 := (t0 3 _ rfl).1
  have z4 := (t0 4 _ rfl).1
  have z5 := (t0 5 _ rfl).1
  refine bodyPost_ret (v := .agg #[.slice (some ⟨w.heap.size + 1, 0, none⟩) 2 2, .slice (some ⟨w.heap.size + 1 + 1, 0, none⟩) 2 2, .slice (some ⟨w.heap.size + 1 + 1 + 1, 0, none⟩) 2 2, .int .i64 200, .int .i64 2, .int .i64 500]) (by simp [results, Try.results28, go_sem, z0, z1, z2, z3, z4, z5]) rfl ?_
  exact ⟨_, _, _, rfl, ⟨i6_22 t1, i6_22 t2, i6_22 t3⟩, U⟩
theorem eqE_same (a b c d : Int) (w : World) : (Op.equalIn 10000 47 (.agg #[.int .i64 a, .int .i64 b, .int .i64 c, .int .i64 d]) (.agg #[.int .i64 a, .int .i64 b, .int .i64 c, .int .i64 d])).run Try.prog w = .ok true w := by
  unfold Op.equalIn
  simp [run_underlying Try.underlying47, go_sem]
set_option maxRecDepth 100000 in
set_option maxHeartbeats 4000000 in
theorem l_known (w : World) : Calls Try.prog 8 #[] w fun e w' => e = .returned (.bool true) ∧ Up w w' := by
  have H1 := hide (fun (a0 a1 a2 : Option Addr) (g : Nat) (W : World) (hb : BgAt W (exB a0 a1 a2)) (hF : Frs W (some ⟨g, 0, none⟩) exT) => (show Calls Try.prog 21 #[bgV (exB a0 a1 a2), .slice (some ⟨g, 0, none⟩) 2 2, .int .i64 0, .int .i64 10000] W fun e w' => e = .returned (.tuple #[.agg #[.int .i64 2160000000000, .int .i64 0, .int .i64 10000, .int .i64 10000], .int .i64 0]) ∧ Up W w' from by
    have t := p_WorstMoment (exB a0 a1 a2) (some ⟨g, 0, none⟩) exT 2 0 10000 W hb ⟨by simp [exB], by simp [exB], by simp [exB]⟩ (by simp [exB]) hF (by simp [exT])
    rw [(ex_mom a0 a1 a2).1, (ex_mom a0 a1 a2).2] at t
    exact t))
  have H2 := hide (fun (a0 a1 a2 : Option Addr) (g : Nat) (W : World) (hb : BgAt W (exB a0 a1 a2)) (hF : Frs W (some ⟨g, 0, none⟩) exT) => (show Calls Try.prog 23 #[bgV (exB a0 a1 a2), .slice (some ⟨g, 0, none⟩) 2 2, .int .i64 0, .bool false] W fun e w' => e = .returned (.tuple #[.agg #[.int .i64 456000000, .int .i64 0, .int .i64 0, .int .i64 2000], .int .i64 0]) ∧ Up W w' from by
    have t := p_WorstEnd (exB a0 a1 a2) (some ⟨g, 0, none⟩) exT 2 false 0 W hb ⟨by simp [exB], by simp [exB], by simp [exB]⟩ (by simp [exB]) hF (by simp [exT])
    rw [(ex_end a0 a1 a2).1, (ex_end a0 a1 a2).2] at t
    exact t))
  have H3 := hide (fun (g : Nat) (W : World) (hF : Frs W (some ⟨g, 0, none⟩) exT) => (show Calls Try.prog 14 #[.agg #[.int .i64 10000, .int .i64 1000, .int .i64 4], .slice (some ⟨g, 0, none⟩) 2 2, .int .i64 1] W fun e w' => e = .returned (.tuple #[.int .i64 4148, .int .i64 0]) ∧ Up W w' from by
    have t := p_Damage exP (some ⟨g, 0, none⟩) exT 2 1 W hF (by simp [exT])
    rw [ex_dam.1, ex_dam.2] at t
    exact t))
  have hq := fun W => eqE_same 2160000000000 0 10000 10000 W
  have hq2 := fun W => eqE_same 456000000 0 0 2000 W
  go_enter Try.func8, Try.ntmps8
  go_upto_region 2 with (first | (go_at_call 28; refine (l_Example _).mono ?_; rintro e w1 ⟨a0, a1, a2, rfl, hb, hu1⟩) | (go_at_call 29; refine (l_Two _).mono ?_; rintro e w2 ⟨g, rfl, hf, hu2⟩; (try have hb := bgAt_up hb hu2)) | (go_at_call 21; (with_reducible refine (unhide H1 _ _ _ _ _ hb hf).mono ?_); rintro e w3 ⟨rfl, hu3⟩))
  refine at_wpB (fun W1 hW1 => ?_)
  have U1 : Up w W1 := by rw [hW1]; exact up_alloc (up_trans (up_trans hu1 hu2) hu3) _
  have n1 : Bx W1 w3.heap.size [.int .i64 2160000000000, .int .i64 0, .int .i64 10000, .int .i64 10000] := by rw [hW1]; exact bx_new w3 _ _
  obtain ⟨B1, hB1⟩ : ∃ B, w3.heap.size = B := ⟨_, rfl⟩
  rw [hB1] at n1 ⊢
  clear hW1 hB1 hu1 hu2 hu3 hb hf
  go_upto_region 3 with (first | (go_at_call 28; refine (l_Example _).mono ?_; rintro e w1 ⟨a0, a1, a2, rfl, hb, hu1⟩) | (go_at_call 29; refine (l_Two _).mono ?_; rintro e w2 ⟨g, rfl, hf, hu2⟩; (try have hb := bgAt_up hb hu2)) | (go_at_call 23; (with_reducible refine (unhide H2 _ _ _ _ _ hb hf).mono ?_); rintro e w4 ⟨rfl, hu4⟩))
  refine at_wpB (fun W2 hW2 => ?_)
  have U2 : Up W1 W2 := by rw [hW2]; exact up_alloc (up_trans (up_trans hu1 hu2) hu4) _
  have n2 : Bx W2 w4.heap.size [.int .i64 456000000, .int .i64 0, .int .i64 0, .int .i64 2000] := by rw [hW2]; exact bx_new w4 _ _
  have n1 := bx_up n1 U2
  have U2 := up_trans U1 U2
  obtain ⟨B2, hB2⟩ : ∃ B, w4.heap.size = B := ⟨_, rfl⟩
  rw [hB2] at n2 ⊢
  clear hW2 hB2 hu1 hu2 hu4 hb hf U1
  go_upto_region 4 with (first | (go_at_call 29; refine (l_Two _).mono ?_; rintro e w2 ⟨g, rfl, hf, hu2⟩; (try have hb := bgAt_up hb hu2)) | (go_at_call 14; (with_reducible refine (unhide H3 _ _ hf).mono ?_); rintro e w5 ⟨rfl, hu5⟩))
  have n1 := bx_up n1 (up_trans hu2 hu5)
  have n2 := bx_up n2 (up_trans hu2 hu5)
  have U5 := up_trans U2 (up_trans hu2 hu5)
  obtain ⟨⟨b0, f0⟩, ⟨b1, f1⟩, ⟨b2, f2⟩, ⟨b3, f3⟩⟩ := bx4 n1
  obtain ⟨⟨c0, g0⟩, ⟨c1, g1⟩, ⟨c2, g2⟩, ⟨c3, g3⟩⟩ := bx4 n2
  clear hu2 hu5 hf U2 n1 n2 H1 H2 H3
  go_wp2
  go_ret
  exact ⟨rfl, U5⟩
end Go.Proofs.Ytdignnmhiifpgaa
