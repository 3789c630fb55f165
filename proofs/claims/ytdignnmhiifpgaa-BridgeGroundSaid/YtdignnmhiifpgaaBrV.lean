/- The worst effect of a train for a line. -/
import Derived.Test.YtdignnmhiifpgaaBrG
namespace Go.Proofs.Ytdignnmhiifpgaa
open Go.RowKit Go.Proofs.Gn Go.Shelf
set_option linter.unusedVariables false
theorem frs_block {w : World} {A : Option Addr} {ts : List (Int × Int)} (h : Frs w A ts) (h0 : 0 < ts.length) : ∀ b off, A = some ⟨b, off, none⟩ → b < w.heap.size := by
  rintro b off rfl
  rcases h with h | ⟨b', off', e, hc⟩
  · rw [h] at h0; simp at h0
  · cases e
    exact World.block_lt_of_cell? _ _ (hc 0 h0).1
theorem bx4 {W : World} {b : Nat} {v0 v1 v2 v3 : Value} (h : Bx W b [v0, v1, v2, v3]) : (W.cell? ⟨b, 0, none⟩ = some v0 ∧ W.frozen? ⟨b, 0, none⟩ = false) ∧ (W.cell? ⟨b, 1, none⟩ = some v1 ∧ W.frozen? ⟨b, 1, none⟩ = false) ∧ (W.cell? ⟨b, 2, none⟩ = some v2 ∧ W.frozen? ⟨b, 2, none⟩ = false) ∧ (W.cell? ⟨b, 3, none⟩ = some v3 ∧ W.frozen? ⟨b, 3, none⟩ = false) := ⟨h 0 _ rfl, h 1 _ rfl, h 2 _ rfl, h 3 _ rfl⟩
set_option maxRecDepth 100000 in
set_option maxHeartbeats 4000000 in
theorem p_worst (L : Ln) (A : Option Addr) (ts : List (Int × Int)) (cap : Nat) (w : World) (hF : Frs w A ts) (h0 : 0 < ts.length) (ht : TrOk ts) (hc : CoOk L) (hL : LnOk L w)
    (hLp : ∀ (p : Nat → Prop), (∀ k, p k → w.heap.size ≤ k) → ∀ W W', Below w.heap.size w W → KpP p W W' → LnOk L W → LnOk L W') :
    Calls Try.prog 51 #[lnV L, .slice A ts.length cap] w fun e w' => e = .returned (beV L (bsE (efs L ts))) ∧ Up w w' := by
  have hM := fun (W : World) => (callsIn_wide (n := 9)).1 (ef_make 9 L A ts.length cap W)
  have hG := fun (W : World) (m : Nat) (hz : W.heap.size = m) (hU : Up w W) => p_greatestE (m + 1) m A cap L ts ((W.alloc (.cells (lnC L).toArray 87)).alloc (.cells #[.slice A ts.length cap] 30))
    ⟨by have t := bx_new (W.alloc (.cells (lnC L).toArray 87)) [.slice A ts.length cap] 30; rw [World.size_alloc, hz] at t; exact bx1 t, by rw [← hz]; exact bx_alloc (bx_new W _ _) _, frs_up hF (up_alloc (up_alloc hU _) _)⟩
    (by simp only [World.size_alloc]; omega) (by simp only [World.size_alloc]; omega) (fun b off e => by have := frs_block hF h0 b off e; have := hU.size; simp only [World.size_alloc]; omega) ht hc (lnOk_up hL (up_alloc (up_alloc hU _) _))
    (fun p hp W1 W2 hb => hLp p (fun k hk => by have t1 := hp k hk; have t2 := hU.size; simp only [World.size_alloc] at t1; omega) W1 W2 (Below.trans (up_alloc (up_alloc hU _) _) (Below.mono hb (by have := hU.size; simp only [World.size_alloc]; omega))))
  have HM := hide hM
  have HG := hide hG
  obtain ⟨R, hR⟩ : ∃ R, bsE (efs L ts) = R := ⟨_, rfl⟩
  rw [hR] at HG ⊢
  obtain ⟨n, hn⟩ : ∃ n, ts.length = n := ⟨_, rfl⟩
  rw [hn] at HM HG ⊢
  clear hM hG hF h0 ht hc hL hLp hR hn
  unfold lnV at HM ⊢
  unfold lnC at HM HG
  rcases R with _ | c
  all_goals (unfold beV at HG ⊢)
  · go_enter Try.func51, Try.ntmps51
    go_upto_region 1 with fail
    refine at_wpB (fun W hW => ?_)
    have hb : Bx W (w.heap.size + 1) [.int .i64 0, .int .i64 0, .int .i64 0, .int .i64 0] := by
      rw [hW]
      have t := bx_new (w.alloc (.cells #[.int .i64 L.span, .int .i64 L.po, .int .i64 L.org, .int .i64 L.c0, .int .i64 L.c1, .int .i64 L.c2, .func (.func L.f) #[] L.caps] 87)) [.int .i64 0, .int .i64 0, .int .i64 0, .int .i64 0] 47
      rwa [World.size_alloc] at t
    have hl : Bx W w.heap.size [.int .i64 L.span, .int .i64 L.po, .int .i64 L.org, .int .i64 L.c0, .int .i64 L.c1, .int .i64 L.c2, .func (.func L.f) #[] L.caps] := by rw [hW]; exact bx_alloc (bx_new w _ _) _
    have U : Up w W := by rw [hW]; exact (by repeat' (first | (with_reducible exact up_refl _) | (with_reducible assumption) | (with_reducible refine up_alloc ?_ _) | (with_reducible refine up_drewN ?_ _) | (with_reducible refine up_drew ?_) | (with_reducible refine up_set ?_ (by first | (simp; done) | (simp; omega) | omega) _) | (refine up_trans ?_ (by with_reducible assumption))))
    have hz : W.heap.size = w.heap.size + 2 := by rw [hW]; simp
    clear hW
    have l0 := (hl 0 _ rfl).1
    have l1 := (hl 1 _ rfl).1
    have l2 := (hl 2 _ rfl).1
    have l3 := (hl 3 _ rfl).1
    have l4 := (hl 4 _ rfl).1
    have l5 := (hl 5 _ rfl).1
    have l6 := (hl 6 _ rfl).1
    go_wp2_with (first | (go_at_call 76; (with_reducible refine (unhide HM _).mono ?_); rintro e w1 ⟨rfl, rfl⟩) | (go_at_call 75; (with_reducible refine (unhide HG _ _ hz U).mono ?_); rintro e w2 ⟨rfl, hu⟩; have hb2 := bx_up hb (show Up W w2 from up_trans (up_alloc (up_alloc (up_refl W) _) _) hu); have U2 : Up w w2 := up_trans U (up_trans (up_alloc (up_alloc (up_refl W) _) _) hu); obtain ⟨⟨b0, f0⟩, ⟨b1, f1⟩, ⟨b2, f2⟩, ⟨b3, f3⟩⟩ := bx4 hb2))
    obtain ⟨⟨e0, g0⟩, ⟨e1, g1⟩, ⟨e2, g2⟩, ⟨e3, g3⟩⟩ := bx4 (bx_set4 (v0 := .int .i64 0) (v1 := .int .i64 0) (v2 := .int .i64 0) (v3 := .int .i64 0) hb2)
    have U9 : Up w ((((w2.setCell ⟨w.heap.size + 1, 0, none⟩ (.int .i64 0)).setCell ⟨w.heap.size + 1, 1, none⟩ (.int .i64 0)).setCell ⟨w.heap.size + 1, 2, none⟩ (.int .i64 0)).setCell ⟨w.heap.size + 1, 3, none⟩ (.int .i64 0)) := up_set (up_set (up_set (up_set U2 (by simp only; omega) _) (by simp only; omega) _) (by simp only; omega) _) (by simp only; omega) _
    generalize (((w2.setCell ⟨w.heap.size + 1, 0, none⟩ (.int .i64 0)).setCell ⟨w.heap.size + 1, 1, none⟩ (.int .i64 0)).setCell ⟨w.heap.size + 1, 2, none⟩ (.int .i64 0)).setCell ⟨w.heap.size + 1, 3, none⟩ (.int .i64 0) = W9 at *
    (try simp only [Exit.inBlock, Exit.then])
    refine bodyPost_ret (v := .agg #[.int .i64 0, .int .i64 0, .int .i64 0, .int .i64 0]) (by simp [results, Try.results51, go_sem, e0, e1, e2, e3]) rfl ?_
    exact ⟨rfl, U9⟩
  · go_enter Try.func51, Try.ntmps51
    go_upto_region 1 with fail
    refine at_wpB (fun W hW => ?_)
    have hb : Bx W (w.heap.size + 1) [.int .i64 0, .int .i64 0, .int .i64 0, .int .i64 0] := by
      rw [hW]
      have t := bx_new (w.alloc (.cells #[.int .i64 L.span, .int .i64 L.po, .int .i64 L.org, .int .i64 L.c0, .int .i64 L.c1, .int .i64 L.c2, .func (.func L.f) #[] L.caps] 87)) [.int .i64 0, .int .i64 0, .int .i64 0, .int .i64 0] 47
      rwa [World.size_alloc] at t
    have hl : Bx W w.heap.size [.int .i64 L.span, .int .i64 L.po, .int .i64 L.org, .int .i64 L.c0, .int .i64 L.c1, .int .i64 L.c2, .func (.func L.f) #[] L.caps] := by rw [hW]; exact bx_alloc (bx_new w _ _) _
    have U : Up w W := by rw [hW]; exact (by repeat' (first | (with_reducible exact up_refl _) | (with_reducible assumption) | (with_reducible refine up_alloc ?_ _) | (with_reducible refine up_drewN ?_ _) | (with_reducible refine up_drew ?_) | (with_reducible refine up_set ?_ (by first | (simp; done) | (simp; omega) | omega) _) | (refine up_trans ?_ (by with_reducible assumption))))
    have hz : W.heap.size = w.heap.size + 2 := by rw [hW]; simp
    clear hW
    have l0 := (hl 0 _ rfl).1
    have l1 := (hl 1 _ rfl).1
    have l2 := (hl 2 _ rfl).1
    have l3 := (hl 3 _ rfl).1
    have l4 := (hl 4 _ rfl).1
    have l5 := (hl 5 _ rfl).1
    have l6 := (hl 6 _ rfl).1
    go_wp2_with (first | (go_at_call 76; (with_reducible refine (unhide HM _).mono ?_); rintro e w1 ⟨rfl, rfl⟩) | (go_at_call 75; (with_reducible refine (unhide HG _ _ hz U).mono ?_); rintro e w2 ⟨rfl, hu⟩; have hb2 := bx_up hb (show Up W w2 from up_trans (up_alloc (up_alloc (up_refl W) _) _) hu); have U2 : Up w w2 := up_trans U (up_trans (up_alloc (up_alloc (up_refl W) _) _) hu); obtain ⟨⟨b0, f0⟩, ⟨b1, f1⟩, ⟨b2, f2⟩, ⟨b3, f3⟩⟩ := bx4 hb2))
    obtain ⟨⟨e0, g0⟩, ⟨e1, g1⟩, ⟨e2, g2⟩, ⟨e3, g3⟩⟩ := bx4 (bx_set4 (v0 := .int .i64 c.1) (v1 := .int .i64 L.span) (v2 := .int .i64 L.po) (v3 := .int .i64 c.2) hb2)
    have U9 : Up w ((((w2.setCell ⟨w.heap.size + 1, 0, none⟩ (.int .i64 c.1)).setCell ⟨w.heap.size + 1, 1, none⟩ (.int .i64 L.span)).setCell ⟨w.heap.size + 1, 2, none⟩ (.int .i64 L.po)).setCell ⟨w.heap.size + 1, 3, none⟩ (.int .i64 c.2)) := up_set (up_set (up_set (up_set U2 (by simp only; omega) _) (by simp only; omega) _) (by simp only; omega) _) (by simp only; omega) _
    generalize (((w2.setCell ⟨w.heap.size + 1, 0, none⟩ (.int .i64 c.1)).setCell ⟨w.heap.size + 1, 1, none⟩ (.int .i64 L.span)).setCell ⟨w.heap.size + 1, 2, none⟩ (.int .i64 L.po)).setCell ⟨w.heap.size + 1, 3, none⟩ (.int .i64 c.2) = W9 at *
    (try simp only [Exit.inBlock, Exit.then])
    refine bodyPost_ret (v := .agg #[.int .i64 c.1, .int .i64 L.span, .int .i64 L.po, .int .i64 c.2]) (by simp [results, Try.results51, go_sem, e0, e1, e2, e3]) rfl ?_
    exact ⟨rfl, U9⟩
end Go.Proofs.Ytdignnmhiifpgaa
