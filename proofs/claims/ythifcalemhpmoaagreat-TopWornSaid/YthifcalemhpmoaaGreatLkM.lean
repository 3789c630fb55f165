/- A pose whose points are computed. -/
import Derived.Test.YthifcalemhpmoaaGreatLkI
namespace Go.Proofs.YthifcalemhpmoaaGreat
open Go.RowKit Go.Proofs.Gn
attribute [local go_sem] Oper.semAt_some
set_option linter.unusedVariables false
set_option maxRecDepth 100000 in
set_option maxHeartbeats 8000000 in
theorem p_made (nm fr tt : Value) (Au : Option Addr) (us : List Unt) (cu : Nat) (lx ly : Int) (Aa : Option Addr) (qs : Pl) (ca : Nat) (w : World)
    (hU : us = [] ∨ ∃ b off, Au = some ⟨b, off, none⟩ ∧ ∀ k (h : k < us.length), UntC w b (off + k * 11) us[k]) (hQ : Pts w Aa qs) (hu : ∀ u ∈ us, okU u = true) (hn : us.length ≤ 9223372036854775807) (hq : qs.length ≤ 9223372036854775807)
    (hAu : ∀ b off, Au = some ⟨b, off, none⟩ → b < w.heap.size) (hAa : ∀ b off, Aa = some ⟨b, off, none⟩ → b < w.heap.size) :
    Calls Tryz.prog 47 #[.agg #[nm, .slice Au us.length cu, fr, tt], .agg #[.int .i64 lx, .int .i64 ly, .slice Aa qs.length ca]] w fun e w' => e = .returned (.tuple #[if posOk us lx ly qs = true then .agg #[.int .i64 lx, .int .i64 ly, .slice Aa qs.length ca] else .agg #[.int .i64 0, .int .i64 0, .slice none 0 0], .int .i64 (if posOk us lx ly qs = true then 0 else 9)]) ∧ Up w w' := by
  have H := hide (fun (W : World) (hW : Up w W) => p_isValid nm fr tt Au us cu lx ly Aa qs ca W (by
      rcases hU with h0 | ⟨b, off, e, hc⟩
      · exact .inl h0
      · refine .inr ⟨b, off, e, fun k hk => ?_⟩
        obtain ⟨h0, h1, h2, h3, h4, h5, h6, h7, h8, h9, h10⟩ := hc k hk
        exact ⟨up_cell hW h0, up_cell hW h1, up_cell hW h2, up_cell hW h3, up_cell hW h4, up_cell hW h5, up_cell hW h6, up_cell hW h7, up_cell hW h8, up_cell hW h9, up_cell hW h10⟩) (pts_up hQ hW) hu hn hq (fun b off e => Nat.lt_of_lt_of_le (hAu b off e) hW.size) (fun b off e => Nat.lt_of_lt_of_le (hAa b off e) hW.size))
  obtain ⟨bv, hbv⟩ : ∃ bv, posOk us lx ly qs = bv := ⟨_, rfl⟩
  rw [hbv] at H ⊢
  clear hbv hU hQ hu hAu hAa
  generalize us.length = N at *
  obtain ⟨M, hM⟩ : ∃ M, qs.length = M := ⟨_, rfl⟩
  rw [hM] at H hq ⊢
  clear hM
  go_enter Tryz.func47, Tryz.ntmps47
  go_upto_region 1 with fail
  refine at_wpC (fun W hW => ?_)
  have U : Up w W := by rw [hW]; exact (by repeat' (first | (with_reducible exact up_refl _) | (with_reducible assumption) | (with_reducible refine up_alloc ?_ _) | (with_reducible refine up_drewN ?_ _) | (with_reducible refine up_drew ?_) | (with_reducible refine up_set ?_ (by first | (simp; done) | (simp; omega) | omega) _) | (refine up_trans ?_ (by with_reducible assumption))))
  obtain ⟨b1, b2, b3⟩ : Bx W w.heap.size [nm, .slice Au N cu, fr, tt] ∧ Bx W (w.heap.size + 1) [.int .i64 lx, .int .i64 ly, .slice Aa M ca] ∧ Bx W (w.heap.size + 1 + 1) [.int .i64 0, .int .i64 0, .slice none 0 0] := by
    rw [hW]
    refine ⟨bx_alloc (bx_alloc (bx_new w _ _) _) _, ?_, ?_⟩
    · have t := bx_new (w.alloc (.cells #[nm, .slice Au N cu, fr, tt] 70)) [.int .i64 lx, .int .i64 ly, .slice Aa M ca] 65
      rw [World.size_alloc] at t
      exact bx_alloc t _
    · have t := bx_new ((w.alloc (.cells #[nm, .slice Au N cu, fr, tt] 70)).alloc (.cells #[.int .i64 lx, .int .i64 ly, .slice Aa M ca] 65)) [.int .i64 0, .int .i64 0, .slice none 0 0] 65
      rw [World.size_alloc, World.size_alloc] at t
      exact t
  clear hW
  have c0 := (b1 0 _ rfl).1
  have c1 := (b1 1 _ rfl).1
  have c2 := (b1 2 _ rfl).1
  have c3 := (b1 3 _ rfl).1
  have d0 := (b2 0 _ rfl).1
  have d1 := (b2 1 _ rfl).1
  have d2 := (b2 2 _ rfl).1
  cases bv with
  | false =>
    go_wp2_with (go_at_call 85; (with_reducible refine (unhide H _ U).mono ?_); rintro e w1 ⟨rfl, hu1⟩; have q3 := bx_up b3 hu1; have a0 := (q3 0 _ rfl).1; have f0 := (q3 0 _ rfl).2; have a1 := (q3 1 _ rfl).1; have f1 := (q3 1 _ rfl).2; have a2 := (q3 2 _ rfl).1; have f2 := (q3 2 _ rfl).2)
    have B9 := bx_set3 q3 (v0 := .int .i64 0) (v1 := .int .i64 0) (v2 := .slice none 0 0)
    have U9 : Up w (((w1.setCell ⟨w.heap.size + 1 + 1, 0, none⟩ (.int .i64 0)).setCell ⟨w.heap.size + 1 + 1, 1, none⟩ (.int .i64 0)).setCell ⟨w.heap.size + 1 + 1, 2, none⟩ (.slice none 0 0)) := up_set (up_set (up_set (up_trans U hu1) (by simp only; omega) _) (by simp only; omega) _) (by simp only; omega) _
    generalize ((w1.setCell ⟨w.heap.size + 1 + 1, 0, none⟩ (.int .i64 0)).setCell ⟨w.heap.size + 1 + 1, 1, none⟩ (.int .i64 0)).setCell ⟨w.heap.size + 1 + 1, 2, none⟩ (.slice none 0 0) = W9 at *
    obtain ⟨z0, z1, z2⟩ := bx3 B9
    (try simp only [Exit.inBlock, Exit.then])
    refine bodyPost_ret (v := .tuple #[.agg #[.int .i64 0, .int .i64 0, .slice none 0 0], .int .i64 9]) (by simp [results, Tryz.results47, go_sem, z0, z1, z2]) rfl ?_
    exact ⟨rfl, U9⟩
  | true =>
    go_wp2_with (go_at_call 85; (with_reducible refine (unhide H _ U).mono ?_); rintro e w1 ⟨rfl, hu1⟩; have q2 := bx_up b2 hu1; have q3 := bx_up b3 hu1; have e0 := (q2 0 _ rfl).1; have e1 := (q2 1 _ rfl).1; have e2 := (q2 2 _ rfl).1; have a0 := (q3 0 _ rfl).1; have f0 := (q3 0 _ rfl).2; have a1 := (q3 1 _ rfl).1; have f1 := (q3 1 _ rfl).2; have a2 := (q3 2 _ rfl).1; have f2 := (q3 2 _ rfl).2)
    have B9 := bx_set3 q3 (v0 := .int .i64 lx) (v1 := .int .i64 ly) (v2 := .slice Aa M ca)
    have U9 : Up w (((w1.setCell ⟨w.heap.size + 1 + 1, 0, none⟩ (.int .i64 lx)).setCell ⟨w.heap.size + 1 + 1, 1, none⟩ (.int .i64 ly)).setCell ⟨w.heap.size + 1 + 1, 2, none⟩ (.slice Aa M ca)) := up_set (up_set (up_set (up_trans U hu1) (by simp only; omega) _) (by simp only; omega) _) (by simp only; omega) _
    generalize ((w1.setCell ⟨w.heap.size + 1 + 1, 0, none⟩ (.int .i64 lx)).setCell ⟨w.heap.size + 1 + 1, 1, none⟩ (.int .i64 ly)).setCell ⟨w.heap.size + 1 + 1, 2, none⟩ (.slice Aa M ca) = W9 at *
    obtain ⟨z0, z1, z2⟩ := bx3 B9
    (try simp only [Exit.inBlock, Exit.then])
    refine bodyPost_ret (v := .tuple #[.agg #[.int .i64 lx, .int .i64 ly, .slice Aa M ca], .int .i64 0]) (by simp [results, Tryz.results47, go_sem, z0, z1, z2]) rfl ?_
    exact ⟨rfl, U9⟩
end Go.Proofs.YthifcalemhpmoaaGreat
