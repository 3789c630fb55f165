/- A platform that is laid on the ground. -/
import Derived.Test.YtgjcpgmnflpdkaaGrM
import Derived.Test.YtgjcpgmnflpdkaaUpQ
namespace Go.Proofs.Ytgjcpgmnflpdkaa
open Go.RowKit Go.Proofs.Gn
def flB (f0 f1 f2 : Int) : Bool := win f0 0 196608 && (win f1 0 196608 && win f2 0 196608)
def laE (ps : List Gs.Sup) (gs : List Int) (f0 f1 f2 : Int) : Int := if chE ps = 0 then (if gs.length = ps.length then (if flB f0 f1 f2 then (if gsB gs then 0 else 3) else 3) else 17) else chE ps
def laV (ps : List Gs.Sup) (gs : List Int) (f0 f1 f2 v : Int) : Int := if laE ps gs f0 f1 f2 = 0 then v else 0
theorem la_cases (ps : List Gs.Sup) (gs : List Int) (f0 f1 f2 : Int) :
    (¬ chE ps = 0 ∧ laE ps gs f0 f1 f2 = chE ps) ∨ (chE ps = 0 ∧ ¬ gs.length = ps.length ∧ laE ps gs f0 f1 f2 = 17) ∨
    (chE ps = 0 ∧ gs.length = ps.length ∧ flB f0 f1 f2 = false ∧ laE ps gs f0 f1 f2 = 3) ∨
    (chE ps = 0 ∧ gs.length = ps.length ∧ flB f0 f1 f2 = true ∧ (gsB gs = false → laE ps gs f0 f1 f2 = 3) ∧ (gsB gs = true → laE ps gs f0 f1 f2 = 0)) := by
  unfold laE
  by_cases c : chE ps = 0
  · rw [if_pos c]
    by_cases l : gs.length = ps.length
    · rw [if_pos l]
      cases hf : flB f0 f1 f2
      · exact .inr (.inr (.inl ⟨c, l, rfl, rfl⟩))
      · exact .inr (.inr (.inr ⟨c, l, rfl, fun h => by rw [h]; rfl, fun h => by rw [h]; rfl⟩))
    · rw [if_neg l]
      exact .inr (.inl ⟨c, l, rfl⟩)
  · rw [if_neg c]
    exact .inl ⟨c, rfl⟩
set_option maxRecDepth 100000 in
set_option maxHeartbeats 40000000 in
theorem p_laid (A : Option Addr) (ps : List Gs.Sup) (cap : Nat) (B : Option Addr) (gs : List Int) (capg : Nat) (f0 f1 f2 : Int) (hn : ps.length ≤ 9223372036854775807) (hng : gs.length ≤ 9223372036854775807) (w : World) (h : Sups w A ps) (hg : Ints w B gs) :
    Calls Try.prog 73 #[.slice A ps.length cap, .agg #[.int .i64 f0, .int .i64 f1, .int .i64 f2], .slice B gs.length capg] w fun e w' => e = .returned (.tuple #[.agg #[.int .i64 (laV ps gs f0 f1 f2 (Gs.cN 0 ps)), .int .i64 (laV ps gs f0 f1 f2 (Gs.cX 0 ps)), .int .i64 (laV ps gs f0 f1 f2 (Gs.cY 0 ps)), .int .i64 (laV ps gs f0 f1 f2 (Gs.cN 1 ps)), .int .i64 (laV ps gs f0 f1 f2 (Gs.cX 1 ps)), .int .i64 (laV ps gs f0 f1 f2 (Gs.cY 1 ps)), .int .i64 (laV ps gs f0 f1 f2 (Gs.cN 2 ps)), .int .i64 (laV ps gs f0 f1 f2 (Gs.cX 2 ps)), .int .i64 (laV ps gs f0 f1 f2 (Gs.cY 2 ps)), .int .i64 (laV ps gs f0 f1 f2 (f0 + gk 0 ps gs ps.length)), .int .i64 (laV ps gs f0 f1 f2 (f1 + gk 1 ps gs ps.length)), .int .i64 (laV ps gs f0 f1 f2 (f2 + gk 2 ps gs ps.length))], .int .i64 (laE ps gs f0 f1 f2)]) ∧ Up w w' := by
  obtain ⟨Q, hQ⟩ : ∃ Q : Ending → World → Prop, (fun e w' => e = .returned (.tuple #[.agg #[.int .i64 (laV ps gs f0 f1 f2 (Gs.cN 0 ps)), .int .i64 (laV ps gs f0 f1 f2 (Gs.cX 0 ps)), .int .i64 (laV ps gs f0 f1 f2 (Gs.cY 0 ps)), .int .i64 (laV ps gs f0 f1 f2 (Gs.cN 1 ps)), .int .i64 (laV ps gs f0 f1 f2 (Gs.cX 1 ps)), .int .i64 (laV ps gs f0 f1 f2 (Gs.cY 1 ps)), .int .i64 (laV ps gs f0 f1 f2 (Gs.cN 2 ps)), .int .i64 (laV ps gs f0 f1 f2 (Gs.cX 2 ps)), .int .i64 (laV ps gs f0 f1 f2 (Gs.cY 2 ps)), .int .i64 (laV ps gs f0 f1 f2 (f0 + gk 0 ps gs ps.length)), .int .i64 (laV ps gs f0 f1 f2 (f1 + gk 1 ps gs ps.length)), .int .i64 (laV ps gs f0 f1 f2 (f2 + gk 2 ps gs ps.length))], .int .i64 (laE ps gs f0 f1 f2)]) ∧ Up w w') = Q := ⟨_, rfl⟩
  rw [hQ]
  have qa := hide (fun (hne : ¬ laE ps gs f0 f1 f2 = 0) (w' : World) (hu : Up w w') => (by rw [← hQ]; unfold laV; simp only [if_neg hne]; exact ⟨by first | trivial | rfl, hu⟩ : Q (.returned (.tuple #[.agg #[.int .i64 0, .int .i64 0, .int .i64 0, .int .i64 0, .int .i64 0, .int .i64 0, .int .i64 0, .int .i64 0, .int .i64 0, .int .i64 0, .int .i64 0, .int .i64 0], .int .i64 (laE ps gs f0 f1 f2)])) w'))
  have qb := hide (fun (he : laE ps gs f0 f1 f2 = 0) (w' : World) (hu : Up w w') => (by rw [← hQ]; unfold laV; simp only [if_pos he, he]; exact ⟨by first | trivial | rfl, hu⟩ : Q (.returned (.tuple #[.agg #[.int .i64 (Gs.cN 0 ps), .int .i64 (Gs.cX 0 ps), .int .i64 (Gs.cY 0 ps), .int .i64 (Gs.cN 1 ps), .int .i64 (Gs.cX 1 ps), .int .i64 (Gs.cY 1 ps), .int .i64 (Gs.cN 2 ps), .int .i64 (Gs.cX 2 ps), .int .i64 (Gs.cY 2 ps), .int .i64 (f0 + gk 0 ps gs ps.length), .int .i64 (f1 + gk 1 ps gs ps.length), .int .i64 (f2 + gk 2 ps gs ps.length)], .int .i64 0])) w'))
  clear hQ
  have hC := hide (fun (W : World) (hW : Up w W) => p_Check A ps cap W (sups_up h hW) hn)
  have hS := hide (fun (e : chE ps = 0) (W : World) (hW : Up w W) => p_sums9 A ps cap (chE_ok e).1 (chE_ok e).2.1 W (sups_up h hW))
  have hcs := la_cases ps gs f0 f1 f2
  generalize hE : laE ps gs f0 f1 f2 = E at *
  clear hE
  have HF0 := hide (fun W => p_within f0 0 196608 W)
  have HF1 := hide (fun W => p_within f1 0 196608 W)
  have HF2 := hide (fun W => p_within f2 0 196608 W)
  rcases hcs with ⟨c1, rfl⟩ | ⟨c0, cl, rfl⟩ | ⟨c0, cl, cf, rfl⟩ | ⟨c0, cl, cf, ce0, ce1⟩
  · have c2 : (chE ps == 0) = false := by simp; exact c1
    obtain ⟨n, hN⟩ : ∃ n, ps.length = n := ⟨_, rfl⟩
    have qa2 := hide (unhide qa c1)
    clear h hg hS qa qb HF0 HF1 HF2
    rw [hN] at hC ⊢
    clear hN
    go_enter Try.func73, Try.ntmps73
    go_upto_region 1 with fail
    refine at_wp (fun W0 hW0 => ?_)
    have U0 : Up w W0 := by rw [hW0]; exact (by repeat' (first | (with_reducible exact up_refl _) | (with_reducible assumption) | (with_reducible refine up_alloc ?_ _) | (with_reducible refine up_drewN ?_ _) | (with_reducible refine up_drew ?_) | (with_reducible refine up_set ?_ (by first | (simp; done) | (simp; omega) | omega) _) | (refine up_trans ?_ (by with_reducible assumption))))
    have F0 : Bx W0 w.heap.size [.int .i64 f0, .int .i64 f1, .int .i64 f2] := by rw [hW0]; exact bx_alloc (bx_new w _ 30) _
    have R0 : Bx W0 (w.heap.size + 1) [.int .i64 0, .int .i64 0, .int .i64 0, .int .i64 0, .int .i64 0, .int .i64 0, .int .i64 0, .int .i64 0, .int .i64 0, .int .i64 0, .int .i64 0, .int .i64 0] := by
      rw [hW0]
      have t := bx_new (w.alloc (.cells #[.int .i64 f0, .int .i64 f1, .int .i64 f2] 30)) [.int .i64 0, .int .i64 0, .int .i64 0, .int .i64 0, .int .i64 0, .int .i64 0, .int .i64 0, .int .i64 0, .int .i64 0, .int .i64 0, .int .i64 0, .int .i64 0] 100
      rwa [sz1] at t
    clear hW0
    go_upto_region 2 with (go_at_call 25; (with_reducible refine (unhide hC _ (by repeat' (first | (with_reducible exact up_refl _) | (with_reducible assumption) | (with_reducible refine up_alloc ?_ _) | (with_reducible refine up_drewN ?_ _) | (with_reducible refine up_drew ?_) | (with_reducible refine up_set ?_ (by first | (simp; done) | (simp; omega) | omega) _) | (refine up_trans ?_ (by with_reducible assumption))))).mono ?_); rintro e w1 ⟨rfl, hb1⟩)
    have F1 := bx_up F0 hb1
    have R1 := bx_up R0 hb1
    have U1 := up_trans U0 hb1
    clear F0 R0 U0 hb1 hC
    obtain ⟨x0, x1, x2⟩ := bx3 F1
    have r0 := (R1 0 _ rfl).1
    have g0 := (R1 0 _ rfl).2
    have r1 := (R1 1 _ rfl).1
    have g1 := (R1 1 _ rfl).2
    have r2 := (R1 2 _ rfl).1
    have g2 := (R1 2 _ rfl).2
    have r3 := (R1 3 _ rfl).1
    have g3 := (R1 3 _ rfl).2
    have r4 := (R1 4 _ rfl).1
    have g4 := (R1 4 _ rfl).2
    have r5 := (R1 5 _ rfl).1
    have g5 := (R1 5 _ rfl).2
    have r6 := (R1 6 _ rfl).1
    have g6 := (R1 6 _ rfl).2
    have r7 := (R1 7 _ rfl).1
    have g7 := (R1 7 _ rfl).2
    have r8 := (R1 8 _ rfl).1
    have g8 := (R1 8 _ rfl).2
    have r9 := (R1 9 _ rfl).1
    have g9 := (R1 9 _ rfl).2
    have r10 := (R1 10 _ rfl).1
    have g10 := (R1 10 _ rfl).2
    have r11 := (R1 11 _ rfl).1
    have g11 := (R1 11 _ rfl).2
    go_wp2_with fail
    obtain ⟨W9, hW9⟩ : ∃ W9 : World, W9 = ((((((((((((w1.setCell ⟨w.heap.size + 1, 0, none⟩ (.int .i64 0)).setCell ⟨w.heap.size + 1, 1, none⟩ (.int .i64 0)).setCell ⟨w.heap.size + 1, 2, none⟩ (.int .i64 0)).setCell ⟨w.heap.size + 1, 3, none⟩ (.int .i64 0)).setCell ⟨w.heap.size + 1, 4, none⟩ (.int .i64 0)).setCell ⟨w.heap.size + 1, 5, none⟩ (.int .i64 0)).setCell ⟨w.heap.size + 1, 6, none⟩ (.int .i64 0)).setCell ⟨w.heap.size + 1, 7, none⟩ (.int .i64 0)).setCell ⟨w.heap.size + 1, 8, none⟩ (.int .i64 0)).setCell ⟨w.heap.size + 1, 9, none⟩ (.int .i64 0)).setCell ⟨w.heap.size + 1, 10, none⟩ (.int .i64 0)).setCell ⟨w.heap.size + 1, 11, none⟩ (.int .i64 0)) := ⟨_, rfl⟩
    rw [← hW9]
    have B9 : Bx W9 (w.heap.size + 1) [.int .i64 0, .int .i64 0, .int .i64 0, .int .i64 0, .int .i64 0, .int .i64 0, .int .i64 0, .int .i64 0, .int .i64 0, .int .i64 0, .int .i64 0, .int .i64 0] := by rw [hW9]; exact (bx_set (bx_set (bx_set (bx_set (bx_set (bx_set (bx_set (bx_set (bx_set (bx_set (bx_set (bx_set R1 0 _) 1 _) 2 _) 3 _) 4 _) 5 _) 6 _) 7 _) 8 _) 9 _) 10 _) 11 _)
    have U9 : Up w W9 := by rw [hW9]; exact (by repeat' (first | (with_reducible exact up_refl _) | (with_reducible assumption) | (with_reducible refine up_alloc ?_ _) | (with_reducible refine up_drewN ?_ _) | (with_reducible refine up_drew ?_) | (with_reducible refine up_set ?_ (by first | (simp; done) | (simp; omega) | omega) _) | (refine up_trans ?_ (by with_reducible assumption))))
    clear hW9
    have p0 := (B9 0 _ rfl).1
    have p1 := (B9 1 _ rfl).1
    have p2 := (B9 2 _ rfl).1
    have p3 := (B9 3 _ rfl).1
    have p4 := (B9 4 _ rfl).1
    have p5 := (B9 5 _ rfl).1
    have p6 := (B9 6 _ rfl).1
    have p7 := (B9 7 _ rfl).1
    have p8 := (B9 8 _ rfl).1
    have p9 := (B9 9 _ rfl).1
    have p10 := (B9 10 _ rfl).1
    have p11 := (B9 11 _ rfl).1
    refine bodyPost_ret (v := .tuple #[.agg #[.int .i64 0, .int .i64 0, .int .i64 0, .int .i64 0, .int .i64 0, .int .i64 0, .int .i64 0, .int .i64 0, .int .i64 0, .int .i64 0, .int .i64 0, .int .i64 0], .int .i64 (chE ps)]) ?_ rfl (unhide qa2 _ U9)
    simp [results, Try.results73, go_sem, p0, p1, p2, p3, p4, p5, p6, p7, p8, p9, p10, p11]
  · rw [c0] at hC
    have qa2 := hide (unhide qa (by omega))
    obtain ⟨n, hN⟩ : ∃ n, ps.length = n := ⟨_, rfl⟩
    obtain ⟨m, hM⟩ : ∃ m, gs.length = m := ⟨_, rfl⟩
    clear h hg hS qa qb HF0 HF1 HF2 c0
    rw [hN] at hC cl hn ⊢
    rw [hM] at cl hng ⊢
    clear hN hM
    have c2 : ((m : Int) == (n : Int)) = false := by simp; omega
    have c3 : ¬ (m : Int) = (n : Int) := by omega
    go_enter Try.func73, Try.ntmps73
    go_upto_region 1 with fail
    refine at_wp (fun W0 hW0 => ?_)
    have U0 : Up w W0 := by rw [hW0]; exact (by repeat' (first | (with_reducible exact up_refl _) | (with_reducible assumption) | (with_reducible refine up_alloc ?_ _) | (with_reducible refine up_drewN ?_ _) | (with_reducible refine up_drew ?_) | (with_reducible refine up_set ?_ (by first | (simp; done) | (simp; omega) | omega) _) | (refine up_trans ?_ (by with_reducible assumption))))
    have F0 : Bx W0 w.heap.size [.int .i64 f0, .int .i64 f1, .int .i64 f2] := by rw [hW0]; exact bx_alloc (bx_new w _ 30) _
    have R0 : Bx W0 (w.heap.size + 1) [.int .i64 0, .int .i64 0, .int .i64 0, .int .i64 0, .int .i64 0, .int .i64 0, .int .i64 0, .int .i64 0, .int .i64 0, .int .i64 0, .int .i64 0, .int .i64 0] := by
      rw [hW0]
      have t := bx_new (w.alloc (.cells #[.int .i64 f0, .int .i64 f1, .int .i64 f2] 30)) [.int .i64 0, .int .i64 0, .int .i64 0, .int .i64 0, .int .i64 0, .int .i64 0, .int .i64 0, .int .i64 0, .int .i64 0, .int .i64 0, .int .i64 0, .int .i64 0] 100
      rwa [sz1] at t
    clear hW0
    go_upto_region 2 with (go_at_call 25; (with_reducible refine (unhide hC _ (by repeat' (first | (with_reducible exact up_refl _) | (with_reducible assumption) | (with_reducible refine up_alloc ?_ _) | (with_reducible refine up_drewN ?_ _) | (with_reducible refine up_drew ?_) | (with_reducible refine up_set ?_ (by first | (simp; done) | (simp; omega) | omega) _) | (refine up_trans ?_ (by with_reducible assumption))))).mono ?_); rintro e w1 ⟨rfl, hb1⟩)
    have F1 := bx_up F0 hb1
    have R1 := bx_up R0 hb1
    have U1 := up_trans U0 hb1
    clear F0 R0 U0 hb1 hC
    obtain ⟨x0, x1, x2⟩ := bx3 F1
    have r0 := (R1 0 _ rfl).1
    have g0 := (R1 0 _ rfl).2
    have r1 := (R1 1 _ rfl).1
    have g1 := (R1 1 _ rfl).2
    have r2 := (R1 2 _ rfl).1
    have g2 := (R1 2 _ rfl).2
    have r3 := (R1 3 _ rfl).1
    have g3 := (R1 3 _ rfl).2
    have r4 := (R1 4 _ rfl).1
    have g4 := (R1 4 _ rfl).2
    have r5 := (R1 5 _ rfl).1
    have g5 := (R1 5 _ rfl).2
    have r6 := (R1 6 _ rfl).1
    have g6 := (R1 6 _ rfl).2
    have r7 := (R1 7 _ rfl).1
    have g7 := (R1 7 _ rfl).2
    have r8 := (R1 8 _ rfl).1
    have g8 := (R1 8 _ rfl).2
    have r9 := (R1 9 _ rfl).1
    have g9 := (R1 9 _ rfl).2
    have r10 := (R1 10 _ rfl).1
    have g10 := (R1 10 _ rfl).2
    have r11 := (R1 11 _ rfl).1
    have g11 := (R1 11 _ rfl).2
    go_wp2_with fail
    obtain ⟨W9, hW9⟩ : ∃ W9 : World, W9 = ((((((((((((w1.setCell ⟨w.heap.size + 1, 0, none⟩ (.int .i64 0)).setCell ⟨w.heap.size + 1, 1, none⟩ (.int .i64 0)).setCell ⟨w.heap.size + 1, 2, none⟩ (.int .i64 0)).setCell ⟨w.heap.size + 1, 3, none⟩ (.int .i64 0)).setCell ⟨w.heap.size + 1, 4, none⟩ (.int .i64 0)).setCell ⟨w.heap.size + 1, 5, none⟩ (.int .i64 0)).setCell ⟨w.heap.size + 1, 6, none⟩ (.int .i64 0)).setCell ⟨w.heap.size + 1, 7, none⟩ (.int .i64 0)).setCell ⟨w.heap.size + 1, 8, none⟩ (.int .i64 0)).setCell ⟨w.heap.size + 1, 9, none⟩ (.int .i64 0)).setCell ⟨w.heap.size + 1, 10, none⟩ (.int .i64 0)).setCell ⟨w.heap.size + 1, 11, none⟩ (.int .i64 0)) := ⟨_, rfl⟩
    rw [← hW9]
    have B9 : Bx W9 (w.heap.size + 1) [.int .i64 0, .int .i64 0, .int .i64 0, .int .i64 0, .int .i64 0, .int .i64 0, .int .i64 0, .int .i64 0, .int .i64 0, .int .i64 0, .int .i64 0, .int .i64 0] := by rw [hW9]; exact (bx_set (bx_set (bx_set (bx_set (bx_set (bx_set (bx_set (bx_set (bx_set (bx_set (bx_set (bx_set R1 0 _) 1 _) 2 _) 3 _) 4 _) 5 _) 6 _) 7 _) 8 _) 9 _) 10 _) 11 _)
    have U9 : Up w W9 := by rw [hW9]; exact (by repeat' (first | (with_reducible exact up_refl _) | (with_reducible assumption) | (with_reducible refine up_alloc ?_ _) | (with_reducible refine up_drewN ?_ _) | (with_reducible refine up_drew ?_) | (with_reducible refine up_set ?_ (by first | (simp; done) | (simp; omega) | omega) _) | (refine up_trans ?_ (by with_reducible assumption))))
    clear hW9
    have p0 := (B9 0 _ rfl).1
    have p1 := (B9 1 _ rfl).1
    have p2 := (B9 2 _ rfl).1
    have p3 := (B9 3 _ rfl).1
    have p4 := (B9 4 _ rfl).1
    have p5 := (B9 5 _ rfl).1
    have p6 := (B9 6 _ rfl).1
    have p7 := (B9 7 _ rfl).1
    have p8 := (B9 8 _ rfl).1
    have p9 := (B9 9 _ rfl).1
    have p10 := (B9 10 _ rfl).1
    have p11 := (B9 11 _ rfl).1
    refine bodyPost_ret (v := .tuple #[.agg #[.int .i64 0, .int .i64 0, .int .i64 0, .int .i64 0, .int .i64 0, .int .i64 0, .int .i64 0, .int .i64 0, .int .i64 0, .int .i64 0, .int .i64 0, .int .i64 0], .int .i64 17]) ?_ rfl (unhide qa2 _ U9)
    simp [results, Try.results73, go_sem, p0, p1, p2, p3, p4, p5, p6, p7, p8, p9, p10, p11]
  · have qa2 := hide (unhide qa (by omega))
    rw [c0] at hC
    obtain ⟨n, hN⟩ : ∃ n, ps.length = n := ⟨_, rfl⟩
    clear h hg hS qa qb c0
    rw [cl]
    rw [hN] at hC hn ⊢
    clear hN cl hng
    unfold flB at cf
    change Hid (∀ W : World, Calls Try.prog 45 #[.int .i64 f0, .int .i64 0, .int .i64 196608] W fun e w' => e = .returned (.bool (win f0 0 196608)) ∧ W = w') at HF0
    change Hid (∀ W : World, Calls Try.prog 45 #[.int .i64 f1, .int .i64 0, .int .i64 196608] W fun e w' => e = .returned (.bool (win f1 0 196608)) ∧ W = w') at HF1
    change Hid (∀ W : World, Calls Try.prog 45 #[.int .i64 f2, .int .i64 0, .int .i64 196608] W fun e w' => e = .returned (.bool (win f2 0 196608)) ∧ W = w') at HF2
    generalize win f0 0 196608 = d0 at *
    generalize win f1 0 196608 = d1 at *
    generalize win f2 0 196608 = d2 at *
    cases d0
    · clear HF1 HF2 cf
      go_enter Try.func73, Try.ntmps73
      go_upto_region 1 with fail
      refine at_wp (fun W0 hW0 => ?_)
      have U0 : Up w W0 := by rw [hW0]; exact (by repeat' (first | (with_reducible exact up_refl _) | (with_reducible assumption) | (with_reducible refine up_alloc ?_ _) | (with_reducible refine up_drewN ?_ _) | (with_reducible refine up_drew ?_) | (with_reducible refine up_set ?_ (by first | (simp; done) | (simp; omega) | omega) _) | (refine up_trans ?_ (by with_reducible assumption))))
      have F0 : Bx W0 w.heap.size [.int .i64 f0, .int .i64 f1, .int .i64 f2] := by rw [hW0]; exact bx_alloc (bx_new w _ 30) _
      have R0 : Bx W0 (w.heap.size + 1) [.int .i64 0, .int .i64 0, .int .i64 0, .int .i64 0, .int .i64 0, .int .i64 0, .int .i64 0, .int .i64 0, .int .i64 0, .int .i64 0, .int .i64 0, .int .i64 0] := by
        rw [hW0]
        have t := bx_new (w.alloc (.cells #[.int .i64 f0, .int .i64 f1, .int .i64 f2] 30)) [.int .i64 0, .int .i64 0, .int .i64 0, .int .i64 0, .int .i64 0, .int .i64 0, .int .i64 0, .int .i64 0, .int .i64 0, .int .i64 0, .int .i64 0, .int .i64 0] 100
        rwa [sz1] at t
      clear hW0
      go_upto_region 2 with (go_at_call 25; (with_reducible refine (unhide hC _ (by repeat' (first | (with_reducible exact up_refl _) | (with_reducible assumption) | (with_reducible refine up_alloc ?_ _) | (with_reducible refine up_drewN ?_ _) | (with_reducible refine up_drew ?_) | (with_reducible refine up_set ?_ (by first | (simp; done) | (simp; omega) | omega) _) | (refine up_trans ?_ (by with_reducible assumption))))).mono ?_); rintro e w1 ⟨rfl, hb1⟩)
      have F1 := bx_up F0 hb1
      have R1 := bx_up R0 hb1
      have U1 := up_trans U0 hb1
      clear F0 R0 U0 hb1 hC
      obtain ⟨x0, x1, x2⟩ := bx3 F1
      have r0 := (R1 0 _ rfl).1
      have g0 := (R1 0 _ rfl).2
      have r1 := (R1 1 _ rfl).1
      have g1 := (R1 1 _ rfl).2
      have r2 := (R1 2 _ rfl).1
      have g2 := (R1 2 _ rfl).2
      have r3 := (R1 3 _ rfl).1
      have g3 := (R1 3 _ rfl).2
      have r4 := (R1 4 _ rfl).1
      have g4 := (R1 4 _ rfl).2
      have r5 := (R1 5 _ rfl).1
      have g5 := (R1 5 _ rfl).2
      have r6 := (R1 6 _ rfl).1
      have g6 := (R1 6 _ rfl).2
      have r7 := (R1 7 _ rfl).1
      have g7 := (R1 7 _ rfl).2
      have r8 := (R1 8 _ rfl).1
      have g8 := (R1 8 _ rfl).2
      have r9 := (R1 9 _ rfl).1
      have g9 := (R1 9 _ rfl).2
      have r10 := (R1 10 _ rfl).1
      have g10 := (R1 10 _ rfl).2
      have r11 := (R1 11 _ rfl).1
      have g11 := (R1 11 _ rfl).2
      go_wp2_with fail
      refine wp_loop_rounds 4 ?_
      rw [rounds_succ]
      go_wp2_with (go_at_call 45; (with_reducible refine (unhide HF0 _).mono ?_); rintro e w2 ⟨rfl, rfl⟩)
      obtain ⟨W9, hW9⟩ : ∃ W9 : World, W9 = ((((((((((((w1.setCell ⟨w.heap.size + 1, 0, none⟩ (.int .i64 0)).setCell ⟨w.heap.size + 1, 1, none⟩ (.int .i64 0)).setCell ⟨w.heap.size + 1, 2, none⟩ (.int .i64 0)).setCell ⟨w.heap.size + 1, 3, none⟩ (.int .i64 0)).setCell ⟨w.heap.size + 1, 4, none⟩ (.int .i64 0)).setCell ⟨w.heap.size + 1, 5, none⟩ (.int .i64 0)).setCell ⟨w.heap.size + 1, 6, none⟩ (.int .i64 0)).setCell ⟨w.heap.size + 1, 7, none⟩ (.int .i64 0)).setCell ⟨w.heap.size + 1, 8, none⟩ (.int .i64 0)).setCell ⟨w.heap.size + 1, 9, none⟩ (.int .i64 0)).setCell ⟨w.heap.size + 1, 10, none⟩ (.int .i64 0)).setCell ⟨w.heap.size + 1, 11, none⟩ (.int .i64 0)) := ⟨_, rfl⟩
      rw [← hW9]
      have B9 : Bx W9 (w.heap.size + 1) [.int .i64 0, .int .i64 0, .int .i64 0, .int .i64 0, .int .i64 0, .int .i64 0, .int .i64 0, .int .i64 0, .int .i64 0, .int .i64 0, .int .i64 0, .int .i64 0] := by rw [hW9]; exact (bx_set (bx_set (bx_set (bx_set (bx_set (bx_set (bx_set (bx_set (bx_set (bx_set (bx_set (bx_set R1 0 _) 1 _) 2 _) 3 _) 4 _) 5 _) 6 _) 7 _) 8 _) 9 _) 10 _) 11 _)
      have U9 : Up w W9 := by rw [hW9]; exact (by repeat' (first | (with_reducible exact up_refl _) | (with_reducible assumption) | (with_reducible refine up_alloc ?_ _) | (with_reducible refine up_drewN ?_ _) | (with_reducible refine up_drew ?_) | (with_reducible refine up_set ?_ (by first | (simp; done) | (simp; omega) | omega) _) | (refine up_trans ?_ (by with_reducible assumption))))
      clear hW9
      have p0 := (B9 0 _ rfl).1
      have p1 := (B9 1 _ rfl).1
      have p2 := (B9 2 _ rfl).1
      have p3 := (B9 3 _ rfl).1
      have p4 := (B9 4 _ rfl).1
      have p5 := (B9 5 _ rfl).1
      have p6 := (B9 6 _ rfl).1
      have p7 := (B9 7 _ rfl).1
      have p8 := (B9 8 _ rfl).1
      have p9 := (B9 9 _ rfl).1
      have p10 := (B9 10 _ rfl).1
      have p11 := (B9 11 _ rfl).1
      refine bodyPost_ret (v := .tuple #[.agg #[.int .i64 0, .int .i64 0, .int .i64 0, .int .i64 0, .int .i64 0, .int .i64 0, .int .i64 0, .int .i64 0, .int .i64 0, .int .i64 0, .int .i64 0, .int .i64 0], .int .i64 3]) ?_ rfl (unhide qa2 _ U9)
      simp [results, Try.results73, go_sem, p0, p1, p2, p3, p4, p5, p6, p7, p8, p9, p10, p11]
    cases d1
    · clear HF2 cf
      go_enter Try.func73, Try.ntmps73
      go_upto_region 1 with fail
      refine at_wp (fun W0 hW0 => ?_)
      have U0 : Up w W0 := by rw [hW0]; exact (by repeat' (first | (with_reducible exact up_refl _) | (with_reducible assumption) | (with_reducible refine up_alloc ?_ _) | (with_reducible refine up_drewN ?_ _) | (with_reducible refine up_drew ?_) | (with_reducible refine up_set ?_ (by first | (simp; done) | (simp; omega) | omega) _) | (refine up_trans ?_ (by with_reducible assumption))))
      have F0 : Bx W0 w.heap.size [.int .i64 f0, .int .i64 f1, .int .i64 f2] := by rw [hW0]; exact bx_alloc (bx_new w _ 30) _
      have R0 : Bx W0 (w.heap.size + 1) [.int .i64 0, .int .i64 0, .int .i64 0, .int .i64 0, .int .i64 0, .int .i64 0, .int .i64 0, .int .i64 0, .int .i64 0, .int .i64 0, .int .i64 0, .int .i64 0] := by
        rw [hW0]
        have t := bx_new (w.alloc (.cells #[.int .i64 f0, .int .i64 f1, .int .i64 f2] 30)) [.int .i64 0, .int .i64 0, .int .i64 0, .int .i64 0, .int .i64 0, .int .i64 0, .int .i64 0, .int .i64 0, .int .i64 0, .int .i64 0, .int .i64 0, .int .i64 0] 100
        rwa [sz1] at t
      clear hW0
      go_upto_region 2 with (go_at_call 25; (with_reducible refine (unhide hC _ (by repeat' (first | (with_reducible exact up_refl _) | (with_reducible assumption) | (with_reducible refine up_alloc ?_ _) | (with_reducible refine up_drewN ?_ _) | (with_reducible refine up_drew ?_) | (with_reducible refine up_set ?_ (by first | (simp; done) | (simp; omega) | omega) _) | (refine up_trans ?_ (by with_reducible assumption))))).mono ?_); rintro e w1 ⟨rfl, hb1⟩)
      have F1 := bx_up F0 hb1
      have R1 := bx_up R0 hb1
      have U1 := up_trans U0 hb1
      clear F0 R0 U0 hb1 hC
      obtain ⟨x0, x1, x2⟩ := bx3 F1
      have r0 := (R1 0 _ rfl).1
      have g0 := (R1 0 _ rfl).2
      have r1 := (R1 1 _ rfl).1
      have g1 := (R1 1 _ rfl).2
      have r2 := (R1 2 _ rfl).1
      have g2 := (R1 2 _ rfl).2
      have r3 := (R1 3 _ rfl).1
      have g3 := (R1 3 _ rfl).2
      have r4 := (R1 4 _ rfl).1
      have g4 := (R1 4 _ rfl).2
      have r5 := (R1 5 _ rfl).1
      have g5 := (R1 5 _ rfl).2
      have r6 := (R1 6 _ rfl).1
      have g6 := (R1 6 _ rfl).2
      have r7 := (R1 7 _ rfl).1
      have g7 := (R1 7 _ rfl).2
      have r8 := (R1 8 _ rfl).1
      have g8 := (R1 8 _ rfl).2
      have r9 := (R1 9 _ rfl).1
      have g9 := (R1 9 _ rfl).2
      have r10 := (R1 10 _ rfl).1
      have g10 := (R1 10 _ rfl).2
      have r11 := (R1 11 _ rfl).1
      have g11 := (R1 11 _ rfl).2
      go_wp2_with fail
      refine wp_loop_rounds 4 ?_
      rw [rounds_succ]
      go_wp2_with (go_at_call 45; (with_reducible refine (unhide HF0 _).mono ?_); rintro e w2 ⟨rfl, rfl⟩)
      rw [rounds_succ]
      go_wp2_with (go_at_call 45; (with_reducible refine (unhide HF1 _).mono ?_); rintro e w2 ⟨rfl, rfl⟩)
      obtain ⟨W9, hW9⟩ : ∃ W9 : World, W9 = ((((((((((((w1.setCell ⟨w.heap.size + 1, 0, none⟩ (.int .i64 0)).setCell ⟨w.heap.size + 1, 1, none⟩ (.int .i64 0)).setCell ⟨w.heap.size + 1, 2, none⟩ (.int .i64 0)).setCell ⟨w.heap.size + 1, 3, none⟩ (.int .i64 0)).setCell ⟨w.heap.size + 1, 4, none⟩ (.int .i64 0)).setCell ⟨w.heap.size + 1, 5, none⟩ (.int .i64 0)).setCell ⟨w.heap.size + 1, 6, none⟩ (.int .i64 0)).setCell ⟨w.heap.size + 1, 7, none⟩ (.int .i64 0)).setCell ⟨w.heap.size + 1, 8, none⟩ (.int .i64 0)).setCell ⟨w.heap.size + 1, 9, none⟩ (.int .i64 0)).setCell ⟨w.heap.size + 1, 10, none⟩ (.int .i64 0)).setCell ⟨w.heap.size + 1, 11, none⟩ (.int .i64 0)) := ⟨_, rfl⟩
      rw [← hW9]
      have B9 : Bx W9 (w.heap.size + 1) [.int .i64 0, .int .i64 0, .int .i64 0, .int .i64 0, .int .i64 0, .int .i64 0, .int .i64 0, .int .i64 0, .int .i64 0, .int .i64 0, .int .i64 0, .int .i64 0] := by rw [hW9]; exact (bx_set (bx_set (bx_set (bx_set (bx_set (bx_set (bx_set (bx_set (bx_set (bx_set (bx_set (bx_set R1 0 _) 1 _) 2 _) 3 _) 4 _) 5 _) 6 _) 7 _) 8 _) 9 _) 10 _) 11 _)
      have U9 : Up w W9 := by rw [hW9]; exact (by repeat' (first | (with_reducible exact up_refl _) | (with_reducible assumption) | (with_reducible refine up_alloc ?_ _) | (with_reducible refine up_drewN ?_ _) | (with_reducible refine up_drew ?_) | (with_reducible refine up_set ?_ (by first | (simp; done) | (simp; omega) | omega) _) | (refine up_trans ?_ (by with_reducible assumption))))
      clear hW9
      have p0 := (B9 0 _ rfl).1
      have p1 := (B9 1 _ rfl).1
      have p2 := (B9 2 _ rfl).1
      have p3 := (B9 3 _ rfl).1
      have p4 := (B9 4 _ rfl).1
      have p5 := (B9 5 _ rfl).1
      have p6 := (B9 6 _ rfl).1
      have p7 := (B9 7 _ rfl).1
      have p8 := (B9 8 _ rfl).1
      have p9 := (B9 9 _ rfl).1
      have p10 := (B9 10 _ rfl).1
      have p11 := (B9 11 _ rfl).1
      refine bodyPost_ret (v := .tuple #[.agg #[.int .i64 0, .int .i64 0, .int .i64 0, .int .i64 0, .int .i64 0, .int .i64 0, .int .i64 0, .int .i64 0, .int .i64 0, .int .i64 0, .int .i64 0, .int .i64 0], .int .i64 3]) ?_ rfl (unhide qa2 _ U9)
      simp [results, Try.results73, go_sem, p0, p1, p2, p3, p4, p5, p6, p7, p8, p9, p10, p11]
    cases d2
    · clear cf
      go_enter Try.func73, Try.ntmps73
      go_upto_region 1 with fail
      refine at_wp (fun W0 hW0 => ?_)
      have U0 : Up w W0 := by rw [hW0]; exact (by repeat' (first | (with_reducible exact up_refl _) | (with_reducible assumption) | (with_reducible refine up_alloc ?_ _) | (with_reducible refine up_drewN ?_ _) | (with_reducible refine up_drew ?_) | (with_reducible refine up_set ?_ (by first | (simp; done) | (simp; omega) | omega) _) | (refine up_trans ?_ (by with_reducible assumption))))
      have F0 : Bx W0 w.heap.size [.int .i64 f0, .int .i64 f1, .int .i64 f2] := by rw [hW0]; exact bx_alloc (bx_new w _ 30) _
      have R0 : Bx W0 (w.heap.size + 1) [.int .i64 0, .int .i64 0, .int .i64 0, .int .i64 0, .int .i64 0, .int .i64 0, .int .i64 0, .int .i64 0, .int .i64 0, .int .i64 0, .int .i64 0, .int .i64 0] := by
        rw [hW0]
        have t := bx_new (w.alloc (.cells #[.int .i64 f0, .int .i64 f1, .int .i64 f2] 30)) [.int .i64 0, .int .i64 0, .int .i64 0, .int .i64 0, .int .i64 0, .int .i64 0, .int .i64 0, .int .i64 0, .int .i64 0, .int .i64 0, .int .i64 0, .int .i64 0] 100
        rwa [sz1] at t
      clear hW0
      go_upto_region 2 with (go_at_call 25; (with_reducible refine (unhide hC _ (by repeat' (first | (with_reducible exact up_refl _) | (with_reducible assumption) | (with_reducible refine up_alloc ?_ _) | (with_reducible refine up_drewN ?_ _) | (with_reducible refine up_drew ?_) | (with_reducible refine up_set ?_ (by first | (simp; done) | (simp; omega) | omega) _) | (refine up_trans ?_ (by with_reducible assumption))))).mono ?_); rintro e w1 ⟨rfl, hb1⟩)
      have F1 := bx_up F0 hb1
      have R1 := bx_up R0 hb1
      have U1 := up_trans U0 hb1
      clear F0 R0 U0 hb1 hC
      obtain ⟨x0, x1, x2⟩ := bx3 F1
      have r0 := (R1 0 _ rfl).1
      have g0 := (R1 0 _ rfl).2
      have r1 := (R1 1 _ rfl).1
      have g1 := (R1 1 _ rfl).2
      have r2 := (R1 2 _ rfl).1
      have g2 := (R1 2 _ rfl).2
      have r3 := (R1 3 _ rfl).1
      have g3 := (R1 3 _ rfl).2
      have r4 := (R1 4 _ rfl).1
      have g4 := (R1 4 _ rfl).2
      have r5 := (R1 5 _ rfl).1
      have g5 := (R1 5 _ rfl).2
      have r6 := (R1 6 _ rfl).1
      have g6 := (R1 6 _ rfl).2
      have r7 := (R1 7 _ rfl).1
      have g7 := (R1 7 _ rfl).2
      have r8 := (R1 8 _ rfl).1
      have g8 := (R1 8 _ rfl).2
      have r9 := (R1 9 _ rfl).1
      have g9 := (R1 9 _ rfl).2
      have r10 := (R1 10 _ rfl).1
      have g10 := (R1 10 _ rfl).2
      have r11 := (R1 11 _ rfl).1
      have g11 := (R1 11 _ rfl).2
      go_wp2_with fail
      refine wp_loop_rounds 4 ?_
      rw [rounds_succ]
      go_wp2_with (go_at_call 45; (with_reducible refine (unhide HF0 _).mono ?_); rintro e w2 ⟨rfl, rfl⟩)
      rw [rounds_succ]
      go_wp2_with (go_at_call 45; (with_reducible refine (unhide HF1 _).mono ?_); rintro e w2 ⟨rfl, rfl⟩)
      rw [rounds_succ]
      go_wp2_with (go_at_call 45; (with_reducible refine (unhide HF2 _).mono ?_); rintro e w2 ⟨rfl, rfl⟩)
      obtain ⟨W9, hW9⟩ : ∃ W9 : World, W9 = ((((((((((((w1.setCell ⟨w.heap.size + 1, 0, none⟩ (.int .i64 0)).setCell ⟨w.heap.size + 1, 1, none⟩ (.int .i64 0)).setCell ⟨w.heap.size + 1, 2, none⟩ (.int .i64 0)).setCell ⟨w.heap.size + 1, 3, none⟩ (.int .i64 0)).setCell ⟨w.heap.size + 1, 4, none⟩ (.int .i64 0)).setCell ⟨w.heap.size + 1, 5, none⟩ (.int .i64 0)).setCell ⟨w.heap.size + 1, 6, none⟩ (.int .i64 0)).setCell ⟨w.heap.size + 1, 7, none⟩ (.int .i64 0)).setCell ⟨w.heap.size + 1, 8, none⟩ (.int .i64 0)).setCell ⟨w.heap.size + 1, 9, none⟩ (.int .i64 0)).setCell ⟨w.heap.size + 1, 10, none⟩ (.int .i64 0)).setCell ⟨w.heap.size + 1, 11, none⟩ (.int .i64 0)) := ⟨_, rfl⟩
      rw [← hW9]
      have B9 : Bx W9 (w.heap.size + 1) [.int .i64 0, .int .i64 0, .int .i64 0, .int .i64 0, .int .i64 0, .int .i64 0, .int .i64 0, .int .i64 0, .int .i64 0, .int .i64 0, .int .i64 0, .int .i64 0] := by rw [hW9]; exact (bx_set (bx_set (bx_set (bx_set (bx_set (bx_set (bx_set (bx_set (bx_set (bx_set (bx_set (bx_set R1 0 _) 1 _) 2 _) 3 _) 4 _) 5 _) 6 _) 7 _) 8 _) 9 _) 10 _) 11 _)
      have U9 : Up w W9 := by rw [hW9]; exact (by repeat' (first | (with_reducible exact up_refl _) | (with_reducible assumption) | (with_reducible refine up_alloc ?_ _) | (with_reducible refine up_drewN ?_ _) | (with_reducible refine up_drew ?_) | (with_reducible refine up_set ?_ (by first | (simp; done) | (simp; omega) | omega) _) | (refine up_trans ?_ (by with_reducible assumption))))
      clear hW9
      have p0 := (B9 0 _ rfl).1
      have p1 := (B9 1 _ rfl).1
      have p2 := (B9 2 _ rfl).1
      have p3 := (B9 3 _ rfl).1
      have p4 := (B9 4 _ rfl).1
      have p5 := (B9 5 _ rfl).1
      have p6 := (B9 6 _ rfl).1
      have p7 := (B9 7 _ rfl).1
      have p8 := (B9 8 _ rfl).1
      have p9 := (B9 9 _ rfl).1
      have p10 := (B9 10 _ rfl).1
      have p11 := (B9 11 _ rfl).1
      refine bodyPost_ret (v := .tuple #[.agg #[.int .i64 0, .int .i64 0, .int .i64 0, .int .i64 0, .int .i64 0, .int .i64 0, .int .i64 0, .int .i64 0, .int .i64 0, .int .i64 0, .int .i64 0, .int .i64 0], .int .i64 3]) ?_ rfl (unhide qa2 _ U9)
      simp [results, Try.results73, go_sem, p0, p1, p2, p3, p4, p5, p6, p7, p8, p9, p10, p11]
    · cases cf
  · have qa2 := hide (fun (x : gsB gs = false) => (by have e := ce0 x; subst e; exact unhide qa (by omega) : ∀ w', Up w w' → Q (.returned (.tuple #[.agg #[.int .i64 0, .int .i64 0, .int .i64 0, .int .i64 0, .int .i64 0, .int .i64 0, .int .i64 0, .int .i64 0, .int .i64 0, .int .i64 0, .int .i64 0, .int .i64 0], .int .i64 3])) w'))
    have qb2 := hide (fun (x : gsB gs = true) => unhide qb (ce1 x))
    clear qa qb ce0 ce1
    have hok := chE_ok c0
    have hS2 := hide (unhide hS c0)
    clear hS
    rw [c0] at hC
    unfold flB at cf
    rw [Bool.and_eq_true, Bool.and_eq_true] at cf
    obtain ⟨d0, d1, d2⟩ := cf
    change Hid (∀ W : World, Calls Try.prog 45 #[.int .i64 f0, .int .i64 0, .int .i64 196608] W fun e w' => e = .returned (.bool (win f0 0 196608)) ∧ W = w') at HF0
    change Hid (∀ W : World, Calls Try.prog 45 #[.int .i64 f1, .int .i64 0, .int .i64 196608] W fun e w' => e = .returned (.bool (win f1 0 196608)) ∧ W = w') at HF1
    change Hid (∀ W : World, Calls Try.prog 45 #[.int .i64 f2, .int .i64 0, .int .i64 196608] W fun e w' => e = .returned (.bool (win f2 0 196608)) ∧ W = w') at HF2
    have vb : (0 ≤ f0 ∧ f0 ≤ 196608) ∧ (0 ≤ f1 ∧ f1 ≤ 196608) ∧ (0 ≤ f2 ∧ f2 ≤ 196608) := ⟨(win_iff _ _ _).1 d0, (win_iff _ _ _).1 d1, (win_iff _ _ _).1 d2⟩
    rw [d0] at HF0
    rw [d1] at HF1
    rw [d2] at HF2
    clear d0 d1 d2 c0
    have hP := hide (fun (W : World) (hW : Up w W) => sups_up h hW)
    have hI := hide (fun (W : World) (hW : Up w W) => ints_up hg hW)
    rcases h with hx | ⟨ba, off, rfl, hc⟩
    · rw [hx] at hok; exact absurd hok.2.2.1 (by simp)
    rcases hg with hx | ⟨bg, offg, rfl, hcg⟩
    · rw [hx] at cl; have := hok.2.2.1; rw [← cl] at this; exact absurd this (by simp)
    have HC := hide hc
    have HG := hide hcg
    have HO := hide hok.1
    have hlen := hok.2.1
    clear hc hcg hok hP hI
    obtain ⟨n, hN⟩ : ∃ n, ps.length = n := ⟨_, rfl⟩
    have HM := hide (cl.trans hN)
    have HN := hide hN
    rw [cl]
    rw [hN] at hC hS2 hlen qb2 ⊢
    clear hN cl hng hn
    obtain ⟨⟨v1, v2⟩, ⟨v3, v4⟩, v5, v6⟩ := vb
    unfold n9 m9 at hS2
    generalize Gs.cN 0 ps = a0 at *
    generalize Gs.cX 0 ps = a1 at *
    generalize Gs.cY 0 ps = a2 at *
    generalize Gs.cN 1 ps = b0 at *
    generalize Gs.cX 1 ps = b1 at *
    generalize Gs.cY 1 ps = b2 at *
    generalize Gs.cN 2 ps = c0 at *
    generalize Gs.cX 2 ps = c1 at *
    generalize Gs.cY 2 ps = c2 at *
    go_enter Try.func73, Try.ntmps73
    go_upto_region 1 with fail
    refine at_wp (fun W0 hW0 => ?_)
    have U0 : Up w W0 := by rw [hW0]; exact (by repeat' (first | (with_reducible exact up_refl _) | (with_reducible assumption) | (with_reducible refine up_alloc ?_ _) | (with_reducible refine up_drewN ?_ _) | (with_reducible refine up_drew ?_) | (with_reducible refine up_set ?_ (by first | (simp; done) | (simp; omega) | omega) _) | (refine up_trans ?_ (by with_reducible assumption))))
    have F0 : Bx W0 w.heap.size [.int .i64 f0, .int .i64 f1, .int .i64 f2] := by rw [hW0]; exact bx_alloc (bx_new w _ 30) _
    have R0 : Bx W0 (w.heap.size + 1) [.int .i64 0, .int .i64 0, .int .i64 0, .int .i64 0, .int .i64 0, .int .i64 0, .int .i64 0, .int .i64 0, .int .i64 0, .int .i64 0, .int .i64 0, .int .i64 0] := by
      rw [hW0]
      have t := bx_new (w.alloc (.cells #[.int .i64 f0, .int .i64 f1, .int .i64 f2] 30)) [.int .i64 0, .int .i64 0, .int .i64 0, .int .i64 0, .int .i64 0, .int .i64 0, .int .i64 0, .int .i64 0, .int .i64 0, .int .i64 0, .int .i64 0, .int .i64 0] 100
      rwa [sz1] at t
    clear hW0
    go_upto_region 2 with (go_at_call 25; (with_reducible refine (unhide hC _ (by repeat' (first | (with_reducible exact up_refl _) | (with_reducible assumption) | (with_reducible refine up_alloc ?_ _) | (with_reducible refine up_drewN ?_ _) | (with_reducible refine up_drew ?_) | (with_reducible refine up_set ?_ (by first | (simp; done) | (simp; omega) | omega) _) | (refine up_trans ?_ (by with_reducible assumption))))).mono ?_); rintro e w1 ⟨rfl, hb1⟩)
    have F1 := bx_up F0 hb1
    have R1 := bx_up R0 hb1
    have U1 := up_trans U0 hb1
    clear F0 R0 U0 hb1 hC
    obtain ⟨x0, x1, x2⟩ := bx3 F1
    have r0 := (R1 0 _ rfl).1
    have g0 := (R1 0 _ rfl).2
    have r1 := (R1 1 _ rfl).1
    have g1 := (R1 1 _ rfl).2
    have r2 := (R1 2 _ rfl).1
    have g2 := (R1 2 _ rfl).2
    have r3 := (R1 3 _ rfl).1
    have g3 := (R1 3 _ rfl).2
    have r4 := (R1 4 _ rfl).1
    have g4 := (R1 4 _ rfl).2
    have r5 := (R1 5 _ rfl).1
    have g5 := (R1 5 _ rfl).2
    have r6 := (R1 6 _ rfl).1
    have g6 := (R1 6 _ rfl).2
    have r7 := (R1 7 _ rfl).1
    have g7 := (R1 7 _ rfl).2
    have r8 := (R1 8 _ rfl).1
    have g8 := (R1 8 _ rfl).2
    have r9 := (R1 9 _ rfl).1
    have g9 := (R1 9 _ rfl).2
    have r10 := (R1 10 _ rfl).1
    have g10 := (R1 10 _ rfl).2
    have r11 := (R1 11 _ rfl).1
    have g11 := (R1 11 _ rfl).2
    go_wp2_with fail
    refine wp_loop_rounds 4 ?_
    rw [rounds_succ]
    go_wp2_with (go_at_call 45; (with_reducible refine (unhide HF0 _).mono ?_); rintro e w2 ⟨rfl, rfl⟩)
    rw [rounds_succ]
    go_wp2_with (go_at_call 45; (with_reducible refine (unhide HF1 _).mono ?_); rintro e w2 ⟨rfl, rfl⟩)
    rw [rounds_succ]
    go_wp2_with (go_at_call 45; (with_reducible refine (unhide HF2 _).mono ?_); rintro e w2 ⟨rfl, rfl⟩)
    rw [rounds_succ]
    go_wp2_with fail
    clear HF0 HF1 HF2 r0 g0 r1 g1 r2 g2 r3 g3 r4 g4 r5 g5 r6 g6 r7 g7 r8 g8 r9 g9 r10 g10 r11 g11 x0 x1 x2
    have hmk : ∀ wx' : World, Up w1 wx' → wx'.cell? ⟨w.heap.size, 0, none⟩ = some (.int .i64 f0) ∧ wx'.cell? ⟨w.heap.size, 1, none⟩ = some (.int .i64 f1) ∧ wx'.cell? ⟨w.heap.size, 2, none⟩ = some (.int .i64 f2) ∧ Up w1 wx' := fun wx' hq => ⟨(bx3 (bx_up F1 hq)).1, (bx3 (bx_up F1 hq)).2.1, (bx3 (bx_up F1 hq)).2.2, hq⟩
    have hS3 : ∀ W : World, Up w1 W → Calls Try.prog 47 #[.slice (some ⟨ba, off, none⟩) n cap] W fun e w' => e = .returned (.agg #[.int .i64 a0, .int .i64 a1, .int .i64 a2, .int .i64 b0, .int .i64 b1, .int .i64 b2, .int .i64 c0, .int .i64 c1, .int .i64 c2]) ∧ Up W w' ∧ Up w1 w' := fun W hW => (unhide hS2 W (up_trans U1 hW)).mono fun e w' ⟨a, b⟩ => ⟨a, b, up_trans hW b⟩
    have hS4 := hide hS3
    have HK := hide hmk
    clear hS2 hS3 hmk
    go_cut [10] (fun sa wx' => ∃ g : Nat, sa = .pointer (some ⟨g, 0, none⟩) ∧ Bx wx' g [.int .i64 a0, .int .i64 a1, .int .i64 a2, .int .i64 b0, .int .i64 b1, .int .i64 b2, .int .i64 c0, .int .i64 c1, .int .i64 c2, .int .i64 f0, .int .i64 f1, .int .i64 f2] ∧ Up w1 wx' ∧ w.heap.size + 1 < g)
    case first =>
      have t1 := Nat.le_refl w1.heap.size
      have t0 := bx_lt R1 (by simp)
      clear qa2 qb2 HC HG HO HM HN F1
      go_region_held3 (fun wx' => wx'.cell? ⟨w.heap.size, 0, none⟩ = some (.int .i64 f0) ∧ wx'.cell? ⟨w.heap.size, 1, none⟩ = some (.int .i64 f1) ∧ wx'.cell? ⟨w.heap.size, 2, none⟩ = some (.int .i64 f2) ∧ Up w1 wx') ((go_split_ands; exact unhide HK _ (by repeat' (first | (with_reducible exact up_refl _) | (with_reducible assumption) | (with_reducible refine up_alloc ?_ _) | (with_reducible refine up_drewN ?_ _) | (with_reducible refine up_drew ?_) | (with_reducible refine up_set ?_ (by first | (simp; done) | (simp; omega) | omega) _) | (refine up_trans ?_ (by with_reducible assumption))))))
        (first
          | (go_at_call 47; (with_reducible refine (unhide hS4 _ (by go_split_ands; exact (by repeat' (first | (with_reducible exact up_refl _) | (with_reducible assumption) | (with_reducible refine up_alloc ?_ _) | (with_reducible refine up_drewN ?_ _) | (with_reducible refine up_drew ?_) | (with_reducible refine up_set ?_ (by first | (simp; done) | (simp; omega) | omega) _) | (refine up_trans ?_ (by with_reducible assumption)))))).mono ?_); rintro e w3 ⟨rfl, hb3, hv3⟩; have t3 := up_size hv3; have zb := bx_up (bx_new _ [.int .i64 0, .int .i64 0, .int .i64 0, .int .i64 0, .int .i64 0, .int .i64 0, .int .i64 0, .int .i64 0, .int .i64 0, .int .i64 0, .int .i64 0, .int .i64 0] 100) hb3; have i0 := (zb 0 _ rfl).1; have j0 := (zb 0 _ rfl).2; have i1 := (zb 1 _ rfl).1; have j1 := (zb 1 _ rfl).2; have i2 := (zb 2 _ rfl).1; have j2 := (zb 2 _ rfl).2; have i3 := (zb 3 _ rfl).1; have j3 := (zb 3 _ rfl).2; have i4 := (zb 4 _ rfl).1; have j4 := (zb 4 _ rfl).2; have i5 := (zb 5 _ rfl).1; have j5 := (zb 5 _ rfl).2; have i6 := (zb 6 _ rfl).1; have j6 := (zb 6 _ rfl).2; have i7 := (zb 7 _ rfl).1; have j7 := (zb 7 _ rfl).2; have i8 := (zb 8 _ rfl).1; have j8 := (zb 8 _ rfl).2; have i9 := (zb 9 _ rfl).1; have j9 := (zb 9 _ rfl).2; have i10 := (zb 10 _ rfl).1; have j10 := (zb 10 _ rfl).2; have i11 := (zb 11 _ rfl).1; have j11 := (zb 11 _ rfl).2)
          | (go_at_call 47; (with_reducible refine (unhide hS4 _ (by go_split_ands; exact (by repeat' (first | (with_reducible exact up_refl _) | (with_reducible assumption) | (with_reducible refine up_alloc ?_ _) | (with_reducible refine up_drewN ?_ _) | (with_reducible refine up_drew ?_) | (with_reducible refine up_set ?_ (by first | (simp; done) | (simp; omega) | omega) _) | (refine up_trans ?_ (by with_reducible assumption)))))).mono ?_); rintro e w3 ⟨rfl, hb3, hv3⟩; have t3 := up_size hv3; have zb := bx_up (bx_drew (bx_new _ [.int .i64 0, .int .i64 0, .int .i64 0, .int .i64 0, .int .i64 0, .int .i64 0, .int .i64 0, .int .i64 0, .int .i64 0, .int .i64 0, .int .i64 0, .int .i64 0] 100)) hb3; have i0 := (zb 0 _ rfl).1; have j0 := (zb 0 _ rfl).2; have i1 := (zb 1 _ rfl).1; have j1 := (zb 1 _ rfl).2; have i2 := (zb 2 _ rfl).1; have j2 := (zb 2 _ rfl).2; have i3 := (zb 3 _ rfl).1; have j3 := (zb 3 _ rfl).2; have i4 := (zb 4 _ rfl).1; have j4 := (zb 4 _ rfl).2; have i5 := (zb 5 _ rfl).1; have j5 := (zb 5 _ rfl).2; have i6 := (zb 6 _ rfl).1; have j6 := (zb 6 _ rfl).2; have i7 := (zb 7 _ rfl).1; have j7 := (zb 7 _ rfl).2; have i8 := (zb 8 _ rfl).1; have j8 := (zb 8 _ rfl).2; have i9 := (zb 9 _ rfl).1; have j9 := (zb 9 _ rfl).2; have i10 := (zb 10 _ rfl).1; have j10 := (zb 10 _ rfl).2; have i11 := (zb 11 _ rfl).1; have j11 := (zb 11 _ rfl).2)
          | (go_at_call 47; (with_reducible refine (unhide hS4 _ (by go_split_ands; exact (by repeat' (first | (with_reducible exact up_refl _) | (with_reducible assumption) | (with_reducible refine up_alloc ?_ _) | (with_reducible refine up_drewN ?_ _) | (with_reducible refine up_drew ?_) | (with_reducible refine up_set ?_ (by first | (simp; done) | (simp; omega) | omega) _) | (refine up_trans ?_ (by with_reducible assumption)))))).mono ?_); rintro e w3 ⟨rfl, hb3, hv3⟩; have t3 := up_size hv3))
      all_goals
        have u3 : Up w1 w3 := hv3
        go_wp2_with fail
        go_meet
        first
          | (refine ⟨w3.heap.size, by with_reducible rfl, ?_, (by repeat' (first | (with_reducible exact up_refl _) | (with_reducible assumption) | (with_reducible refine up_alloc ?_ _) | (with_reducible refine up_drewN ?_ _) | (with_reducible refine up_drew ?_) | (with_reducible refine up_set ?_ (by first | (simp; done) | (simp; omega) | omega) _) | (refine up_trans ?_ (by with_reducible assumption)))), by omega⟩; exact bx_new w3 _ 100)
          | (refine ⟨w1.heap.size, by with_reducible rfl, ?_, (by repeat' (first | (with_reducible exact up_refl _) | (with_reducible assumption) | (with_reducible refine up_alloc ?_ _) | (with_reducible refine up_drewN ?_ _) | (with_reducible refine up_drew ?_) | (with_reducible refine up_set ?_ (by first | (simp; done) | (simp; omega) | omega) _) | (refine up_trans ?_ (by with_reducible assumption)))), by omega⟩; exact (bx_set (bx_set (bx_set (bx_set (bx_set (bx_set (bx_set (bx_set (bx_set (bx_set (bx_set (bx_set zb 0 _) 1 _) 2 _) 3 _) 4 _) 5 _) 6 _) 7 _) 8 _) 9 _) 10 _) 11 _))
    case rest =>
    obtain ⟨G, rfl, hB, hu2, hG⟩ := hcut
    obtain ⟨wo, rfl⟩ : ∃ x : World, x = wc := ⟨_, rfl⟩
    have R2 := bx_up R1 hu2
    have U2 := up_trans U1 hu2
    clear R1 U1 F1 hS4 HK hu2
    go_wp2_with fail
    go_loopw [41] (fun s41 wr => ∃ k : Nat, k ≤ n ∧ s41 = .int .i64 k ∧ Up w wr ∧ Bx wr G [.int .i64 a0, .int .i64 a1, .int .i64 a2, .int .i64 b0, .int .i64 b1, .int .i64 b2, .int .i64 c0, .int .i64 c1, .int .i64 c2, .int .i64 (f0 + gk 0 ps gs k), .int .i64 (f1 + gk 1 ps gs k), .int .i64 (f2 + gk 2 ps gs k)] ∧ Bx wr (w.heap.size + 1) [.int .i64 0, .int .i64 0, .int .i64 0, .int .i64 0, .int .i64 0, .int .i64 0, .int .i64 0, .int .i64 0, .int .i64 0, .int .i64 0, .int .i64 0, .int .i64 0] ∧ gsB (gs.take k) = true) (fun s41 _ => n - (intOf s41).toNat)
    case atStart => exact ⟨0, by omega, rfl, U2, by rw [gk_zero, gk_zero, gk_zero, Int.add_zero, Int.add_zero, Int.add_zero]; exact hB, R2, rfl⟩
    case round =>
      clear hB R2 U2
      obtain ⟨k, hk, rfl, hu, hB, hZ, hgo⟩ := hrel
      by_cases hlt : k < n
      · have hl : k < ps.length := by rw [unhide HN]; exact hlt
        have hl2 : k < gs.length := by rw [unhide HM]; exact hlt
        obtain ⟨k0, k1, k2, k3, k4, k5⟩ := supAt_up (unhide HC k hl) hu
        have kg := up_cell hu (unhide HG k hl2)
        have hsok := Gs.okS_yes (Gs.okA_get (unhide HO) hl)
        have s0 := gk_succ 0 (ps := ps) (gs := gs) hl hl2
        have s1 := gk_succ 1 (ps := ps) (gs := gs) hl hl2
        have s2 := gk_succ 2 (ps := ps) (gs := gs) hl hl2
        have g0 := gk_bd hgo (Nat.le_of_lt hl) (Nat.le_of_lt hl2) 0
        have g1 := gk_bd hgo (Nat.le_of_lt hl) (Nat.le_of_lt hl2) 1
        have g2 := gk_bd hgo (Nat.le_of_lt hl) (Nat.le_of_lt hl2) 2
        have hts := gsB_take_succ hl2
        rw [hgo, Bool.true_and] at hts
        have hno := hide (fun (x : win gs[k] (-16384) 16384 = false) => gsB_no hl2 x)
        have hW := hide (fun W => (p_within gs[k] (-16384) 16384 W : Calls Try.prog 45 #[.int .i64 gs[k], .int .i64 (-16384), .int .i64 16384] W fun e w' => e = .returned (.bool (win gs[k] (-16384) 16384)) ∧ W = w'))
        change Hid (∀ W : World, Calls Try.prog 45 #[.int .i64 gs[k], .int .i64 (-16384), .int .i64 16384] W fun e w' => e = .returned (.bool (win gs[k] (-16384) 16384)) ∧ W = w') at hW
        have hwb := hide (fun (x : win gs[k] (-16384) 16384 = true) => (win_iff gs[k] (-16384) 16384).1 x)
        obtain ⟨y, hy⟩ : ∃ y, gs[k] = y := ⟨_, rfl⟩
        obtain ⟨g, hg⟩ : ∃ x, ps[k].g = x := ⟨_, rfl⟩
        rw [hy] at kg s0 s1 s2 hts hno hW hwb
        rw [hg] at k2 s0 s1 s2 hsok
        clear hy hg
        have hT0 := hide s0
        have hT1 := hide s1
        have hT2 := hide s2
        clear s0 s1 s2
        obtain ⟨L0, hL0⟩ : ∃ x, gk 0 ps gs k = x := ⟨_, rfl⟩
        obtain ⟨L1, hL1⟩ : ∃ x, gk 1 ps gs k = x := ⟨_, rfl⟩
        obtain ⟨L2, hL2⟩ : ∃ x, gk 2 ps gs k = x := ⟨_, rfl⟩
        rw [hL0] at hB g0 hT0
        rw [hL1] at hB g1 hT1
        rw [hL2] at hB g2 hT2
        clear hL0 hL1 hL2
        obtain ⟨g01, g02⟩ := g0
        obtain ⟨g11, g12⟩ := g1
        obtain ⟨g21, g22⟩ := g2
        obtain ⟨_, _, ⟨o5, o6⟩, _⟩ := hsok
        have i0 : (0 : Int) ≤ (k : Int) := by omega
        have i1 : (k : Int) < (n : Int) := by omega
        go_upto_region 16 with fail
        refine at_wp (fun W5 hW5 => ?_)
        have u5 : Up wr W5 := by rw [hW5]; exact (by repeat' (first | (with_reducible exact up_refl _) | (with_reducible assumption) | (with_reducible refine up_alloc ?_ _) | (with_reducible refine up_drewN ?_ _) | (with_reducible refine up_drew ?_) | (with_reducible refine up_set ?_ (by first | (simp; done) | (simp; omega) | omega) _) | (refine up_trans ?_ (by with_reducible assumption))))
        have S5 : Bx W5 wr.heap.size [.int .i64 ps[k].x, .int .i64 ps[k].y, .int .i64 g, .int .i64 ps[k].lim, .int .i64 ps[k].lo, .int .i64 ps[k].hi] := by rw [hW5]; exact bx_new wr _ 61
        have hGl := bx_lt hB (by simp)
        have hRl := bx_lt hZ (by simp)
        have B5 := bx_up hB u5
        have Z5 := bx_up hZ u5
        have U5 := up_trans hu u5
        have kg5 := up_cell u5 kg
        clear hW5 u5 hB hZ hu kg k0 k1 k2 k3 k4 k5
        cases hv : win y (-16384) 16384
        · rw [hv] at hW
          have qa3 := hide (unhide qa2 (unhide hno hv))
          clear hno hwb hts hv qa2 qb2 hT0 hT1 hT2 B5 S5
          have r0 := (Z5 0 _ rfl).1
          have g0 := (Z5 0 _ rfl).2
          have r1 := (Z5 1 _ rfl).1
          have g1 := (Z5 1 _ rfl).2
          have r2 := (Z5 2 _ rfl).1
          have g2 := (Z5 2 _ rfl).2
          have r3 := (Z5 3 _ rfl).1
          have g3 := (Z5 3 _ rfl).2
          have r4 := (Z5 4 _ rfl).1
          have g4 := (Z5 4 _ rfl).2
          have r5 := (Z5 5 _ rfl).1
          have g5 := (Z5 5 _ rfl).2
          have r6 := (Z5 6 _ rfl).1
          have g6 := (Z5 6 _ rfl).2
          have r7 := (Z5 7 _ rfl).1
          have g7 := (Z5 7 _ rfl).2
          have r8 := (Z5 8 _ rfl).1
          have g8 := (Z5 8 _ rfl).2
          have r9 := (Z5 9 _ rfl).1
          have g9 := (Z5 9 _ rfl).2
          have r10 := (Z5 10 _ rfl).1
          have g10 := (Z5 10 _ rfl).2
          have r11 := (Z5 11 _ rfl).1
          have g11 := (Z5 11 _ rfl).2
          go_wp2_with (go_at_call 45; (with_reducible refine (unhide hW _).mono ?_); rintro e w4 ⟨rfl, rfl⟩)
          obtain ⟨W9, hW9⟩ : ∃ W9 : World, W9 = ((((((((((((W5.setCell ⟨w.heap.size + 1, 0, none⟩ (.int .i64 0)).setCell ⟨w.heap.size + 1, 1, none⟩ (.int .i64 0)).setCell ⟨w.heap.size + 1, 2, none⟩ (.int .i64 0)).setCell ⟨w.heap.size + 1, 3, none⟩ (.int .i64 0)).setCell ⟨w.heap.size + 1, 4, none⟩ (.int .i64 0)).setCell ⟨w.heap.size + 1, 5, none⟩ (.int .i64 0)).setCell ⟨w.heap.size + 1, 6, none⟩ (.int .i64 0)).setCell ⟨w.heap.size + 1, 7, none⟩ (.int .i64 0)).setCell ⟨w.heap.size + 1, 8, none⟩ (.int .i64 0)).setCell ⟨w.heap.size + 1, 9, none⟩ (.int .i64 0)).setCell ⟨w.heap.size + 1, 10, none⟩ (.int .i64 0)).setCell ⟨w.heap.size + 1, 11, none⟩ (.int .i64 0)) := ⟨_, rfl⟩
          rw [← hW9]
          have B9 : Bx W9 (w.heap.size + 1) [.int .i64 0, .int .i64 0, .int .i64 0, .int .i64 0, .int .i64 0, .int .i64 0, .int .i64 0, .int .i64 0, .int .i64 0, .int .i64 0, .int .i64 0, .int .i64 0] := by rw [hW9]; exact (bx_set (bx_set (bx_set (bx_set (bx_set (bx_set (bx_set (bx_set (bx_set (bx_set (bx_set (bx_set Z5 0 _) 1 _) 2 _) 3 _) 4 _) 5 _) 6 _) 7 _) 8 _) 9 _) 10 _) 11 _)
          have U9 : Up w W9 := by rw [hW9]; exact (by repeat' (first | (with_reducible exact up_refl _) | (with_reducible assumption) | (with_reducible refine up_alloc ?_ _) | (with_reducible refine up_drewN ?_ _) | (with_reducible refine up_drew ?_) | (with_reducible refine up_set ?_ (by first | (simp; done) | (simp; omega) | omega) _) | (refine up_trans ?_ (by with_reducible assumption))))
          clear hW9
          have p0 := (B9 0 _ rfl).1
          have p1 := (B9 1 _ rfl).1
          have p2 := (B9 2 _ rfl).1
          have p3 := (B9 3 _ rfl).1
          have p4 := (B9 4 _ rfl).1
          have p5 := (B9 5 _ rfl).1
          have p6 := (B9 6 _ rfl).1
          have p7 := (B9 7 _ rfl).1
          have p8 := (B9 8 _ rfl).1
          have p9 := (B9 9 _ rfl).1
          have p10 := (B9 10 _ rfl).1
          have p11 := (B9 11 _ rfl).1
          refine bodyPost_ret (v := .tuple #[.agg #[.int .i64 0, .int .i64 0, .int .i64 0, .int .i64 0, .int .i64 0, .int .i64 0, .int .i64 0, .int .i64 0, .int .i64 0, .int .i64 0, .int .i64 0, .int .i64 0], .int .i64 3]) ?_ rfl (unhide qa3 _ U9)
          simp [results, Try.results73, go_sem, p0, p1, p2, p3, p4, p5, p6, p7, p8, p9, p10, p11]
        · rw [hv] at hW
          have hwb2 := unhide hwb hv
          obtain ⟨wb1, wb2⟩ := hwb2
          have hts2 : gsB (gs.take (k + 1)) = true := by rw [hts]; exact hv
          clear hno hwb hts hv hgo qa2 qb2
          have e0 : IntKind.i64.wrap (f0 + L0 + y) = f0 + L0 + y := IntWalk.i64_in _ ⟨by omega, by omega⟩
          have e1 : IntKind.i64.wrap (f1 + L1 + y) = f1 + L1 + y := IntWalk.i64_in _ ⟨by omega, by omega⟩
          have e2 : IntKind.i64.wrap (f2 + L2 + y) = f2 + L2 + y := IntWalk.i64_in _ ⟨by omega, by omega⟩
          rcases (show g = 0 ∨ g = 1 ∨ g = 2 by omega) with rfl | rfl | rfl
          · go_upto_region 18 with (go_at_call 45; (with_reducible refine (unhide hW _).mono ?_); rintro e w4 ⟨rfl, rfl⟩)
            clear hW
            have q0 := (S5 2 _ rfl).1
            have q1 := (B5 9 _ rfl).1
            have q2 := (B5 9 _ rfl).2
            go_region
            all_goals
              go_wp2_with fail
              go_roundw
              case rel =>
                have v0 : f0 + gk 0 ps gs (k + 1) = (f0 + L0 + y) := by have t := unhide hT0; simp at t; omega
                have v1 : f1 + gk 1 ps gs (k + 1) = (f1 + L1) := by have t := unhide hT1; simp at t; omega
                have v2 : f2 + gk 2 ps gs (k + 1) = (f2 + L2) := by have t := unhide hT2; simp at t; omega
                refine ⟨k + 1, by omega, by go_num, up_drew (up_set U5 (by simp; omega) _), ?_, bx_drew (bx_far Z5 (by simp; omega) _), hts2⟩
                rw [v0, v1, v2]
                exact bx_drew (bx_set B5 9 (.int .i64 (f0 + L0 + y)))
              case measure => simp [intOf]; omega
          · go_upto_region 18 with (go_at_call 45; (with_reducible refine (unhide hW _).mono ?_); rintro e w4 ⟨rfl, rfl⟩)
            clear hW
            have q0 := (S5 2 _ rfl).1
            have q1 := (B5 10 _ rfl).1
            have q2 := (B5 10 _ rfl).2
            go_region
            all_goals
              go_wp2_with fail
              go_roundw
              case rel =>
                have v0 : f0 + gk 0 ps gs (k + 1) = (f0 + L0) := by have t := unhide hT0; simp at t; omega
                have v1 : f1 + gk 1 ps gs (k + 1) = (f1 + L1 + y) := by have t := unhide hT1; simp at t; omega
                have v2 : f2 + gk 2 ps gs (k + 1) = (f2 + L2) := by have t := unhide hT2; simp at t; omega
                refine ⟨k + 1, by omega, by go_num, up_drew (up_set U5 (by simp; omega) _), ?_, bx_drew (bx_far Z5 (by simp; omega) _), hts2⟩
                rw [v0, v1, v2]
                exact bx_drew (bx_set B5 10 (.int .i64 (f1 + L1 + y)))
              case measure => simp [intOf]; omega
          · go_upto_region 18 with (go_at_call 45; (with_reducible refine (unhide hW _).mono ?_); rintro e w4 ⟨rfl, rfl⟩)
            clear hW
            have q0 := (S5 2 _ rfl).1
            have q1 := (B5 11 _ rfl).1
            have q2 := (B5 11 _ rfl).2
            go_region
            all_goals
              go_wp2_with fail
              go_roundw
              case rel =>
                have v0 : f0 + gk 0 ps gs (k + 1) = (f0 + L0) := by have t := unhide hT0; simp at t; omega
                have v1 : f1 + gk 1 ps gs (k + 1) = (f1 + L1) := by have t := unhide hT1; simp at t; omega
                have v2 : f2 + gk 2 ps gs (k + 1) = (f2 + L2 + y) := by have t := unhide hT2; simp at t; omega
                refine ⟨k + 1, by omega, by go_num, up_drew (up_set U5 (by simp; omega) _), ?_, bx_drew (bx_far Z5 (by simp; omega) _), hts2⟩
                rw [v0, v1, v2]
                exact bx_drew (bx_set B5 11 (.int .i64 (f2 + L2 + y)))
              case measure => simp [intOf]; omega
      · obtain rfl : k = n := by omega
        have hgt : gsB gs = true := by
          have : gs.take k = gs := List.take_of_length_le (by rw [unhide HM]; omega)
          rw [this] at hgo; exact hgo
        have qb3 := hide (unhide qb2 hgt)
        clear qa2 qb2 hgo hgt
        have r0 := (hZ 0 _ rfl).1
        have g0 := (hZ 0 _ rfl).2
        have r1 := (hZ 1 _ rfl).1
        have g1 := (hZ 1 _ rfl).2
        have r2 := (hZ 2 _ rfl).1
        have g2 := (hZ 2 _ rfl).2
        have r3 := (hZ 3 _ rfl).1
        have g3 := (hZ 3 _ rfl).2
        have r4 := (hZ 4 _ rfl).1
        have g4 := (hZ 4 _ rfl).2
        have r5 := (hZ 5 _ rfl).1
        have g5 := (hZ 5 _ rfl).2
        have r6 := (hZ 6 _ rfl).1
        have g6 := (hZ 6 _ rfl).2
        have r7 := (hZ 7 _ rfl).1
        have g7 := (hZ 7 _ rfl).2
        have r8 := (hZ 8 _ rfl).1
        have g8 := (hZ 8 _ rfl).2
        have r9 := (hZ 9 _ rfl).1
        have g9 := (hZ 9 _ rfl).2
        have r10 := (hZ 10 _ rfl).1
        have g10 := (hZ 10 _ rfl).2
        have r11 := (hZ 11 _ rfl).1
        have g11 := (hZ 11 _ rfl).2
        have x0 := (hB 0 _ rfl).1
        have x1 := (hB 1 _ rfl).1
        have x2 := (hB 2 _ rfl).1
        have x3 := (hB 3 _ rfl).1
        have x4 := (hB 4 _ rfl).1
        have x5 := (hB 5 _ rfl).1
        have x6 := (hB 6 _ rfl).1
        have x7 := (hB 7 _ rfl).1
        have x8 := (hB 8 _ rfl).1
        have x9 := (hB 9 _ rfl).1
        have x10 := (hB 10 _ rfl).1
        have x11 := (hB 11 _ rfl).1
        go_wp2_with fail
        obtain ⟨W9, hW9⟩ : ∃ W9 : World, W9 = ((((((((((((wr.setCell ⟨w.heap.size + 1, 0, none⟩ (.int .i64 a0)).setCell ⟨w.heap.size + 1, 1, none⟩ (.int .i64 a1)).setCell ⟨w.heap.size + 1, 2, none⟩ (.int .i64 a2)).setCell ⟨w.heap.size + 1, 3, none⟩ (.int .i64 b0)).setCell ⟨w.heap.size + 1, 4, none⟩ (.int .i64 b1)).setCell ⟨w.heap.size + 1, 5, none⟩ (.int .i64 b2)).setCell ⟨w.heap.size + 1, 6, none⟩ (.int .i64 c0)).setCell ⟨w.heap.size + 1, 7, none⟩ (.int .i64 c1)).setCell ⟨w.heap.size + 1, 8, none⟩ (.int .i64 c2)).setCell ⟨w.heap.size + 1, 9, none⟩ (.int .i64 (f0 + gk 0 ps gs k))).setCell ⟨w.heap.size + 1, 10, none⟩ (.int .i64 (f1 + gk 1 ps gs k))).setCell ⟨w.heap.size + 1, 11, none⟩ (.int .i64 (f2 + gk 2 ps gs k))) := ⟨_, rfl⟩
        rw [← hW9]
        have B9 : Bx W9 (w.heap.size + 1) [.int .i64 a0, .int .i64 a1, .int .i64 a2, .int .i64 b0, .int .i64 b1, .int .i64 b2, .int .i64 c0, .int .i64 c1, .int .i64 c2, .int .i64 (f0 + gk 0 ps gs k), .int .i64 (f1 + gk 1 ps gs k), .int .i64 (f2 + gk 2 ps gs k)] := by rw [hW9]; exact (bx_set (bx_set (bx_set (bx_set (bx_set (bx_set (bx_set (bx_set (bx_set (bx_set (bx_set (bx_set hZ 0 _) 1 _) 2 _) 3 _) 4 _) 5 _) 6 _) 7 _) 8 _) 9 _) 10 _) 11 _)
        have U9 : Up w W9 := by rw [hW9]; exact (by repeat' (first | (with_reducible exact up_refl _) | (with_reducible assumption) | (with_reducible refine up_alloc ?_ _) | (with_reducible refine up_drewN ?_ _) | (with_reducible refine up_drew ?_) | (with_reducible refine up_set ?_ (by first | (simp; done) | (simp; omega) | omega) _) | (refine up_trans ?_ (by with_reducible assumption))))
        clear hW9
        have p0 := (B9 0 _ rfl).1
        have p1 := (B9 1 _ rfl).1
        have p2 := (B9 2 _ rfl).1
        have p3 := (B9 3 _ rfl).1
        have p4 := (B9 4 _ rfl).1
        have p5 := (B9 5 _ rfl).1
        have p6 := (B9 6 _ rfl).1
        have p7 := (B9 7 _ rfl).1
        have p8 := (B9 8 _ rfl).1
        have p9 := (B9 9 _ rfl).1
        have p10 := (B9 10 _ rfl).1
        have p11 := (B9 11 _ rfl).1
        refine bodyPost_ret (v := .tuple #[.agg #[.int .i64 a0, .int .i64 a1, .int .i64 a2, .int .i64 b0, .int .i64 b1, .int .i64 b2, .int .i64 c0, .int .i64 c1, .int .i64 c2, .int .i64 (f0 + gk 0 ps gs k), .int .i64 (f1 + gk 1 ps gs k), .int .i64 (f2 + gk 2 ps gs k)], .int .i64 0]) ?_ rfl (unhide qb3 _ U9)
        simp [results, Try.results73, go_sem, p0, p1, p2, p3, p4, p5, p6, p7, p8, p9, p10, p11]
end Go.Proofs.Ytgjcpgmnflpdkaa
