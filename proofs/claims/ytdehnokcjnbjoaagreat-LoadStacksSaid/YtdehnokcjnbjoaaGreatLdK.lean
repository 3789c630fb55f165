/- load.need of the example's load. -/
import Derived.Test.YtdehnokcjnbjoaaGreatLdJ
import Derived.Test.YtdehnokcjnbjoaaGreatPcs
import Derived.Test.YtdehnokcjnbjoaaGreatValid
namespace Go.Proofs.YtdehnokcjnbjoaaGreat
open Go.RowKit Go.Proofs.Gn
attribute [local go_sem] Oper.semAt_some
set_option linter.unusedVariables false
/-- A shake along. -/
abbrev shV (x : Int) : Value := .agg #[.int .i64 x, .int .i64 0, .int .i64 1000]
theorem bxd3 (w : World) (x y z : List Value) (T S R : TypeId) : Bx (((w.alloc (.cells x.toArray T)).alloc (.cells y.toArray S)).alloc (.cells z.toArray R)) w.heap.size x ∧ Bx (((w.alloc (.cells x.toArray T)).alloc (.cells y.toArray S)).alloc (.cells z.toArray R)) (w.heap.size + 1) y ∧ Bx (((w.alloc (.cells x.toArray T)).alloc (.cells y.toArray S)).alloc (.cells z.toArray R)) (w.heap.size + 1 + 1) z := by
  refine ⟨bx_alloc (bx_alloc (bx_new w _ _) _) _, ?_, ?_⟩
  · have q := bx_alloc (bx_new (w.alloc (.cells x.toArray T)) y S) (.cells z.toArray R)
    rw [World.size_alloc] at q
    exact q
  · have q := bx_new ((w.alloc (.cells x.toArray T)).alloc (.cells y.toArray S)) z R
    rw [World.size_alloc, World.size_alloc] at q
    exact q
set_option maxRecDepth 100000 in
set_option maxHeartbeats 16000000 in
theorem p_needH (s : ByteArray) (A : Option Addr) (ps : List Pce) (capA : Nat) (B : Option Addr) (m capB : Nat) (x : Int) (w : World) (hA : Pcs w A ps) (ho : okPs ps = true) (hn : ps.length ≤ 32) (hm : mas ps = 5000) (hx : 0 ≤ x ∧ x ≤ 301) :
    Calls Tryz.prog 85 #[loV s A ps.length capA B m capB 300, shV x] w fun e w' => e = .returned (pt ((5000 * x + 999) / 1000) 0) ∧ Up w w' := by
  have HM := hide (fun W (hW : Up w W) => (show Calls Tryz.prog 51 #[.slice A ps.length capA] W fun e w' => e = .returned (.int .i64 5000) ∧ Up W w' from by
    have q := p_mass A ps capA W (pcs_up hA hW) ho hn
    rw [hm] at q
    exact q))
  have HT := hide (fun W => p_tUp (5000 * x) W (by omega))
  have HT0 := hide (fun W => (show Calls Tryz.prog 127 #[.int .i64 0] W fun e w' => e = .returned (.int .i64 0) ∧ W = w' from p_tUp 0 W (by omega)))
  have e1 : IntKind.i64.wrap (5000 * x) = 5000 * x := i64_small (by omega)
  have e0 : IntKind.i64.wrap 0 = 0 := by decide
  obtain ⟨n, hnn⟩ : ∃ n, ps.length = n := ⟨_, rfl⟩
  rw [hnn] at HM ⊢
  obtain ⟨r, hr⟩ : ∃ r, (5000 * x + 999) / 1000 = r := ⟨_, rfl⟩
  obtain ⟨y, hy⟩ : ∃ y, 5000 * x = y := ⟨_, rfl⟩
  rw [hr] at HT ⊢
  rw [hy] at HT e1
  have HY := hide hy
  clear hA ho hn hm hnn hr
  go_enter Tryz.func85, Tryz.ntmps85
  go_upto_region 1 with fail
  refine at_wpC (fun W0 hW0 => ?_)
  have U0 : Up w W0 := by rw [hW0]; exact (by repeat' (first | (with_reducible exact up_refl _) | (with_reducible assumption) | (with_reducible refine up_alloc ?_ _) | (with_reducible refine up_drewN ?_ _) | (with_reducible refine up_drew ?_) | (with_reducible refine up_set ?_ (by first | (simp; done) | (simp; omega) | omega) _) | (refine up_trans ?_ (by with_reducible assumption))))
  obtain ⟨bL, bS, bR⟩ : Bx W0 w.heap.size [.string s, .slice A n capA, .slice B m capB, .int .i64 300] ∧ Bx W0 (w.heap.size + 1) [.int .i64 x, .int .i64 0, .int .i64 1000] ∧ Bx W0 (w.heap.size + 1 + 1) [.int .i64 0, .int .i64 0] := by
    rw [hW0]
    exact bxd3 w [.string s, .slice A n capA, .slice B m capB, .int .i64 300] [.int .i64 x, .int .i64 0, .int .i64 1000] [.int .i64 0, .int .i64 0] _ _ _
  clear hW0
  have l1 := (bL 1 _ rfl).1
  go_upto_region 2 with (go_at_call 51; (with_reducible refine (unhide HM _ U0).mono ?_); rintro e w1 ⟨rfl, u1⟩; have bS1 := bx_up bS u1; have bR1 := bx_up bR u1; have U1 := up_trans U0 u1; have s0 := (bS1 0 _ rfl).1; have s1 := (bS1 1 _ rfl).1; have s2 := (bS1 2 _ rfl).1; have r0 := (bR1 0 _ rfl).1; have r1 := (bR1 1 _ rfl).1; have f0 := (bR1 0 _ rfl).2; have f1 := (bR1 1 _ rfl).2; clear bL bS bR U0 u1 l1)
  go_region_law (first
    | (refine step_callL _ rfl 127 #[.int .i64 y] ?_ ?_; (· (go_simp; done)); refine (unhide HT _).mono ?_; rintro e w7 ⟨rfl, rfl⟩; refine ⟨_, rfl, ?_⟩)
    | (refine step_callL _ rfl 127 #[.int .i64 0] ?_ ?_; (· (go_simp; done)); refine (unhide HT0 _).mono ?_; rintro e w7 ⟨rfl, rfl⟩; refine ⟨_, rfl, ?_⟩))
  all_goals
    have B9 := bx_set (bx_set bR1 0 (.int .i64 r)) 1 (.int .i64 0)
    have U9 := up_set (up_set U1 (p := ⟨w.heap.size + 1 + 1, 0, none⟩) (by simp only; omega) (.int .i64 r)) (p := ⟨w.heap.size + 1 + 1, 1, none⟩) (by simp only; omega) (.int .i64 0)
    generalize (w1.setCell ⟨w.heap.size + 1 + 1, 0, none⟩ (.int .i64 r)).setCell ⟨w.heap.size + 1 + 1, 1, none⟩ (.int .i64 0) = W9 at B9 U9 ⊢
    have z0 := (bx_up B9 (up_drew (up_refl W9)) 0 _ rfl).1
    have z1 := (bx_up B9 (up_drew (up_refl W9)) 1 _ rfl).1
    go_wp2_with fail
    refine bodyPost_ret (v := pt r 0) (by simp [results, Tryz.f85, go_sem, z0, z1]) rfl ?_
    exact ⟨rfl, up_drew U9⟩
end Go.Proofs.YtdehnokcjnbjoaaGreat
