/- PlaneWays: the law's function returns true. -/
import Derived.Test.YtcicjboopipgoaaAlongE
import Derived.Test.YtcicjboopipgoaaWorks
namespace Go.Proofs.Ytcicjboopipgoaa
open Go.RowKit Go.Proofs.Gn
set_option maxHeartbeats 4000000 in
theorem l_Ways (A : Option Addr) (ps : Pl) (cap : Nat) (s : Int) (w : World) (h : Pts w A ps) (hn : ps.length ≤ 9223372036854775807) :
    Calls Try.prog 6 #[.slice A ps.length cap, .int .i64 s] w fun e w' => e = .returned (.bool true) ∧ Below w.heap.size w w' := by
  have HP := hide h
  have PL : ∀ W : World, Pts W A ps → Calls Try.prog 47 #[.slice A ps.length cap] W fun e w' => e = .returned (.tuple #[.int .i64 (wayV ps), .int .i64 (wayE ps)]) ∧ Up W w' := fun W hW => p_Length A ps cap W hW hn
  have RL : ∀ W : World, Pts W A ps → Calls Try.prog 48 #[.slice A ps.length cap] W fun e w' => e = .returned (.tuple #[.int .i64 (wayV ps), .int .i64 (wayE ps)]) ∧ Up W w' := fun W hW => r_Length A ps cap W hW hn
  have PA : ∀ W : World, Pts W A ps → Calls Try.prog 49 #[.slice A ps.length cap, .int .i64 s] W fun e w' => e = .returned (.tuple #[pt (alT ps s).1 (alT ps s).2.1, .int .i64 (alT ps s).2.2, .int .i64 (alE ps s)]) ∧ Up W w' := fun W hW => p_Along A ps cap s W hW hn
  have RA : ∀ W : World, Pts W A ps → Calls Try.prog 50 #[.slice A ps.length cap, .int .i64 s] W fun e w' => e = .returned (.tuple #[pt (alT ps s).1 (alT ps s).2.1, .int .i64 (alT ps s).2.2, .int .i64 (alE ps s)]) ∧ Up W w' := fun W hW => r_Along A ps cap s W hW hn
  obtain ⟨E, hE⟩ : ∃ E, wayE ps = E := ⟨_, rfl⟩
  obtain ⟨V, hV⟩ : ∃ V, wayV ps = V := ⟨_, rfl⟩
  obtain ⟨X, hX⟩ : ∃ V, (alT ps s).1 = V := ⟨_, rfl⟩
  obtain ⟨Y, hY⟩ : ∃ V, (alT ps s).2.1 = V := ⟨_, rfl⟩
  obtain ⟨Z, hZ⟩ : ∃ V, (alT ps s).2.2 = V := ⟨_, rfl⟩
  obtain ⟨G, hG⟩ : ∃ V, alE ps s = V := ⟨_, rfl⟩
  rw [hE, hV] at PL RL
  rw [hX, hY, hZ, hG] at PA RA
  have HPL := hide PL
  have HRL := hide RL
  have HPA := hide PA
  have HRA := hide RA
  clear PL RL PA RA hE hV hX hY hZ hG h
  by_cases hl : ps.length ≤ 400
  · go_enter Try.func6, Try.ntmps6
    go_wp2_with (first
      | (go_at_call 47; (with_reducible refine (unhide HPL _ (pts_up (unhide HP) (by repeat' (first | (with_reducible exact up_refl _) | (with_reducible assumption) | (with_reducible refine up_alloc ?_ _) | (with_reducible refine up_drewN ?_ _) | (with_reducible refine up_drew ?_) | (with_reducible refine up_set ?_ (by first | (simp; done) | (simp; omega) | omega) _) | (refine up_trans ?_ (by with_reducible assumption)))))).mono ?_); rintro e w1 ⟨rfl, hb1⟩)
      | (go_at_call 48; (with_reducible refine (unhide HRL _ (pts_up (unhide HP) (by repeat' (first | (with_reducible exact up_refl _) | (with_reducible assumption) | (with_reducible refine up_alloc ?_ _) | (with_reducible refine up_drewN ?_ _) | (with_reducible refine up_drew ?_) | (with_reducible refine up_set ?_ (by first | (simp; done) | (simp; omega) | omega) _) | (refine up_trans ?_ (by with_reducible assumption)))))).mono ?_); rintro e w2 ⟨rfl, hb2⟩)
      | (go_at_call 49; (with_reducible refine (unhide HPA _ (pts_up (unhide HP) (by repeat' (first | (with_reducible exact up_refl _) | (with_reducible assumption) | (with_reducible refine up_alloc ?_ _) | (with_reducible refine up_drewN ?_ _) | (with_reducible refine up_drew ?_) | (with_reducible refine up_set ?_ (by first | (simp; done) | (simp; omega) | omega) _) | (refine up_trans ?_ (by with_reducible assumption)))))).mono ?_); rintro e w3 ⟨rfl, hb3⟩)
      | (go_at_call 50; (with_reducible refine (unhide HRA _ (pts_up (unhide HP) (by repeat' (first | (with_reducible exact up_refl _) | (with_reducible assumption) | (with_reducible refine up_alloc ?_ _) | (with_reducible refine up_drewN ?_ _) | (with_reducible refine up_drew ?_) | (with_reducible refine up_set ?_ (by first | (simp; done) | (simp; omega) | omega) _) | (refine up_trans ?_ (by with_reducible assumption)))))).mono ?_); rintro e w4 ⟨rfl, hb4⟩; have i0 : w4.cell? ⟨w3.heap.size, 0, none⟩ = some (.int .i64 X) := up_cell hb4 (by go_cell); have i1 : w4.cell? ⟨w3.heap.size, 1, none⟩ = some (.int .i64 Y) := up_cell hb4 (by go_cell); have j0 := fun o => alloc_cell o i0; have j1 := fun o => alloc_cell o i1)
      | (go_at_call 27; refine (l_works _).mono ?_; rintro e w5 ⟨rfl, hb5⟩))
    all_goals (refine bodyPost_ret (v := .bool true) (by simp [results, Try.results6, go_sem, *]) rfl ⟨rfl, (by repeat' (first | (with_reducible exact up_refl _) | (with_reducible assumption) | (with_reducible refine up_alloc ?_ _) | (with_reducible refine up_drewN ?_ _) | (with_reducible refine up_drew ?_) | (with_reducible refine up_set ?_ (by first | (simp; done) | (simp; omega) | omega) _) | (refine up_trans ?_ (by with_reducible assumption))))⟩)
  · go_enter Try.func6, Try.ntmps6
    go_wp2_with (go_at_call 27; refine (l_works _).mono ?_; rintro e w5 ⟨rfl, hb5⟩)
    all_goals (refine bodyPost_ret (v := .bool true) (by simp [results, Try.results6, go_sem, *]) rfl ⟨rfl, (by repeat' (first | (with_reducible exact up_refl _) | (with_reducible assumption) | (with_reducible refine up_alloc ?_ _) | (with_reducible refine up_drewN ?_ _) | (with_reducible refine up_drew ?_) | (with_reducible refine up_set ?_ (by first | (simp; done) | (simp; omega) | omega) _) | (refine up_trans ?_ (by with_reducible assumption))))⟩)
end Go.Proofs.Ytcicjboopipgoaa
