/- What the two sides' Along return, with its errors. -/
import Derived.Test.YtcheojkjcncfkaaRefAt
namespace Go.Proofs.Ytcheojkjcncfkaa
open Go.RowKit Go.Proofs.Gn
/-- The error of Along. -/
def alE (ps : Pl) (s : Int) : Int := if wayE ps = 0 then if 0 ≤ s ∧ s ≤ wayV ps then 0 else 3 else wayE ps
/-- The point of Along, and its piece. -/
def alT (ps : Pl) (s : Int) : Int × Int × Int := if wayE ps = 0 then if 0 ≤ s ∧ s ≤ wayV ps then atT ps (ps.length - 1) 0 s else (0, 0, 0) else (0, 0, 0)
theorem way_ok {ps : Pl} (h : wayE ps = 0) : ps.length ≤ 256 ∧ okL ps = true ∧ 0 < ps.length ∧ wayV ps = lon ps (ps.length - 1) ∧ 0 ≤ wayV ps ∧ wayV ps ≤ 17112760320 := by
  have h2 : ps.length ≤ 256 ∧ okL ps = true ∧ 0 < ps.length := by
    unfold wayE at h
    by_cases c1 : ps.length ≤ 256
    · cases c2 : okL ps
      · simp [c1, c2] at h
      · by_cases c3 : 0 < ps.length
        · exact ⟨c1, rfl, c3⟩
        · simp [c1, c2, c3] at h
    · simp [c1] at h
  have h3 : wayB ps = true := by simp [wayB, h2.1, h2.2.1, h2.2.2]
  have h4 : wayV ps = lon ps (ps.length - 1) := by unfold wayV; rw [if_pos h3]
  have h5 := lon_bd h2.2.1 (ps.length - 1) (by omega)
  refine ⟨h2.1, h2.2.1, h2.2.2, h4, by omega, by omega⟩
set_option maxHeartbeats 2000000 in
theorem p_Along (A : Option Addr) (ps : Pl) (cap : Nat) (s : Int) (w : World) (h : Pts w A ps) (hn : ps.length ≤ 9223372036854775807) :
    Calls Try.prog 32 #[.slice A ps.length cap, .int .i64 s] w fun e w' => e = .returned (.tuple #[pt (alT ps s).1 (alT ps s).2.1, .int .i64 (alT ps s).2.2, .int .i64 (alE ps s)]) ∧ Up w w' := by
  have HP := hide h
  have hok := @way_ok ps
  have PL : ∀ W : World, Pts W A ps → Calls Try.prog 31 #[.slice A ps.length cap] W fun e w' => e = .returned (.tuple #[.int .i64 (wayV ps), .int .i64 (wayE ps)]) ∧ Up W w' := fun W hW => p_Length A ps cap W hW hn
  have PA : 0 ≤ s ∧ s ≤ wayV ps → wayE ps = 0 → ∀ W : World, Pts W A ps → Calls Try.prog 64 #[.slice A ps.length cap, .int .i64 s] W fun e w' => e = .returned (atR (atT ps (ps.length - 1) 0 s)) ∧ Up W w' := fun hs he W hW => by
    have q := hok he
    exact p_along A ps cap s W hW q.1 q.2.2.1 q.2.1 hs.1 (by omega)
  unfold alT alE
  obtain ⟨E, hE⟩ : ∃ E, wayE ps = E := ⟨_, rfl⟩
  obtain ⟨V, hV⟩ : ∃ V, wayV ps = V := ⟨_, rfl⟩
  obtain ⟨T, hT⟩ : ∃ T, atT ps (ps.length - 1) 0 s = T := ⟨_, rfl⟩
  rw [hE, hV] at PL
  rw [hE, hV, hT] at PA
  rw [hE, hV, hT]
  obtain ⟨X, Y, Z⟩ := T
  have HPL := hide PL
  clear PL h hok hE hV hT
  by_cases he : E = 0
  · subst he
    by_cases hs : 0 ≤ s ∧ s ≤ V
    · have PA2 : ∀ W : World, Pts W A ps → Calls Try.prog 64 #[.slice A ps.length cap, .int .i64 s] W fun e w' => e = .returned (.tuple #[pt X Y, .int .i64 Z]) ∧ Up W w' := PA hs rfl
      have HPA := hide PA2
      clear PA2
      clear PA
      simp only [if_pos hs, if_true]
      obtain ⟨s0, s1⟩ := hs
      go_enter Try.func32, Try.ntmps32
      go_wp2_with (first | (go_at_call 31; (with_reducible refine (unhide HPL _ (pts_up (unhide HP) (by repeat' (first | (with_reducible exact up_refl _) | (with_reducible assumption) | (with_reducible refine up_alloc ?_ _) | (with_reducible refine up_drewN ?_ _) | (with_reducible refine up_drew ?_) | (with_reducible refine up_set ?_ (by first | (simp; done) | (simp; omega) | omega) _) | (refine up_trans ?_ (by with_reducible assumption)))))).mono ?_); rintro e w1 ⟨rfl, hb1⟩; have k0_0 : w1.cell? ⟨w.heap.size, 0, none⟩ = some (.int .i64 0) := up_cell hb1 (by first | (with_reducible assumption) | (refine alloc_cell _ ?_; with_reducible assumption) | go_cell); have f0_0 : w1.frozen? ⟨w.heap.size, 0, none⟩ = false := up_frozen hb1 (v := .int .i64 0) (by first | (with_reducible assumption) | (refine alloc_cell _ ?_; with_reducible assumption) | go_cell) (by first | (with_reducible assumption) | (refine alloc_frozen (v := .int .i64 0) _ ?_ ?_ <;> with_reducible assumption) | (simp; done) | (go_simp; done)); have k0_1 : w1.cell? ⟨w.heap.size, 1, none⟩ = some (.int .i64 0) := up_cell hb1 (by first | (with_reducible assumption) | (refine alloc_cell _ ?_; with_reducible assumption) | go_cell); have f0_1 : w1.frozen? ⟨w.heap.size, 1, none⟩ = false := up_frozen hb1 (v := .int .i64 0) (by first | (with_reducible assumption) | (refine alloc_cell _ ?_; with_reducible assumption) | go_cell) (by first | (with_reducible assumption) | (refine alloc_frozen (v := .int .i64 0) _ ?_ ?_ <;> with_reducible assumption) | (simp; done) | (go_simp; done))) | (go_at_call 64; (with_reducible refine (unhide HPA _ (pts_up (unhide HP) (by repeat' (first | (with_reducible exact up_refl _) | (with_reducible assumption) | (with_reducible refine up_alloc ?_ _) | (with_reducible refine up_drewN ?_ _) | (with_reducible refine up_drew ?_) | (with_reducible refine up_set ?_ (by first | (simp; done) | (simp; omega) | omega) _) | (refine up_trans ?_ (by with_reducible assumption)))))).mono ?_); rintro e w2 ⟨rfl, hb2⟩; have i0 := up_cell hb2 k0_0; have i1 := up_cell hb2 k0_1; have i2 := up_frozen hb2 k0_0 f0_0; have i3 := up_frozen hb2 k0_1 f0_1; have j0 := fun o => alloc_cell o i0; have j1 := fun o => alloc_cell o i1; have j2 : ∀ o, (w2.alloc o).frozen? ⟨w.heap.size, 0, none⟩ = false := fun o => alloc_frozen o i0 i2; have j3 : ∀ o, (w2.alloc o).frozen? ⟨w.heap.size, 1, none⟩ = false := fun o => alloc_frozen o i1 i3))
      exact bodyPost_ret (v := .tuple #[pt X Y, .int .i64 Z, .int .i64 0]) (by simp [results, Try.results32, go_sem, *]) rfl ⟨rfl, (by repeat' (first | (with_reducible exact up_refl _) | (with_reducible assumption) | (with_reducible refine up_alloc ?_ _) | (with_reducible refine up_drewN ?_ _) | (with_reducible refine up_drew ?_) | (with_reducible refine up_set ?_ (by first | (simp; done) | (simp; omega) | omega) _) | (refine up_trans ?_ (by with_reducible assumption))))⟩
    · clear PA
      simp only [if_neg hs, if_true]
      by_cases s0 : s < 0
      · go_enter Try.func32, Try.ntmps32
        go_wp2_with (first | (go_at_call 31; (with_reducible refine (unhide HPL _ (pts_up (unhide HP) (by repeat' (first | (with_reducible exact up_refl _) | (with_reducible assumption) | (with_reducible refine up_alloc ?_ _) | (with_reducible refine up_drewN ?_ _) | (with_reducible refine up_drew ?_) | (with_reducible refine up_set ?_ (by first | (simp; done) | (simp; omega) | omega) _) | (refine up_trans ?_ (by with_reducible assumption)))))).mono ?_); rintro e w1 ⟨rfl, hb1⟩; have k0_0 : w1.cell? ⟨w.heap.size, 0, none⟩ = some (.int .i64 0) := up_cell hb1 (by first | (with_reducible assumption) | (refine alloc_cell _ ?_; with_reducible assumption) | go_cell); have f0_0 : w1.frozen? ⟨w.heap.size, 0, none⟩ = false := up_frozen hb1 (v := .int .i64 0) (by first | (with_reducible assumption) | (refine alloc_cell _ ?_; with_reducible assumption) | go_cell) (by first | (with_reducible assumption) | (refine alloc_frozen (v := .int .i64 0) _ ?_ ?_ <;> with_reducible assumption) | (simp; done) | (go_simp; done)); have k0_1 : w1.cell? ⟨w.heap.size, 1, none⟩ = some (.int .i64 0) := up_cell hb1 (by first | (with_reducible assumption) | (refine alloc_cell _ ?_; with_reducible assumption) | go_cell); have f0_1 : w1.frozen? ⟨w.heap.size, 1, none⟩ = false := up_frozen hb1 (v := .int .i64 0) (by first | (with_reducible assumption) | (refine alloc_cell _ ?_; with_reducible assumption) | go_cell) (by first | (with_reducible assumption) | (refine alloc_frozen (v := .int .i64 0) _ ?_ ?_ <;> with_reducible assumption) | (simp; done) | (go_simp; done))))
        exact bodyPost_ret (v := .tuple #[pt 0 0, .int .i64 0, .int .i64 3]) (by simp [results, Try.results32, go_sem, *]) rfl ⟨rfl, (by repeat' (first | (with_reducible exact up_refl _) | (with_reducible assumption) | (with_reducible refine up_alloc ?_ _) | (with_reducible refine up_drewN ?_ _) | (with_reducible refine up_drew ?_) | (with_reducible refine up_set ?_ (by first | (simp; done) | (simp; omega) | omega) _) | (refine up_trans ?_ (by with_reducible assumption))))⟩
      · have s1 : V < s := by omega
        go_enter Try.func32, Try.ntmps32
        go_wp2_with (first | (go_at_call 31; (with_reducible refine (unhide HPL _ (pts_up (unhide HP) (by repeat' (first | (with_reducible exact up_refl _) | (with_reducible assumption) | (with_reducible refine up_alloc ?_ _) | (with_reducible refine up_drewN ?_ _) | (with_reducible refine up_drew ?_) | (with_reducible refine up_set ?_ (by first | (simp; done) | (simp; omega) | omega) _) | (refine up_trans ?_ (by with_reducible assumption)))))).mono ?_); rintro e w1 ⟨rfl, hb1⟩; have k0_0 : w1.cell? ⟨w.heap.size, 0, none⟩ = some (.int .i64 0) := up_cell hb1 (by first | (with_reducible assumption) | (refine alloc_cell _ ?_; with_reducible assumption) | go_cell); have f0_0 : w1.frozen? ⟨w.heap.size, 0, none⟩ = false := up_frozen hb1 (v := .int .i64 0) (by first | (with_reducible assumption) | (refine alloc_cell _ ?_; with_reducible assumption) | go_cell) (by first | (with_reducible assumption) | (refine alloc_frozen (v := .int .i64 0) _ ?_ ?_ <;> with_reducible assumption) | (simp; done) | (go_simp; done)); have k0_1 : w1.cell? ⟨w.heap.size, 1, none⟩ = some (.int .i64 0) := up_cell hb1 (by first | (with_reducible assumption) | (refine alloc_cell _ ?_; with_reducible assumption) | go_cell); have f0_1 : w1.frozen? ⟨w.heap.size, 1, none⟩ = false := up_frozen hb1 (v := .int .i64 0) (by first | (with_reducible assumption) | (refine alloc_cell _ ?_; with_reducible assumption) | go_cell) (by first | (with_reducible assumption) | (refine alloc_frozen (v := .int .i64 0) _ ?_ ?_ <;> with_reducible assumption) | (simp; done) | (go_simp; done))))
        exact bodyPost_ret (v := .tuple #[pt 0 0, .int .i64 0, .int .i64 3]) (by simp [results, Try.results32, go_sem, *]) rfl ⟨rfl, (by repeat' (first | (with_reducible exact up_refl _) | (with_reducible assumption) | (with_reducible refine up_alloc ?_ _) | (with_reducible refine up_drewN ?_ _) | (with_reducible refine up_drew ?_) | (with_reducible refine up_set ?_ (by first | (simp; done) | (simp; omega) | omega) _) | (refine up_trans ?_ (by with_reducible assumption))))⟩
  · clear PA
    simp only [if_neg he]
    go_enter Try.func32, Try.ntmps32
    go_wp2_with (first | (go_at_call 31; (with_reducible refine (unhide HPL _ (pts_up (unhide HP) (by repeat' (first | (with_reducible exact up_refl _) | (with_reducible assumption) | (with_reducible refine up_alloc ?_ _) | (with_reducible refine up_drewN ?_ _) | (with_reducible refine up_drew ?_) | (with_reducible refine up_set ?_ (by first | (simp; done) | (simp; omega) | omega) _) | (refine up_trans ?_ (by with_reducible assumption)))))).mono ?_); rintro e w1 ⟨rfl, hb1⟩; have k0_0 : w1.cell? ⟨w.heap.size, 0, none⟩ = some (.int .i64 0) := up_cell hb1 (by first | (with_reducible assumption) | (refine alloc_cell _ ?_; with_reducible assumption) | go_cell); have f0_0 : w1.frozen? ⟨w.heap.size, 0, none⟩ = false := up_frozen hb1 (v := .int .i64 0) (by first | (with_reducible assumption) | (refine alloc_cell _ ?_; with_reducible assumption) | go_cell) (by first | (with_reducible assumption) | (refine alloc_frozen (v := .int .i64 0) _ ?_ ?_ <;> with_reducible assumption) | (simp; done) | (go_simp; done)); have k0_1 : w1.cell? ⟨w.heap.size, 1, none⟩ = some (.int .i64 0) := up_cell hb1 (by first | (with_reducible assumption) | (refine alloc_cell _ ?_; with_reducible assumption) | go_cell); have f0_1 : w1.frozen? ⟨w.heap.size, 1, none⟩ = false := up_frozen hb1 (v := .int .i64 0) (by first | (with_reducible assumption) | (refine alloc_cell _ ?_; with_reducible assumption) | go_cell) (by first | (with_reducible assumption) | (refine alloc_frozen (v := .int .i64 0) _ ?_ ?_ <;> with_reducible assumption) | (simp; done) | (go_simp; done))))
    exact bodyPost_ret (v := .tuple #[pt 0 0, .int .i64 0, .int .i64 E]) (by simp [results, Try.results32, go_sem, *]) rfl ⟨rfl, (by repeat' (first | (with_reducible exact up_refl _) | (with_reducible assumption) | (with_reducible refine up_alloc ?_ _) | (with_reducible refine up_drewN ?_ _) | (with_reducible refine up_drew ?_) | (with_reducible refine up_set ?_ (by first | (simp; done) | (simp; omega) | omega) _) | (refine up_trans ?_ (by with_reducible assumption))))⟩
end Go.Proofs.Ytcheojkjcncfkaa
