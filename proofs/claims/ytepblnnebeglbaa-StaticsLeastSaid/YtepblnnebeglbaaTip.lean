/- Which platforms are valid; their parts at a point, and what tips. -/
import Derived.Test.YtepblnnebeglbaaPSum
import Derived.Test.YtepblnnebeglbaaParts
import Derived.Test.YtepblnnebeglbaaLever
namespace Go.Proofs.Ytepblnnebeglbaa
open Go.RowKit Go.Proofs.Gn
def chE (ps : List Gs.Sup) : Int := if ps.length < 3 ∨ 48 < ps.length then 6 else if Gs.okA ps then (if Gs.wh ps = 0 then 9 else 0) else 2
abbrev n9 (ps : List Gs.Sup) : Value := m9 (Gs.cN 0 ps) (Gs.cX 0 ps) (Gs.cY 0 ps) (Gs.cN 1 ps) (Gs.cX 1 ps) (Gs.cY 1 ps) (Gs.cN 2 ps) (Gs.cX 2 ps) (Gs.cY 2 ps)
theorem p_sums9 (A : Option Addr) (ps : List Gs.Sup) (cap : Nat) (ho : Gs.okA ps = true) (hn : ps.length ≤ 48) (w : World) (h : Sups w A ps) :
    Calls Try.prog 22 #[.slice A ps.length cap] w fun e w' => e = .returned (n9 ps) ∧ Up w w' := p_sums A ps cap w h ho hn
theorem p_det9 {ps : List Gs.Sup} (ho : Gs.okA ps = true) (hn : ps.length ≤ 48) (w : World) :
    Calls Try.prog 41 #[n9 ps] w fun e w' => e = .returned (.int .i64 (Gs.wh ps)) ∧ Up w w' :=
  p_determinant (Gs.row_of ho hn 0 (.inl rfl)) (Gs.row_of ho hn 1 (.inr (.inl rfl))) (Gs.row_of ho hn 2 (.inr (.inr rfl))) w
theorem okA_step {ps : List Gs.Sup} {k : Nat} (h : k < ps.length) (ho : Gs.okA (ps.take k) = true) : (Gs.okS ps[k] = true → Gs.okA (ps.take (k + 1)) = true) ∧ (Gs.okS ps[k] = false → Gs.okA ps = false) :=
  ⟨fun hs => by rw [Gs.okA_take_succ h, ho, hs]; rfl, fun hs => Gs.okA_at h hs⟩
set_option maxHeartbeats 4000000 in
theorem p_Check (A : Option Addr) (ps : List Gs.Sup) (cap : Nat) (w : World) (h : Sups w A ps) (hn : ps.length ≤ 9223372036854775807) :
    Calls Try.prog 31 #[.slice A ps.length cap] w fun e w' => e = .returned (.int .i64 (chE ps)) ∧ Up w w' := by
  unfold chE
  by_cases c1 : ps.length < 3 ∨ 48 < ps.length
  · rw [if_pos c1]
    obtain ⟨n, hN⟩ : ∃ n, ps.length = n := ⟨_, rfl⟩
    rw [hN] at c1 hn ⊢
    clear hN h
    rcases c1 with c1 | c1
    · go_enter Try.func31, Try.ntmps31
      go_wp2_with fail
      go_ret
      exact ⟨rfl, (by repeat' (first | (with_reducible exact up_refl _) | (with_reducible assumption) | (with_reducible refine up_alloc ?_ _) | (with_reducible refine up_drewN ?_ _) | (with_reducible refine up_drew ?_) | (with_reducible refine up_set ?_ (by first | (simp; done) | (simp; omega) | omega) _) | (refine up_trans ?_ (by with_reducible assumption))))⟩
    · go_enter Try.func31, Try.ntmps31
      go_wp2_with fail
      go_ret
      exact ⟨rfl, (by repeat' (first | (with_reducible exact up_refl _) | (with_reducible assumption) | (with_reducible refine up_alloc ?_ _) | (with_reducible refine up_drewN ?_ _) | (with_reducible refine up_drew ?_) | (with_reducible refine up_set ?_ (by first | (simp; done) | (simp; omega) | omega) _) | (refine up_trans ?_ (by with_reducible assumption))))⟩
  rw [if_neg c1]
  obtain ⟨E, hE⟩ : ∃ E : Int, (if Gs.okA ps = true then (if Gs.wh ps = 0 then 9 else 0) else 2) = E := ⟨_, rfl⟩
  rw [hE]
  have HE := hide hE
  clear hE
  have hP := hide h
  rcases h with rfl | ⟨b, off, rfl, hc⟩
  · simp at c1
  have HC := hide hc
  clear hc
  have HSum := hide (fun (ho : Gs.okA ps = true) (W : World) (hW : Up w W) => p_sums9 (some ⟨b, off, none⟩) ps cap ho (by omega) W (sups_up (unhide hP) hW))
  have HDet := hide (fun (ho : Gs.okA ps = true) (W : World) => p_det9 ho (by omega) W)
  obtain ⟨n, hN⟩ : ∃ n, ps.length = n := ⟨_, rfl⟩
  rw [hN] at c1 HSum ⊢
  have c2 : 3 ≤ n ∧ n ≤ 48 := by omega
  have HN := hide hN
  clear hN hn c1 hP
  obtain ⟨c2, c3⟩ := c2
  go_enter Try.func31, Try.ntmps31
  go_wp2_with fail
  go_loopw [15] (fun i wr => ∃ k : Nat, k ≤ n ∧ i = .int .i64 k ∧ Up w wr ∧ Gs.okA (ps.take k) = true) (fun i _ => n - (intOf i).toNat)
  case atStart => exact ⟨0, by omega, rfl, up_refl _, rfl⟩
  case round =>
    obtain ⟨k, hk, rfl, hu, ho⟩ := hrel
    have HO := hide ho
    clear ho
    by_cases hlt : k < n
    · have hl : k < ps.length := by rw [unhide HN]; exact hlt
      obtain ⟨d0, d1, d2, d3, d4, d5⟩ := supAt_up (unhide HC k hl) hu
      have HS := hide (fun W => p_isSupport ps[k] W)
      have HT := hide (okA_step hl (unhide HO))
      obtain ⟨x, hx⟩ : ∃ x, ps[k].x = x := ⟨_, rfl⟩
      obtain ⟨y, hy⟩ : ∃ x, ps[k].y = x := ⟨_, rfl⟩
      obtain ⟨g, hg⟩ : ∃ x, ps[k].g = x := ⟨_, rfl⟩
      obtain ⟨m, hm⟩ : ∃ x, ps[k].lim = x := ⟨_, rfl⟩
      obtain ⟨lo, hlo⟩ : ∃ x, ps[k].lo = x := ⟨_, rfl⟩
      obtain ⟨hi, hhi⟩ : ∃ x, ps[k].hi = x := ⟨_, rfl⟩
      unfold sv at HS
      rw [hx] at d0 HS
      rw [hy] at d1 HS
      rw [hg] at d2 HS
      rw [hm] at d3 HS
      rw [hlo] at d4 HS
      rw [hhi] at d5 HS
      clear hx hy hg hm hlo hhi
      cases hs : Gs.okS ps[k]
      · rw [hs] at HS
        have HV := hide ((unhide HT).2 hs)
        clear hs HT
        go_wp2_with (go_at_call 46; (with_reducible refine (unhide HS _).mono ?_); rintro e w1 ⟨rfl, hb⟩)
        go_ret
        exact ⟨ret_int (by rw [← unhide HE, unhide HV]; rfl), (by repeat' (first | (with_reducible exact up_refl _) | (with_reducible assumption) | (with_reducible refine up_alloc ?_ _) | (with_reducible refine up_drewN ?_ _) | (with_reducible refine up_drew ?_) | (with_reducible refine up_set ?_ (by first | (simp; done) | (simp; omega) | omega) _) | (refine up_trans ?_ (by with_reducible assumption))))⟩
      · rw [hs] at HS
        have HV := hide ((unhide HT).1 hs)
        clear hs HT
        go_wp2_with (go_at_call 46; (with_reducible refine (unhide HS _).mono ?_); rintro e w1 ⟨rfl, hb⟩)
        go_roundw
        case rel => exact ⟨k + 1, by omega, by go_num, (by repeat' (first | (with_reducible exact up_refl _) | (with_reducible assumption) | (with_reducible refine up_alloc ?_ _) | (with_reducible refine up_drewN ?_ _) | (with_reducible refine up_drew ?_) | (with_reducible refine up_set ?_ (by first | (simp; done) | (simp; omega) | omega) _) | (refine up_trans ?_ (by with_reducible assumption)))), unhide HV⟩
        case measure => simp [intOf]; omega
    · obtain rfl : k = n := by omega
      have ho : Gs.okA ps = true := by
        have := unhide HO
        rwa [List.take_of_length_le (by rw [unhide HN]; omega)] at this
      have hS := hide (unhide HSum ho)
      have hD := hide (unhide HDet ho)
      obtain ⟨D, hDv⟩ : ∃ D, Gs.wh ps = D := ⟨_, rfl⟩
      rw [hDv] at hD
      have HE2 := unhide HE
      rw [ho, hDv, if_pos rfl] at HE2
      clear ho HSum HDet hDv HE
      by_cases hz : D = 0
      · subst hz
        obtain rfl : (9 : Int) = E := HE2
        go_wp2_with (first | (go_at_call 22; (with_reducible refine (unhide hS _ (by repeat' (first | (with_reducible exact up_refl _) | (with_reducible assumption) | (with_reducible refine up_alloc ?_ _) | (with_reducible refine up_drewN ?_ _) | (with_reducible refine up_drew ?_) | (with_reducible refine up_set ?_ (by first | (simp; done) | (simp; omega) | omega) _) | (refine up_trans ?_ (by with_reducible assumption))))).mono ?_); rintro e w1 ⟨rfl, hb⟩) | (go_at_call 41; (with_reducible refine (unhide hD _).mono ?_); rintro e w2 ⟨rfl, hb2⟩))
        go_ret
        exact ⟨rfl, (by repeat' (first | (with_reducible exact up_refl _) | (with_reducible assumption) | (with_reducible refine up_alloc ?_ _) | (with_reducible refine up_drewN ?_ _) | (with_reducible refine up_drew ?_) | (with_reducible refine up_set ?_ (by first | (simp; done) | (simp; omega) | omega) _) | (refine up_trans ?_ (by with_reducible assumption))))⟩
      · rw [if_neg hz] at HE2
        obtain rfl : (0 : Int) = E := HE2
        have hz2 : (D == 0) = false := by simp; exact hz
        go_wp2_with (first | (go_at_call 22; (with_reducible refine (unhide hS _ (by repeat' (first | (with_reducible exact up_refl _) | (with_reducible assumption) | (with_reducible refine up_alloc ?_ _) | (with_reducible refine up_drewN ?_ _) | (with_reducible refine up_drew ?_) | (with_reducible refine up_set ?_ (by first | (simp; done) | (simp; omega) | omega) _) | (refine up_trans ?_ (by with_reducible assumption))))).mono ?_); rintro e w1 ⟨rfl, hb⟩) | (go_at_call 41; (with_reducible refine (unhide hD _).mono ?_); rintro e w2 ⟨rfl, hb2⟩))
        go_ret
        exact ⟨rfl, (by repeat' (first | (with_reducible exact up_refl _) | (with_reducible assumption) | (with_reducible refine up_alloc ?_ _) | (with_reducible refine up_drewN ?_ _) | (with_reducible refine up_drew ?_) | (with_reducible refine up_set ?_ (by first | (simp; done) | (simp; omega) | omega) _) | (refine up_trans ?_ (by with_reducible assumption))))⟩
/-! ### At a point -/
def ptB (X Y : Int) : Bool := win X (-262144) 262144 && win Y (-262144) 262144
def ptE (X Y : Int) : Int := if ptB X Y then 0 else 3
theorem p_checkPoint (X Y : Int) (w : World) : Calls Try.prog 32 #[pt X Y] w fun e w' => e = .returned (.int .i64 (ptE X Y)) ∧ Up w w' := by
  have H1 : ∀ W : World, Calls Try.prog 29 #[.int .i64 X, .int .i64 (-262144), .int .i64 262144] W fun e w' => e = .returned (.bool (win X (-262144) 262144)) ∧ W = w' := fun W => p_within _ _ _ W
  have H2 : ∀ W : World, Calls Try.prog 29 #[.int .i64 Y, .int .i64 (-262144), .int .i64 262144] W fun e w' => e = .returned (.bool (win Y (-262144) 262144)) ∧ W = w' := fun W => p_within _ _ _ W
  unfold ptE ptB
  generalize win X (-262144) 262144 = b1 at *
  generalize win Y (-262144) 262144 = b2 at *
  have h1 := hide H1
  have h2 := hide H2
  clear H1 H2
  cases b1
  · show Calls Try.prog 32 #[pt X Y] w fun e w' => e = .returned (.int .i64 3) ∧ Up w w'
    go_enter Try.func32, Try.ntmps32
    go_wp2_with (first | (go_at_call 29; (with_reducible refine (unhide h1 _).mono ?_); rintro e w1 ⟨rfl, rfl⟩) | (go_at_call 29; (with_reducible refine (unhide h2 _).mono ?_); rintro e w1 ⟨rfl, rfl⟩))
    go_ret
    exact ⟨rfl, (by repeat' (first | (with_reducible exact up_refl _) | (with_reducible assumption) | (with_reducible refine up_alloc ?_ _) | (with_reducible refine up_drewN ?_ _) | (with_reducible refine up_drew ?_) | (with_reducible refine up_set ?_ (by first | (simp; done) | (simp; omega) | omega) _) | (refine up_trans ?_ (by with_reducible assumption))))⟩
  cases b2
  · show Calls Try.prog 32 #[pt X Y] w fun e w' => e = .returned (.int .i64 3) ∧ Up w w'
    go_enter Try.func32, Try.ntmps32
    go_wp2_with (first | (go_at_call 29; (with_reducible refine (unhide h1 _).mono ?_); rintro e w1 ⟨rfl, rfl⟩) | (go_at_call 29; (with_reducible refine (unhide h2 _).mono ?_); rintro e w1 ⟨rfl, rfl⟩))
    go_ret
    exact ⟨rfl, (by repeat' (first | (with_reducible exact up_refl _) | (with_reducible assumption) | (with_reducible refine up_alloc ?_ _) | (with_reducible refine up_drewN ?_ _) | (with_reducible refine up_drew ?_) | (with_reducible refine up_set ?_ (by first | (simp; done) | (simp; omega) | omega) _) | (refine up_trans ?_ (by with_reducible assumption))))⟩
  · show Calls Try.prog 32 #[pt X Y] w fun e w' => e = .returned (.int .i64 0) ∧ Up w w'
    go_enter Try.func32, Try.ntmps32
    go_wp2_with (first | (go_at_call 29; (with_reducible refine (unhide h1 _).mono ?_); rintro e w1 ⟨rfl, rfl⟩) | (go_at_call 29; (with_reducible refine (unhide h2 _).mono ?_); rintro e w1 ⟨rfl, rfl⟩))
    go_ret
    exact ⟨rfl, (by repeat' (first | (with_reducible exact up_refl _) | (with_reducible assumption) | (with_reducible refine up_alloc ?_ _) | (with_reducible refine up_drewN ?_ _) | (with_reducible refine up_drew ?_) | (with_reducible refine up_set ?_ (by first | (simp; done) | (simp; omega) | omega) _) | (refine up_trans ?_ (by with_reducible assumption))))⟩
def atE (ps : List Gs.Sup) (X Y : Int) : Int := if chE ps = 0 then ptE X Y else chE ps
theorem p_checkAt (A : Option Addr) (ps : List Gs.Sup) (cap : Nat) (X Y : Int) (hn : ps.length ≤ 9223372036854775807) (w : World) (h : Sups w A ps) :
    Calls Try.prog 27 #[.slice A ps.length cap, pt X Y] w fun e w' => e = .returned (.int .i64 (atE ps X Y)) ∧ Up w w' := by
  have hC := hide (fun (W : World) (hW : Up w W) => p_Check A ps cap W (sups_up h hW) hn)
  have hP := hide (fun W => p_checkPoint X Y W)
  unfold atE
  clear h hn
  obtain ⟨n, hN⟩ : ∃ n, ps.length = n := ⟨_, rfl⟩
  rw [hN] at hC ⊢
  clear hN
  generalize chE ps = C at *
  generalize ptE X Y = D at *
  by_cases c : C = 0
  · subst c
    rw [if_pos rfl]
    go_enter Try.func27, Try.ntmps27
    go_wp2_with (first | (go_at_call 31; (with_reducible refine (unhide hC _ (by repeat' (first | (with_reducible exact up_refl _) | (with_reducible assumption) | (with_reducible refine up_alloc ?_ _) | (with_reducible refine up_drewN ?_ _) | (with_reducible refine up_drew ?_) | (with_reducible refine up_set ?_ (by first | (simp; done) | (simp; omega) | omega) _) | (refine up_trans ?_ (by with_reducible assumption))))).mono ?_); rintro e w1 ⟨rfl, hb⟩; have k0_0 : w1.cell? ⟨w.heap.size, 0, none⟩ = some (.int .i64 X) := up_cell hb (by first | (with_reducible assumption) | (refine alloc_cell _ ?_; with_reducible assumption) | go_cell); have k0_1 : w1.cell? ⟨w.heap.size, 1, none⟩ = some (.int .i64 Y) := up_cell hb (by first | (with_reducible assumption) | (refine alloc_cell _ ?_; with_reducible assumption) | go_cell)) | (go_at_call 32; (with_reducible refine (unhide hP _).mono ?_); rintro e w2 ⟨rfl, hb2⟩))
    go_ret
    exact ⟨rfl, (by repeat' (first | (with_reducible exact up_refl _) | (with_reducible assumption) | (with_reducible refine up_alloc ?_ _) | (with_reducible refine up_drewN ?_ _) | (with_reducible refine up_drew ?_) | (with_reducible refine up_set ?_ (by first | (simp; done) | (simp; omega) | omega) _) | (refine up_trans ?_ (by with_reducible assumption))))⟩
  · rw [if_neg c]
    have c2 : (C == 0) = false := by simp; exact c
    go_enter Try.func27, Try.ntmps27
    go_wp2_with (first | (go_at_call 31; (with_reducible refine (unhide hC _ (by repeat' (first | (with_reducible exact up_refl _) | (with_reducible assumption) | (with_reducible refine up_alloc ?_ _) | (with_reducible refine up_drewN ?_ _) | (with_reducible refine up_drew ?_) | (with_reducible refine up_set ?_ (by first | (simp; done) | (simp; omega) | omega) _) | (refine up_trans ?_ (by with_reducible assumption))))).mono ?_); rintro e w1 ⟨rfl, hb⟩; have k0_0 : w1.cell? ⟨w.heap.size, 0, none⟩ = some (.int .i64 X) := up_cell hb (by first | (with_reducible assumption) | (refine alloc_cell _ ?_; with_reducible assumption) | go_cell); have k0_1 : w1.cell? ⟨w.heap.size, 1, none⟩ = some (.int .i64 Y) := up_cell hb (by first | (with_reducible assumption) | (refine alloc_cell _ ?_; with_reducible assumption) | go_cell)) | (go_at_call 32; (with_reducible refine (unhide hP _).mono ?_); rintro e w2 ⟨rfl, hb2⟩))
    go_ret
    exact ⟨rfl, (by repeat' (first | (with_reducible exact up_refl _) | (with_reducible assumption) | (with_reducible refine up_alloc ?_ _) | (with_reducible refine up_drewN ?_ _) | (with_reducible refine up_drew ?_) | (with_reducible refine up_set ?_ (by first | (simp; done) | (simp; omega) | omega) _) | (refine up_trans ?_ (by with_reducible assumption))))⟩
end Go.Proofs.Ytepblnnebeglbaa
