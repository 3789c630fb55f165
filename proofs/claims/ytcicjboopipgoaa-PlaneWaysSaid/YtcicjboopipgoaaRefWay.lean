/- What Length returns: the document's own answers. -/
import Derived.Test.YtcicjboopipgoaaWay
namespace Go.Proofs.Ytcicjboopipgoaa
open Go.RowKit Go.Proofs.Gn
set_option maxHeartbeats 1000000 in
theorem r_Long (A : Option Addr) (ps : Pl) (cap : Nat) (w : World) (h : Pts w A ps) (c1 : ps.length ≤ 256) (c3 : 0 < ps.length) (ho : okL ps = true) :
    Calls Try.prog 103 #[.slice A ps.length cap] w fun e w' => e = .returned (.int .i64 (lon ps (ps.length - 1))) ∧ Up w w' := by
  rcases h with rfl | ⟨b, off, rfl, hc⟩
  · simp at c3
  have HO := hide ho
  have HC := hide hc
  clear hc ho
  obtain ⟨n, hN⟩ : ∃ n, ps.length = n := ⟨_, rfl⟩
  rw [hN] at c1 c3 ⊢
  have HN := hide hN
  clear hN
  go_enter Try.func103, Try.ntmps103
  go_wp2_with fail
  go_loopw [3, 4] (fun s i wr => ∃ k : Nat, k ≤ n - 1 ∧ i = .int .i64 k ∧ s = .int .i64 (lon ps k) ∧ Up w wr) (fun _ i _ => n - (intOf i).toNat)
  case atStart => exact ⟨0, by omega, rfl, rfl, up_refl _⟩
  case round =>
    obtain ⟨k, hk, rfl, rfl, hu⟩ := hrel
    by_cases hlt : k < n - 1
    · have hlt2 : (k : Int) + 1 < (n : Int) := by omega
      have hl0 : k < ps.length := by rw [unhide HN]; omega
      have hl1 : k + 1 < ps.length := by rw [unhide HN]; omega
      have q0 := pts_get (unhide HC) hl0
      have q1 := pts_get (unhide HC) hl1
      have d0 := up_cell hu q0.1
      have d1 := up_cell hu q0.2
      have d2 := up_cell hu q1.1
      have d3 := up_cell hu q1.2
      have lb := lon_bd (unhide HO) k hl0
      have fb := far_bd (unhide HO) hl1
      have o0 := hide (okL_get (unhide HO) hl0)
      have o1 := hide (okL_get (unhide HO) hl1)
      obtain ⟨L, hL⟩ : ∃ L, lon ps k = L := ⟨_, rfl⟩
      obtain ⟨F, hF⟩ : ∃ F, far ps k = F := ⟨_, rfl⟩
      have hL2 := lon_succ ps k
      rw [hL] at lb hL2 ⊢
      rw [hF] at fb hL2
      unfold far at hF
      obtain ⟨x0, hx0⟩ : ∃ x, px ps k = x := ⟨_, rfl⟩
      obtain ⟨y0, hy0⟩ : ∃ x, py ps k = x := ⟨_, rfl⟩
      obtain ⟨x1, hx1⟩ : ∃ x, px ps (k + 1) = x := ⟨_, rfl⟩
      obtain ⟨y1, hy1⟩ : ∃ x, py ps (k + 1) = x := ⟨_, rfl⟩
      rw [hx0] at d0 o0 hF
      rw [hy0] at d1 o0 hF
      rw [hx1] at d2 o1 hF
      rw [hy1] at d3 o1 hF
      have HL := hide hL
      have HL2 := hide hL2
      have PD : ∀ W : World, Calls Try.prog 80 #[pt x0 y0, pt x1 y1] W fun e w' => e = .returned (.int .i64 F) ∧ Up W w' := fun W => by
        have := r_FarO (unhide o0) (unhide o1) W
        rwa [hF] at this
      have HPD := hide PD
      clear PD hF hL hL2 hx0 hy0 hx1 hy1 q0 q1
      go_wp2_with fail
      have e1 : IntKind.i64.wrap ((k : Int) + 1) = (k : Int) + 1 := IntWalk.i64_in _ ⟨by omega, by omega⟩
      have e2 : (0 : Int) ≤ (k : Int) + 1 := by omega
      have e3 : ((k : Int) + 1).toNat = k + 1 := by omega
      have e4 : IntKind.i64.wrap (L + F) = L + F := IntWalk.i64_in _ ⟨by omega, by omega⟩
      have e5 : (k : Int) < (n : Int) := by omega
      have e6 : (k : Int) + 1 < (n : Int) := by omega
      have keep := st_and (st_cell ⟨b, off + k * 2, none⟩ (.int .i64 x0)) (st_and (st_cell ⟨b, off + k * 2 + 1, none⟩ (.int .i64 y0)) (st_and (st_cell ⟨b, off + (k + 1) * 2, none⟩ (.int .i64 x1)) (st_and (st_cell ⟨b, off + (k + 1) * 2 + 1, none⟩ (.int .i64 y1)) (st_up w))))
      have hkeep := hide keep
      clear keep
      go_region_held3 (fun wx => wx.cell? ⟨b, off + k * 2, none⟩ = some (.int .i64 x0) ∧ wx.cell? ⟨b, off + k * 2 + 1, none⟩ = some (.int .i64 y0) ∧ wx.cell? ⟨b, off + (k + 1) * 2, none⟩ = some (.int .i64 x1) ∧ wx.cell? ⟨b, off + (k + 1) * 2 + 1, none⟩ = some (.int .i64 y1) ∧ Up w wx) ((first | exact ⟨d0, d1, d2, d3, up_drew hu⟩ | (with_reducible assumption) | exact unhide hkeep _ _ hb3 (by assumption)))
        (first | (go_at_call 80; (with_reducible refine (unhide HPD _).mono ?_); rintro e w3 ⟨rfl, hb3⟩))
      have hS : w3.cell? ⟨b, off + k * 2, none⟩ = some (.int .i64 x0) ∧ w3.cell? ⟨b, off + k * 2 + 1, none⟩ = some (.int .i64 y0) ∧ w3.cell? ⟨b, off + (k + 1) * 2, none⟩ = some (.int .i64 x1) ∧ w3.cell? ⟨b, off + (k + 1) * 2 + 1, none⟩ = some (.int .i64 y1) ∧ Up w w3 := by assumption
      have hu3 := hS.2.2.2.2
      clear hS e1 e2 e3 e4
      go_wp2_with fail
      go_roundw
      case rel => exact ⟨k + 1, by omega, by go_num, by rw [unhide HL2], hu3⟩
      case measure => simp [intOf]; omega
    · have hv2 : lon ps k = lon ps (n - 1) := by rw [show k = n - 1 by omega]
      have HV := hide hv2
      clear hv2
      have hlt2 : ¬ (k : Int) + 1 < (n : Int) := by omega
      go_wp2_with fail
      go_ret
      exact ⟨ret_int (unhide HV), hu⟩
theorem wayE_of (ps : Pl) : wayE ps = if ptsE ps = 0 then (if 0 < ps.length then 0 else 5) else ptsE ps := by
  unfold wayE ptsE
  split
  · split <;> simp
  · simp
theorem r_Length (A : Option Addr) (ps : Pl) (cap : Nat) (w : World) (h : Pts w A ps) (hn : ps.length ≤ 9223372036854775807) :
    Calls Try.prog 48 #[.slice A ps.length cap] w fun e w' => e = .returned (.tuple #[.int .i64 (wayV ps), .int .i64 (wayE ps)]) ∧ Up w w' := by
  have HP := hide h
  have hE := wayE_of ps
  unfold wayV wayB
  by_cases c1 : ps.length ≤ 256
  · rw [decide_eq_true c1]
    cases c2 : okL ps
    · have e1 : ptsE ps = 2 := by unfold ptsE; rw [if_pos c1, c2]; rfl
      rw [e1] at hE
      have e2 : wayE ps = 2 := hE
      rw [e2]
      clear hE e2 c2
      go_enter Try.func48, Try.ntmps48
      go_wp2_with (go_at_call 83; refine (r_points _ _ _ _ (unhide HP) hn).mono ?_; rintro e w1 ⟨rfl, hb⟩)
      go_ret2
      exact ⟨rfl, (by repeat' (first | (with_reducible exact up_refl _) | (with_reducible assumption) | (with_reducible refine up_alloc ?_ _) | (with_reducible refine up_drewN ?_ _) | (with_reducible refine up_drew ?_) | (with_reducible refine up_set ?_ (by first | (simp; done) | (simp; omega) | omega) _) | (refine up_trans ?_ (by with_reducible assumption))))⟩
    · have e1 : ptsE ps = 0 := by unfold ptsE; rw [if_pos c1, c2]; rfl
      rw [e1] at hE
      by_cases c3 : 0 < ps.length
      · have e2 : wayE ps = 0 := by rw [hE, if_pos rfl, if_pos c3]
        rw [e2, decide_eq_true c3, if_pos (show (true && true && true) = true from rfl)]
        have hn0 : ((ps.length : Int) == 0) = false := beq_eq_false_iff_ne.2 (by omega)
        have HO := hide c2
        clear hE e2 c2
        go_enter Try.func48, Try.ntmps48
        go_wp2_with (first | (go_at_call 83; refine (r_points _ _ _ _ (unhide HP) hn).mono ?_; rintro e w1 ⟨rfl, hb⟩) | (go_at_call 103; refine (r_Long _ _ _ _ (pts_up (unhide HP) hb) c1 c3 (unhide HO)).mono ?_; rintro e w2 ⟨rfl, hb2⟩))
        go_ret2
        exact ⟨rfl, (by repeat' (first | (with_reducible exact up_refl _) | (with_reducible assumption) | (with_reducible refine up_alloc ?_ _) | (with_reducible refine up_drewN ?_ _) | (with_reducible refine up_drew ?_) | (with_reducible refine up_set ?_ (by first | (simp; done) | (simp; omega) | omega) _) | (refine up_trans ?_ (by with_reducible assumption))))⟩
      · have e2 : wayE ps = 5 := by rw [hE, if_pos rfl, if_neg c3]
        rw [e2, decide_eq_false c3]
        have hn0 : ((ps.length : Int) == 0) = true := beq_iff_eq.2 (by omega)
        clear hE e2 c2
        go_enter Try.func48, Try.ntmps48
        go_wp2_with (first | (go_at_call 83; refine (r_points _ _ _ _ (unhide HP) hn).mono ?_; rintro e w1 ⟨rfl, hb⟩))
        go_ret2
        exact ⟨rfl, (by repeat' (first | (with_reducible exact up_refl _) | (with_reducible assumption) | (with_reducible refine up_alloc ?_ _) | (with_reducible refine up_drewN ?_ _) | (with_reducible refine up_drew ?_) | (with_reducible refine up_set ?_ (by first | (simp; done) | (simp; omega) | omega) _) | (refine up_trans ?_ (by with_reducible assumption))))⟩
  · have e1 : ptsE ps = 6 := by unfold ptsE; rw [if_neg c1]
    rw [e1] at hE
    have e2 : wayE ps = 6 := hE
    rw [e2, decide_eq_false c1]
    clear hE e2
    go_enter Try.func48, Try.ntmps48
    go_wp2_with (go_at_call 83; refine (r_points _ _ _ _ (unhide HP) hn).mono ?_; rintro e w1 ⟨rfl, hb⟩)
    go_ret2
    exact ⟨rfl, (by repeat' (first | (with_reducible exact up_refl _) | (with_reducible assumption) | (with_reducible refine up_alloc ?_ _) | (with_reducible refine up_drewN ?_ _) | (with_reducible refine up_drew ?_) | (with_reducible refine up_set ?_ (by first | (simp; done) | (simp; omega) | omega) _) | (refine up_trans ?_ (by with_reducible assumption))))⟩
end Go.Proofs.Ytcicjboopipgoaa
