/- What Length returns, of the program and of the document's own answers. -/
import Derived.Test.YtcheojkjcncfkaaLists
import Derived.Test.YtcheojkjcncfkaaMathB
import Derived.Deep.DeepCutAuto
namespace Go.Proofs.Ytcheojkjcncfkaa
open Go.RowKit Go.Proofs.Gn
/-- The length of the piece k, and of the first k pieces. -/
def px (ps : Pl) (k : Nat) : Int := (ps.getD k (0, 0)).1
def py (ps : Pl) (k : Nat) : Int := (ps.getD k (0, 0)).2
def far (ps : Pl) (k : Nat) : Int := root (sqd (px ps k) (py ps k) (px ps (k + 1)) (py ps (k + 1)))
def lon (ps : Pl) : Nat → Int
  | 0 => 0
  | k + 1 => lon ps k + far ps k
theorem lon_succ (ps : Pl) (k : Nat) : lon ps (k + 1) = lon ps k + far ps k := rfl
/-- A list that is looked at: not too long, its points valid, not empty. -/
def wayB (ps : Pl) : Bool := decide (ps.length ≤ 256) && okL ps && decide (0 < ps.length)
def wayE (ps : Pl) : Int := if ps.length ≤ 256 then if okL ps then if 0 < ps.length then 0 else 5 else 2 else 6
def wayV (ps : Pl) : Int := if wayB ps then lon ps (ps.length - 1) else 0
theorem okL_get {ps : Pl} (h : okL ps = true) {k : Nat} (hk : k < ps.length) : okp (px ps k) (py ps k) = true := by
  unfold px py
  rw [List.getD_eq_getElem?_getD, List.getElem?_eq_getElem hk]
  have := List.all_eq_true.1 h ps[k] (List.getElem_mem hk)
  simpa using this
theorem pts_get {w : World} {b off : Nat} {ps : Pl} (hc : ∀ k (h : k < ps.length), w.cell? ⟨b, off + k * 2, none⟩ = some (.int .i64 ps[k].1) ∧ w.cell? ⟨b, off + k * 2 + 1, none⟩ = some (.int .i64 ps[k].2)) {k : Nat} (hk : k < ps.length) :
    w.cell? ⟨b, off + k * 2, none⟩ = some (.int .i64 (px ps k)) ∧ w.cell? ⟨b, off + k * 2 + 1, none⟩ = some (.int .i64 (py ps k)) := by
  unfold px py
  rw [List.getD_eq_getElem?_getD, List.getElem?_eq_getElem hk]
  exact hc k hk
theorem far_bd {ps : Pl} (h : okL ps = true) {k : Nat} (hk : k + 1 < ps.length) : 0 ≤ far ps k ∧ far ps k ≤ 67108864 := by
  have a := okL_get h (k := k) (by omega)
  have b := okL_get h hk
  have a1 := okc_yes (okp_yes a).1
  have a2 := okc_yes (okp_yes a).2
  have b1 := okc_yes (okp_yes b).1
  have b2 := okc_yes (okp_yes b).2
  refine ⟨root_nonneg _, root_le (sqd_nonneg _ _ _ _) (by omega) ?_⟩
  unfold sqd
  have m1 := mul_bd2 (u := px ps (k + 1) - px ps k) (v := px ps (k + 1) - px ps k) (by omega) (by omega) (by omega) (by omega)
  have m2 := mul_bd2 (u := py ps (k + 1) - py ps k) (v := py ps (k + 1) - py ps k) (by omega) (by omega) (by omega) (by omega)
  omega
theorem lon_bd {ps : Pl} (h : okL ps = true) : ∀ k : Nat, k < ps.length → 0 ≤ lon ps k ∧ lon ps k ≤ 67108864 * (k : Int) := by
  intro k
  induction k with
  | zero => intro _; simp [lon]
  | succ k ih =>
    intro hk
    have a := ih (by omega)
    have b := far_bd h hk
    rw [lon_succ]
    omega
theorem p_distanceO {ax ay bx b_y : Int} (o1 : okp ax ay = true) (o2 : okp bx b_y = true) (w : World) :
    Calls Try.prog 63 #[pt ax ay, pt bx b_y] w fun e w' => e = .returned (.int .i64 (root (sqd ax ay bx b_y))) ∧ Up w w' :=
  p_distance ax ay bx b_y w (okp_bd o1).1 (okp_bd o1).2 (okp_bd o2).1 (okp_bd o2).2
theorem chkLL_one (A : Option Addr) (ps : Pl) (cap : Nat) : chkLL [⟨A, ps, cap⟩] = if ps.length ≤ 256 then if okL ps then 0 else 2 else 6 := by
  simp [chkLL, fewB, okLL]
set_option maxHeartbeats 1000000 in
theorem p_Length (A : Option Addr) (ps : Pl) (cap : Nat) (w : World) (h : Pts w A ps) (hn : ps.length ≤ 9223372036854775807) :
    Calls Try.prog 31 #[.slice A ps.length cap] w fun e w' => e = .returned (.tuple #[.int .i64 (wayV ps), .int .i64 (wayE ps)]) ∧ Up w w' := by
  have HP := hide h
  have hck := chkLL_one A ps cap
  unfold wayV wayE wayB
  by_cases c1 : ps.length ≤ 256
  · rw [if_pos c1] at hck
    rw [if_pos c1, decide_eq_true c1]
    cases c2 : okL ps
    · rw [c2] at hck
      have hv : chkLL [⟨A, ps, cap⟩] = 2 := by rw [hck]; rfl
      clear hck c2
      go_enter Try.func31, Try.ntmps31
      go_wp2_with (go_at_call 36; refine (p_checkLists _ [⟨A, ps, cap⟩] _ _ (lss_one (l := ⟨A, ps, cap⟩) (by unfold Lst.val; go_cell) (pts_up (unhide HP) (by repeat' (first | (with_reducible exact up_refl _) | (with_reducible assumption) | (with_reducible refine up_alloc ?_ _) | (with_reducible refine up_drewN ?_ _) | (with_reducible refine up_drew ?_) | (with_reducible refine up_set ?_ (by first | (simp; done) | (simp; omega) | omega) _) | (refine up_trans ?_ (by with_reducible assumption))))) hn) (by simp)).mono ?_; rintro e w1 ⟨rfl, hb⟩)
      go_ret2
      exact ⟨rfl, (by repeat' (first | (with_reducible exact up_refl _) | (with_reducible assumption) | (with_reducible refine up_alloc ?_ _) | (with_reducible refine up_drewN ?_ _) | (with_reducible refine up_drew ?_) | (with_reducible refine up_set ?_ (by first | (simp; done) | (simp; omega) | omega) _) | (refine up_trans ?_ (by with_reducible assumption))))⟩
    · rw [c2] at hck
      have hv : chkLL [⟨A, ps, cap⟩] = 0 := by rw [hck]; rfl
      have HO := hide c2
      clear hck c2
      by_cases c3 : 0 < ps.length
      · rw [if_pos c3, decide_eq_true c3]
        rcases h with rfl | ⟨b, off, rfl, hc⟩
        · simp at c3
        have HC := hide hc
        clear hc
        obtain ⟨n, hN⟩ : ∃ n, ps.length = n := ⟨_, rfl⟩
        rw [hN] at c1 c3 hn ⊢
        have HN := hide hN
        clear hN
        have hn0 : ((n : Int) == 0) = false := by simp; omega
        go_enter Try.func31, Try.ntmps31
        go_wp2_with (go_at_call 36; refine (p_checkLists _ [⟨some ⟨b, off, none⟩, ps, cap⟩] _ _ (lss_one (l := ⟨some ⟨b, off, none⟩, ps, cap⟩) (by unfold Lst.val; rw [unhide HN]; go_cell) (pts_up (unhide HP) (by repeat' (first | (with_reducible exact up_refl _) | (with_reducible assumption) | (with_reducible refine up_alloc ?_ _) | (with_reducible refine up_drewN ?_ _) | (with_reducible refine up_drew ?_) | (with_reducible refine up_set ?_ (by first | (simp; done) | (simp; omega) | omega) _) | (refine up_trans ?_ (by with_reducible assumption))))) (by rw [unhide HN]; exact hn)) (by simp)).mono ?_; rintro e w1 ⟨rfl, hb⟩)
        have hU : Up w w1 := (by repeat' (first | (with_reducible exact up_refl _) | (with_reducible assumption) | (with_reducible refine up_alloc ?_ _) | (with_reducible refine up_drewN ?_ _) | (with_reducible refine up_drew ?_) | (with_reducible refine up_set ?_ (by first | (simp; done) | (simp; omega) | omega) _) | (refine up_trans ?_ (by with_reducible assumption))))
        go_loopw [5, 19] (fun s i wr => ∃ k : Nat, k ≤ n - 1 ∧ i = .int .i64 k ∧ s = .int .i64 (lon ps k) ∧ Up w wr) (fun _ i _ => n - (intOf i).toNat)
        case atStart => exact ⟨0, by omega, rfl, rfl, hU⟩
        case round =>
          obtain ⟨k, hk, rfl, rfl, hu⟩ := hrel
          by_cases hlt : k < n - 1
          · have hl0 : k < ps.length := by rw [unhide HN]; omega
            have hl1 : k + 1 < ps.length := by rw [unhide HN]; omega
            have q0 := pts_get (unhide HC) hl0
            have q1 := pts_get (unhide HC) hl1
            have d0 := up_cell hu q0.1
            have d1 := up_cell hu q0.2
            have d2 := up_cell hu q1.1
            have d3 := up_cell hu q1.2
            have lb := lon_bd (unhide HO) k hl0
            have fb := far_bd (unhide HO) hl1
            have o0 := hide (okL_get (unhide HO) hl0)
            have o1 := hide (okL_get (unhide HO) hl1)
            obtain ⟨L, hL⟩ : ∃ L, lon ps k = L := ⟨_, rfl⟩
            obtain ⟨F, hF⟩ : ∃ F, far ps k = F := ⟨_, rfl⟩
            have hL2 := lon_succ ps k
            rw [hL] at lb hL2 ⊢
            rw [hF] at fb hL2
            unfold far at hF
            obtain ⟨x0, hx0⟩ : ∃ x, px ps k = x := ⟨_, rfl⟩
            obtain ⟨y0, hy0⟩ : ∃ x, py ps k = x := ⟨_, rfl⟩
            obtain ⟨x1, hx1⟩ : ∃ x, px ps (k + 1) = x := ⟨_, rfl⟩
            obtain ⟨y1, hy1⟩ : ∃ x, py ps (k + 1) = x := ⟨_, rfl⟩
            rw [hx0] at d0 o0 hF
            rw [hy0] at d1 o0 hF
            rw [hx1] at d2 o1 hF
            rw [hy1] at d3 o1 hF
            have HL := hide hL
            have HL2 := hide hL2
            have PD : ∀ W : World, Calls Try.prog 63 #[pt x0 y0, pt x1 y1] W fun e w' => e = .returned (.int .i64 F) ∧ Up W w' := fun W => by
              have := p_distanceO (unhide o0) (unhide o1) W
              rwa [hF] at this
            have HPD := hide PD
            clear PD hF hL hL2 hx0 hy0 hx1 hy1 q0 q1
            go_wp2_with fail
            have e1 : IntKind.i64.wrap ((k : Int) + 1) = (k : Int) + 1 := IntWalk.i64_in _ ⟨by omega, by omega⟩
            have e2 : (0 : Int) ≤ (k : Int) + 1 := by omega
            have e3 : ((k : Int) + 1).toNat = k + 1 := by omega
            have e4 : IntKind.i64.wrap (L + F) = L + F := IntWalk.i64_in _ ⟨by omega, by omega⟩
            have e5 : (k : Int) < (n : Int) := by omega
            have e6 : (k : Int) + 1 < (n : Int) := by omega
            have keep := st_and (st_cell ⟨b, off + k * 2, none⟩ (.int .i64 x0)) (st_and (st_cell ⟨b, off + k * 2 + 1, none⟩ (.int .i64 y0)) (st_and (st_cell ⟨b, off + (k + 1) * 2, none⟩ (.int .i64 x1)) (st_and (st_cell ⟨b, off + (k + 1) * 2 + 1, none⟩ (.int .i64 y1)) (st_up w))))
            have hkeep := hide keep
            clear keep
            go_region_held3 (fun wx => wx.cell? ⟨b, off + k * 2, none⟩ = some (.int .i64 x0) ∧ wx.cell? ⟨b, off + k * 2 + 1, none⟩ = some (.int .i64 y0) ∧ wx.cell? ⟨b, off + (k + 1) * 2, none⟩ = some (.int .i64 x1) ∧ wx.cell? ⟨b, off + (k + 1) * 2 + 1, none⟩ = some (.int .i64 y1) ∧ Up w wx) ((first | exact ⟨d0, d1, d2, d3, up_drew hu⟩ | (with_reducible assumption) | exact unhide hkeep _ _ hb3 (by assumption)))
              (first | (go_at_call 63; (with_reducible refine (unhide HPD _).mono ?_); rintro e w3 ⟨rfl, hb3⟩))
            have hS : w3.cell? ⟨b, off + k * 2, none⟩ = some (.int .i64 x0) ∧ w3.cell? ⟨b, off + k * 2 + 1, none⟩ = some (.int .i64 y0) ∧ w3.cell? ⟨b, off + (k + 1) * 2, none⟩ = some (.int .i64 x1) ∧ w3.cell? ⟨b, off + (k + 1) * 2 + 1, none⟩ = some (.int .i64 y1) ∧ Up w w3 := by assumption
            have hu3 := hS.2.2.2.2
            clear hS e1 e2 e3 e4
            go_wp2_with fail
            go_roundw
            case rel => exact ⟨k + 1, by omega, by go_num, by rw [unhide HL2], hu3⟩
            case measure => simp [intOf]; omega
          · have hv2 : lon ps k = lon ps (n - 1) := by rw [show k = n - 1 by omega]
            have HV := hide hv2
            clear hv2
            go_wp2_with fail
            go_ret2
            exact ⟨by simp [unhide HV], hu⟩
      · have h0 : ps.length = 0 := by omega
        rw [if_neg c3, decide_eq_false c3]
        rw [h0]
        clear c1 c3 hn
        have H0 := hide h0
        clear h0
        go_enter Try.func31, Try.ntmps31
        go_wp2_with (go_at_call 36; refine (p_checkLists _ [⟨A, ps, cap⟩] _ _ (lss_one (l := ⟨A, ps, cap⟩) (by unfold Lst.val; rw [unhide H0]; go_cell) (pts_up (unhide HP) (by repeat' (first | (with_reducible exact up_refl _) | (with_reducible assumption) | (with_reducible refine up_alloc ?_ _) | (with_reducible refine up_drewN ?_ _) | (with_reducible refine up_drew ?_) | (with_reducible refine up_set ?_ (by first | (simp; done) | (simp; omega) | omega) _) | (refine up_trans ?_ (by with_reducible assumption))))) (by rw [unhide H0]; omega)) (by simp)).mono ?_; rintro e w1 ⟨rfl, hb⟩)
        go_ret2
        exact ⟨rfl, (by repeat' (first | (with_reducible exact up_refl _) | (with_reducible assumption) | (with_reducible refine up_alloc ?_ _) | (with_reducible refine up_drewN ?_ _) | (with_reducible refine up_drew ?_) | (with_reducible refine up_set ?_ (by first | (simp; done) | (simp; omega) | omega) _) | (refine up_trans ?_ (by with_reducible assumption))))⟩
  · rw [if_neg c1] at hck
    rw [if_neg c1, decide_eq_false c1]
    clear c1
    go_enter Try.func31, Try.ntmps31
    go_wp2_with (go_at_call 36; refine (p_checkLists _ [⟨A, ps, cap⟩] _ _ (lss_one (l := ⟨A, ps, cap⟩) (by unfold Lst.val; go_cell) (pts_up (unhide HP) (by repeat' (first | (with_reducible exact up_refl _) | (with_reducible assumption) | (with_reducible refine up_alloc ?_ _) | (with_reducible refine up_drewN ?_ _) | (with_reducible refine up_drew ?_) | (with_reducible refine up_set ?_ (by first | (simp; done) | (simp; omega) | omega) _) | (refine up_trans ?_ (by with_reducible assumption))))) hn) (by simp)).mono ?_; rintro e w1 ⟨rfl, hb⟩)
    go_ret2
    exact ⟨rfl, (by repeat' (first | (with_reducible exact up_refl _) | (with_reducible assumption) | (with_reducible refine up_alloc ?_ _) | (with_reducible refine up_drewN ?_ _) | (with_reducible refine up_drew ?_) | (with_reducible refine up_set ?_ (by first | (simp; done) | (simp; omega) | omega) _) | (refine up_trans ?_ (by with_reducible assumption))))⟩
/-! ### The document's own answers -/
def ptsE (ps : Pl) : Int := if ps.length ≤ 256 then if okL ps then 0 else 2 else 6
theorem r_points (A : Option Addr) (ps : Pl) (cap : Nat) (w : World) (h : Pts w A ps) (hn : ps.length ≤ 9223372036854775807) :
    Calls Try.prog 38 #[.slice A ps.length cap] w fun e w' => e = .returned (.int .i64 (ptsE ps)) ∧ Up w w' := by
  by_cases c1 : ps.length ≤ 256
  · have hz1 : ptsE ps = if okL ps then 0 else 2 := by unfold ptsE; rw [if_pos c1]
    have HZ1 := hide hz1
    clear hz1
    rcases h with rfl | ⟨b, off, rfl, hc⟩
    · go_enter Try.func38, Try.ntmps38
      go_wp2_with fail
      go_rounds 1
      go_ret
      exact ⟨ret_int (by decide), up_refl _⟩
    have HC := hide hc
    clear hc
    obtain ⟨n, hN⟩ : ∃ n, ps.length = n := ⟨_, rfl⟩
    rw [hN] at c1 ⊢
    have HN := hide hN
    clear hN hn
    go_enter Try.func38, Try.ntmps38
    go_wp2_with fail
    go_loopw [3] (fun i wr => ∃ k : Nat, k ≤ n ∧ i = .int .i64 k ∧ Up w wr ∧ okL (ps.take k) = true) (fun i _ => n - (intOf i).toNat)
    case atStart => exact ⟨0, by omega, rfl, up_refl _, rfl⟩
    case round =>
      obtain ⟨k, hk, rfl, hu, ho⟩ := hrel
      have HO := hide ho
      clear ho
      by_cases hlt : k < n
      · have hl : k < ps.length := by rw [unhide HN]; exact hlt
        have hck := unhide HC k hl
        have c0 := up_cell hu hck.1
        have c1 := up_cell hu hck.2
        obtain ⟨x, hx⟩ : ∃ x, ps[k].1 = x := ⟨_, rfl⟩
        obtain ⟨y, hy⟩ : ∃ y, ps[k].2 = y := ⟨_, rfl⟩
        rw [hx] at c0
        rw [hy] at c1
        have HX := hide hx
        have HY := hide hy
        clear hx hy hck
        cases hp : okp x y
        · have HP := hide hp
          go_wp2_with (go_at_call 44; refine (r_Is _ _ _).mono ?_; rintro e w' ⟨rfl, hb⟩)
          go_ret
          refine ⟨ret_int ?_, (by repeat' (first | (with_reducible exact up_refl _) | (with_reducible assumption) | (with_reducible refine up_alloc ?_ _) | (with_reducible refine up_drewN ?_ _) | (with_reducible refine up_drew ?_) | (with_reducible refine up_set ?_ (by first | (simp; done) | (simp; omega) | omega) _) | (refine up_trans ?_ (by with_reducible assumption))))⟩
          rw [unhide HZ1, okL_at hl (by rw [unhide HX, unhide HY]; exact unhide HP)]
          rfl
        · have HP := hide hp
          go_wp2_with (go_at_call 44; refine (r_Is _ _ _).mono ?_; rintro e w' ⟨rfl, hb⟩)
          go_roundw
          case rel => exact ⟨k + 1, by omega, by go_num, (by repeat' (first | (with_reducible exact up_refl _) | (with_reducible assumption) | (with_reducible refine up_alloc ?_ _) | (with_reducible refine up_drewN ?_ _) | (with_reducible refine up_drew ?_) | (with_reducible refine up_set ?_ (by first | (simp; done) | (simp; omega) | omega) _) | (refine up_trans ?_ (by with_reducible assumption)))), by rw [okL_take_succ hl, unhide HO, unhide HX, unhide HY, unhide HP]; rfl⟩
          case measure => simp [intOf]; omega
      · obtain rfl : k = n := by omega
        have hz : okL ps = true := by
          have := unhide HO
          rwa [List.take_of_length_le (by rw [unhide HN]; omega)] at this
        have HZ := hide hz
        clear hz
        go_wp2_with fail
        go_ret
        exact ⟨ret_int (by rw [unhide HZ1, unhide HZ]; rfl), hu⟩
  · have hz1 : ptsE ps = 6 := by unfold ptsE; rw [if_neg c1]
    have HZ1 := hide hz1
    clear hz1
    go_enter Try.func38, Try.ntmps38
    go_wp2_with fail
    go_ret
    exact ⟨ret_int (unhide HZ1).symm, up_refl _⟩
end Go.Proofs.Ytcheojkjcncfkaa
