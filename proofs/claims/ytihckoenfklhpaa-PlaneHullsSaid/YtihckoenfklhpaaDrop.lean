/- A stack of points without what is on its top as long as it does not turn to the left. -/
import Derived.Test.YtihckoenfklhpaaSl
import Derived.Test.YtihckoenfklhpaaHullM
import Derived.Deep.DeepCutAuto
namespace Go.Proofs.Ytihckoenfklhpaa
open Go.RowKit Go.Proofs.Gn
/-- Far from the limits, all of them. -/
def BdL (ps : Pl) : Prop := ∀ p ∈ ps, Bd p.1 ∧ Bd p.2
theorem bdL_get {ps : Pl} (h : BdL ps) {k : Nat} (hk : k < ps.length) : Bd (Gx.g ps k).1 ∧ Bd (Gx.g ps k).2 := h _ (Gx.g_mem hk)
theorem pts_g {w : World} {b off : Nat} {ps : Pl} (hc : ∀ k (h : k < ps.length), w.cell? ⟨b, off + k * 2, none⟩ = some (.int .i64 ps[k].1) ∧ w.cell? ⟨b, off + k * 2 + 1, none⟩ = some (.int .i64 ps[k].2)) {k : Nat} (hk : k < ps.length) :
    w.cell? ⟨b, off + k * 2, none⟩ = some (.int .i64 (Gx.g ps k).1) ∧ w.cell? ⟨b, off + k * 2 + 1, none⟩ = some (.int .i64 (Gx.g ps k).2) := by
  rw [Gx.g_eq hk]
  exact hc k hk
theorem det_dt (a b c : Int × Int) : det a.1 a.2 b.1 b.2 c.1 c.2 = Gx.dt a b c := rfl
theorem cmp_le (d : Int) : decide (cmpV d 0 ≤ 0) = decide (d ≤ 0) := by
  unfold cmpV
  rw [Bool.eq_iff_iff]
  simp only [decide_eq_true_eq]
  split
  · omega
  · split <;> omega
theorem p_off0 (A : Option Addr) (n : Nat) (cap : Nat) (p : Addr) (w : World) (h : n < 2) :
    Calls Try.prog 92 #[.slice A n cap, .pointer (some p)] w fun e w' => e = .returned (.bool false) ∧ Up w w' := by
  have h1 : (n : Int) < 2 := by omega
  have h2 : decide ((2 : Int) ≤ (n : Int)) = false := by simp; omega
  go_enter Try.func92, Try.ntmps92
  go_wp2_with fail
  go_quiet (fail)
  all_goals go_wp2_with fail
  all_goals go_ret
  all_goals exact ⟨rfl, (by repeat' (first | (with_reducible exact up_refl _) | (with_reducible assumption) | (with_reducible refine up_alloc ?_ _) | (with_reducible refine up_drewN ?_ _) | (with_reducible refine up_drew ?_) | (with_reducible refine up_set ?_ (by first | (simp; done) | (simp; omega) | omega) _) | (refine up_trans ?_ (by with_reducible assumption))))⟩
set_option maxHeartbeats 1000000 in
theorem p_off2 (b off : Nat) (ps : Pl) (cap : Nat) (pb : Nat) (x y : Int) (w : World) (hc : ∀ k (h : k < ps.length), w.cell? ⟨b, off + k * 2, none⟩ = some (.int .i64 ps[k].1) ∧ w.cell? ⟨b, off + k * 2 + 1, none⟩ = some (.int .i64 ps[k].2))
    (hx : w.cell? ⟨pb, 0, none⟩ = some (.int .i64 x)) (hy : w.cell? ⟨pb, 1, none⟩ = some (.int .i64 y)) (n : Nat) (hn : ps.length = n + 2) (h63 : n + 2 ≤ 9223372036854775807) (hb : BdL ps) (bx : Bd x) (b_y : Bd y) :
    Calls Try.prog 92 #[.slice (some ⟨b, off, none⟩) ((n + 2 : Nat)) cap, .pointer (some ⟨pb, 0, none⟩)] w fun e w' => e = .returned (.bool (decide (Gx.dt (Gx.g ps n) (Gx.g ps (n + 1)) (x, y) ≤ 0))) ∧ Up w w' := by
  obtain ⟨a0, a1⟩ := pts_g hc (k := n) (by omega)
  obtain ⟨b0, b1⟩ := pts_g hc (k := n + 1) (by omega)
  have ba := bdL_get hb (k := n) (by omega)
  have bb := bdL_get hb (k := n + 1) (by omega)
  obtain ⟨P, hP⟩ : ∃ P, Gx.g ps n = P := ⟨_, rfl⟩
  obtain ⟨Q, hQ⟩ : ∃ P, Gx.g ps (n + 1) = P := ⟨_, rfl⟩
  rw [hP] at a0 a1 ba ⊢
  rw [hQ] at b0 b1 bb ⊢
  obtain ⟨p1, p2⟩ := P
  obtain ⟨q1, q2⟩ := Q
  simp only at a0 a1 b0 b1 ba bb
  have PT : ∀ W : World, Calls Try.prog 73 #[pt p1 p2, pt q1 q2, pt x y] W fun e w' => e = .returned (.int .i64 (cmpV (det p1 p2 q1 q2 x y) 0)) ∧ Up W w' := fun W => p_turn p1 p2 q1 q2 x y W ba.1 ba.2 bb.1 bb.2 bx b_y
  have hd : decide (cmpV (det p1 p2 q1 q2 x y) 0 ≤ 0) = decide (Gx.dt (p1, p2) (q1, q2) (x, y) ≤ 0) := cmp_le _
  obtain ⟨T, hT⟩ : ∃ T, cmpV (det p1 p2 q1 q2 x y) 0 = T := ⟨_, rfl⟩
  rw [hT] at hd PT
  obtain ⟨D, hD⟩ : ∃ D, decide (Gx.dt (p1, p2) (q1, q2) (x, y) ≤ 0) = D := ⟨_, rfl⟩
  rw [hD] at hd ⊢
  have HPT := hide PT
  clear PT hP hQ hT hD hc hn hb ba bb bx b_y
  have k1 : (2 : Int) ≤ ((n + 2 : Nat) : Int) := by omega
  have k2 : decide ((2 : Int) ≤ ((n + 2 : Nat) : Int)) = true := by simp; omega
  have k3 : IntKind.i64.wrap (((n + 2 : Nat) : Int) - 2) = (n : Int) := by rw [IntWalk.i64_in _ ⟨by omega, by omega⟩]; omega
  have k4 : IntKind.i64.wrap (((n + 2 : Nat) : Int) - 1) = ((n + 1 : Nat) : Int) := by rw [IntWalk.i64_in _ ⟨by omega, by omega⟩]; omega
  have k5 : (n : Int) < ((n + 2 : Nat) : Int) := by omega
  have k6 : ((n + 1 : Nat) : Int) < ((n + 2 : Nat) : Int) := by omega
  obtain ⟨N, hN⟩ : ∃ N : Nat, N = n + 2 := ⟨_, rfl⟩
  obtain ⟨M, hM⟩ : ∃ M : Nat, M = n + 1 := ⟨_, rfl⟩
  rw [← hN] at k1 k2 k3 k4 k5 k6 ⊢
  rw [← hM] at k4 k6 b0 b1
  clear hN hM
  go_enter Try.func92, Try.ntmps92
  go_wp2_with fail
  go_region_held3 (fun wx => wx.cell? ⟨b, off + n * 2, none⟩ = some (.int .i64 p1) ∧ wx.cell? ⟨b, off + n * 2 + 1, none⟩ = some (.int .i64 p2) ∧ wx.cell? ⟨b, off + M * 2, none⟩ = some (.int .i64 q1) ∧ wx.cell? ⟨b, off + M * 2 + 1, none⟩ = some (.int .i64 q2) ∧ wx.cell? ⟨pb, 0, none⟩ = some (.int .i64 x) ∧ wx.cell? ⟨pb, 1, none⟩ = some (.int .i64 y) ∧ Up w wx)
    ((first | exact ⟨a0, a1, b0, b1, hx, hy, up_drew (up_refl _)⟩ | (with_reducible assumption) | exact ⟨up_cell hb3 a0, up_cell hb3 a1, up_cell hb3 b0, up_cell hb3 b1, up_cell hb3 hx, up_cell hb3 hy, (by repeat' (first | (with_reducible exact up_refl _) | (with_reducible assumption) | (with_reducible refine up_alloc ?_ _) | (with_reducible refine up_drewN ?_ _) | (with_reducible refine up_drew ?_) | (with_reducible refine up_set ?_ (by first | (simp; done) | (simp; omega) | omega) _) | (refine up_trans ?_ (by with_reducible assumption))))⟩))
    (first | (go_at_call 73; (with_reducible refine (unhide HPT _).mono ?_); rintro e w3 ⟨rfl, hb3⟩))
  go_wp2
  go_ret
  exact ⟨rfl, (by repeat' (first | (with_reducible exact up_refl _) | (with_reducible assumption) | (with_reducible refine up_alloc ?_ _) | (with_reducible refine up_drewN ?_ _) | (with_reducible refine up_drew ?_) | (with_reducible refine up_set ?_ (by first | (simp; done) | (simp; omega) | omega) _) | (refine up_trans ?_ (by with_reducible assumption))))⟩
/-- What is left of a stack. -/
def leftS (p : Int × Int) (ps : Pl) : Pl := (Gx.popS p ps.reverse).reverse
theorem leftS_prefix (p : Int × Int) (ps : Pl) : leftS p ps <+: ps := by
  have := Gx.pop_suffix p ps.reverse
  unfold leftS
  rw [← List.reverse_suffix, List.reverse_reverse]
  exact this
theorem leftS_short {p : Int × Int} {ps : Pl} (h : ps.length < 2) : leftS p ps = ps := by
  match ps, h with
  | [], _ => rfl
  | [_], _ => rfl
theorem leftS_step {p : Int × Int} {ps : Pl} {n : Nat} (h : ps.length = n + 2) : leftS p ps = if Gx.dt (Gx.g ps n) (Gx.g ps (n + 1)) p ≤ 0 then leftS p (ps.take (n + 1)) else ps := by
  obtain ⟨r, rfl⟩ : ∃ r, ps = r.reverse := ⟨ps.reverse, by simp⟩
  match r, h with
  | b :: a :: t, h =>
    have ht : t.length = n := by simpa using h
    have e1 : Gx.g (b :: a :: t).reverse n = a := by
      rw [Gx.g_eq (by simp; omega)]
      simp [ht]
    have e2 : Gx.g (b :: a :: t).reverse (n + 1) = b := by
      rw [Gx.g_eq (by simp; omega)]
      simp [ht]
    have e3 : (b :: a :: t).reverse.take (n + 1) = (a :: t).reverse := by
      rw [List.reverse_cons, List.take_append_of_le_length (by simp; omega), List.take_of_length_le (by simp; omega)]
    rw [e1, e2, e3]
    unfold leftS
    rw [List.reverse_reverse, List.reverse_reverse]
    conv => lhs; unfold Gx.popS
    split <;> rfl
set_option maxHeartbeats 1000000 in
theorem p_drop (g : Nat) (ps : Pl) (cap : Nat) (pb : Nat) (x y : Int) (w : World) (hc : ∀ k (h : k < ps.length), w.cell? ⟨g, 0 + k * 2, none⟩ = some (.int .i64 ps[k].1) ∧ w.cell? ⟨g, 0 + k * 2 + 1, none⟩ = some (.int .i64 ps[k].2))
    (hx : w.cell? ⟨pb, 0, none⟩ = some (.int .i64 x)) (hy : w.cell? ⟨pb, 1, none⟩ = some (.int .i64 y)) (hcap : ps.length ≤ cap) (h63 : cap ≤ 9223372036854775807) (hb : BdL ps) (bx : Bd x) (b_y : Bd y) :
    Calls Try.prog 91 #[.slice (some ⟨g, 0, none⟩) ps.length cap, .func (.func 92) #[] #[.pointer (some ⟨pb, 0, none⟩)]] w fun e w' => e = .returned (.slice (some ⟨g, 0, none⟩) (leftS (x, y) ps).length cap) ∧ Up w w' := by
  obtain ⟨N, hN⟩ : ∃ N, ps.length = N := ⟨_, rfl⟩
  rw [hN] at hcap ⊢
  have HC := hide hc
  have HN := hide hN
  have HB := hide hb
  clear hc hN hb
  go_enter Try.func91, Try.ntmps91
  go_wp2_with fail
  go_loopw [0] (fun v wr => ∃ m : Nat, m ≤ N ∧ v = .slice (some ⟨g, 0, none⟩) m cap ∧ Up w wr ∧ leftS (x, y) (ps.take m) = leftS (x, y) ps) (fun v _ => match v with | .slice _ n _ => n | _ => 0)
  case atStart => exact ⟨N, Nat.le_refl _, rfl, up_refl _, by rw [List.take_of_length_le (by rw [unhide HN]; exact Nat.le_refl _)]⟩
  case round =>
    obtain ⟨m, hm, rfl, hu, hl⟩ := hrel
    have hlen : (ps.take m).length = m := by rw [List.length_take, unhide HN]; omega
    have hcm : ∀ k (h : k < (ps.take m).length), wr.cell? ⟨g, 0 + k * 2, none⟩ = some (.int .i64 (ps.take m)[k].1) ∧ wr.cell? ⟨g, 0 + k * 2 + 1, none⟩ = some (.int .i64 (ps.take m)[k].2) := fun k h => by
      rw [List.getElem_take]
      have := unhide HC k (by rw [unhide HN]; omega)
      exact ⟨up_cell hu this.1, up_cell hu this.2⟩
    have hbm : BdL (ps.take m) := fun p hp => unhide HB p (List.mem_of_mem_take hp)
    have HL := hide hl
    have hx' := up_cell hu hx
    have hy' := up_cell hu hy
    by_cases h2 : m < 2
    · have e : (leftS (x, y) ps).length = m := by rw [← unhide HL, leftS_short (by omega), hlen]
      have HE := hide e
      clear e hcm hbm hlen hl
      go_wp2_with (go_at_call 92; refine (p_off0 _ _ _ _ _ h2).mono ?_; rintro e w1 ⟨rfl, hb1⟩)
      go_ret
      refine ⟨?_, (by repeat' (first | (with_reducible exact up_refl _) | (with_reducible assumption) | (with_reducible refine up_alloc ?_ _) | (with_reducible refine up_drewN ?_ _) | (with_reducible refine up_drew ?_) | (with_reducible refine up_set ?_ (by first | (simp; done) | (simp; omega) | omega) _) | (refine up_trans ?_ (by with_reducible assumption))))⟩
      rw [unhide HE]; rfl
    · obtain ⟨n, hn⟩ : ∃ n, m = n + 2 := ⟨m - 2, by omega⟩
      have hstep := leftS_step (p := (x, y)) (ps := ps.take m) (n := n) (by rw [hlen]; exact hn)
      have hoff := p_off2 g 0 (ps.take m) cap pb x y wr hcm hx' hy' n (by rw [hlen]; exact hn) (by omega) hbm bx b_y
      rw [← hn] at hoff
      have et : (ps.take m).take (n + 1) = ps.take (n + 1) := by rw [List.take_take, Nat.min_eq_left (by omega)]
      rw [et] at hstep
      by_cases hd : Gx.dt (Gx.g (ps.take m) n) (Gx.g (ps.take m) (n + 1)) (x, y) ≤ 0
      · rw [if_pos hd] at hstep
        rw [decide_eq_true hd] at hoff
        have hl2 : leftS (x, y) (ps.take (n + 1)) = leftS (x, y) ps := by rw [← hstep]; exact unhide HL
        have HL2 := hide hl2
        have HO := hide hoff
        have e1 : IntKind.i64.wrap ((m : Int) - 1) = ((n + 1 : Nat) : Int) := by rw [IntWalk.i64_in _ ⟨by omega, by omega⟩]; omega
        have e2 : ((n + 1 : Nat) : Int) ≤ (cap : Int) := by omega
        have e3 : n + 1 ≤ cap := by omega
        obtain ⟨M, hM⟩ : ∃ M : Nat, M = n + 1 := ⟨_, rfl⟩
        rw [← hM] at e1 e2 e3 HL2
        have e4 : M < m := by omega
        have e5 : M ≤ N := by omega
        clear hstep hoff hd et hcm hbm hlen hl hl2 hn hM h2
        go_wp2_with (go_at_call 92; refine (unhide HO).mono ?_; rintro e w1 ⟨rfl, hb1⟩)
        go_roundw
        case rel => exact ⟨M, e5, rfl, (by repeat' (first | (with_reducible exact up_refl _) | (with_reducible assumption) | (with_reducible refine up_alloc ?_ _) | (with_reducible refine up_drewN ?_ _) | (with_reducible refine up_drew ?_) | (with_reducible refine up_set ?_ (by first | (simp; done) | (simp; omega) | omega) _) | (refine up_trans ?_ (by with_reducible assumption)))), unhide HL2⟩
        case measure => exact e4
      · rw [if_neg hd] at hstep
        rw [decide_eq_false hd] at hoff
        have e : (leftS (x, y) ps).length = m := by rw [← unhide HL, hstep, hlen]
        have HE := hide e
        have HO := hide hoff
        clear e hcm hbm hlen hl hstep hoff hd et hn h2
        go_wp2_with (go_at_call 92; refine (unhide HO).mono ?_; rintro e w1 ⟨rfl, hb1⟩)
        go_ret
        refine ⟨?_, (by repeat' (first | (with_reducible exact up_refl _) | (with_reducible assumption) | (with_reducible refine up_alloc ?_ _) | (with_reducible refine up_drewN ?_ _) | (with_reducible refine up_drew ?_) | (with_reducible refine up_set ?_ (by first | (simp; done) | (simp; omega) | omega) _) | (refine up_trans ?_ (by with_reducible assumption))))⟩
        rw [unhide HE]; rfl
theorem p_drop0 (cap : Nat) (p : Addr) (w : World) :
    Calls Try.prog 91 #[.slice none 0 cap, .func (.func 92) #[] #[.pointer (some p)]] w fun e w' => e = .returned (.slice none 0 cap) ∧ Up w w' := by
  go_enter Try.func91, Try.ntmps91
  go_wp2_with fail
  go_loopw [0] (fun v wr => v = .slice none 0 cap ∧ Up w wr) (fun _ _ => 0)
  case atStart => exact ⟨rfl, up_refl _⟩
  case round =>
    obtain ⟨rfl, hu⟩ := hrel
    have PO := fun W => p_off0 none 0 cap p W (by omega)
    have HPO := hide PO
    clear PO
    go_wp2_with (go_at_call 92; refine (unhide HPO _).mono ?_; rintro e w1 ⟨rfl, hb1⟩)
    go_ret
    exact ⟨rfl, (by repeat' (first | (with_reducible exact up_refl _) | (with_reducible assumption) | (with_reducible refine up_alloc ?_ _) | (with_reducible refine up_drewN ?_ _) | (with_reducible refine up_drew ?_) | (with_reducible refine up_set ?_ (by first | (simp; done) | (simp; omega) | omega) _) | (refine up_trans ?_ (by with_reducible assumption))))⟩
end Go.Proofs.Ytihckoenfklhpaa
