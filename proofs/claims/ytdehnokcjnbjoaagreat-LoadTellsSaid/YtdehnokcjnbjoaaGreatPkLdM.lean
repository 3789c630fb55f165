/- What the example of a load rubs: numbers. The order of points: what compare returns. Vehicles: which ones chain's Check takes. Units and axles of vehicles: how they lie in memory, and which ones are valid. What Place and Pull return, of the program and of the document's own answers: their errors, and the place. What Place and Pull return, of the program and of the document's own answers. What the functions on turns and bodies return, of the program and of the document's own answers. The box of a hull: its least and greatest coordinates. A stack of points without what is on its top as long as it does not turn to the left. -/
import Derived.Test.YtdehnokcjnbjoaaGreatSl
import Derived.Test.YtdehnokcjnbjoaaGreatHullM
import Derived.Deep.DeepCutAuto
import Derived.Test.YtdehnokcjnbjoaaGreatBx
import Derived.Test.YtdehnokcjnbjoaaGreatMath
import Derived.Test.YtdehnokcjnbjoaaGreatName
import Derived.Test.YtdehnokcjnbjoaaGreatPlat
import Derived.Test.YtdehnokcjnbjoaaGreatUpQ
import Derived.Deep.Cut
import Derived.Test.YtdehnokcjnbjoaaGreatPt
import Derived.Sort.Grow
import Derived.StillTailTactics
namespace Go.Proofs.YtdehnokcjnbjoaaGreat
open Go.RowKit Go.Proofs.Gn
/-- Far from the limits, all of them. -/
def BdL (ps : Pl) : Prop := ∀ p ∈ ps, Bd p.1 ∧ Bd p.2
theorem bdL_get {ps : Pl} (h : BdL ps) {k : Nat} (hk : k < ps.length) : Bd (Gx.g ps k).1 ∧ Bd (Gx.g ps k).2 := h _ (Gx.g_mem hk)
theorem pts_g {w : World} {b off : Nat} {ps : Pl} (hc : ∀ k (h : k < ps.length), w.cell? ⟨b, off + k * 2, none⟩ = some (.int .i64 ps[k].1) ∧ w.cell? ⟨b, off + k * 2 + 1, none⟩ = some (.int .i64 ps[k].2)) {k : Nat} (hk : k < ps.length) :
    w.cell? ⟨b, off + k * 2, none⟩ = some (.int .i64 (Gx.g ps k).1) ∧ w.cell? ⟨b, off + k * 2 + 1, none⟩ = some (.int .i64 (Gx.g ps k).2) := by
  rw [Gx.g_eq hk]
  exact hc k hk
theorem det_dt (a b c : Int × Int) : det a.1 a.2 b.1 b.2 c.1 c.2 = Gx.dt a b c := rfl
theorem cmp_le (d : Int) : decide (cmpV d 0 ≤ 0) = decide (d ≤ 0) := by
  unfold cmpV
  rw [Bool.eq_iff_iff]
  simp only [decide_eq_true_eq]
  split
  · omega
  · split <;> omega
theorem p_off0 (A : Option Addr) (n : Nat) (cap : Nat) (p : Addr) (w : World) (h : n < 2) :
    Calls Tryz.prog 180 #[.slice A n cap, .pointer (some p)] w fun e w' => e = .returned (.bool false) ∧ Up w w' := by
  have h1 : (n : Int) < 2 := by omega
  have h2 : decide ((2 : Int) ≤ (n : Int)) = false := by simp; omega
  go_enter Tryz.func180, Tryz.ntmps180
  go_wp2_with fail
  go_quiet (fail)
  all_goals go_wp2_with fail
  all_goals go_ret
  all_goals exact ⟨rfl, (by repeat' (first | (with_reducible exact up_refl _) | (with_reducible assumption) | (with_reducible refine up_alloc ?_ _) | (with_reducible refine up_drewN ?_ _) | (with_reducible refine up_drew ?_) | (with_reducible refine up_set ?_ (by first | (simp; done) | (simp; omega) | omega) _) | (refine up_trans ?_ (by with_reducible assumption))))⟩
set_option maxHeartbeats 1000000 in
theorem p_off2 (b off : Nat) (ps : Pl) (cap : Nat) (pb : Nat) (x y : Int) (w : World) (hc : ∀ k (h : k < ps.length), w.cell? ⟨b, off + k * 2, none⟩ = some (.int .i64 ps[k].1) ∧ w.cell? ⟨b, off + k * 2 + 1, none⟩ = some (.int .i64 ps[k].2))
    (hx : w.cell? ⟨pb, 0, none⟩ = some (.int .i64 x)) (hy : w.cell? ⟨pb, 1, none⟩ = some (.int .i64 y)) (n : Nat) (hn : ps.length = n + 2) (h63 : n + 2 ≤ 9223372036854775807) (hb : BdL ps) (bx : Bd x) (b_y : Bd y) :
    Calls Tryz.prog 180 #[.slice (some ⟨b, off, none⟩) ((n + 2 : Nat)) cap, .pointer (some ⟨pb, 0, none⟩)] w fun e w' => e = .returned (.bool (decide (Gx.dt (Gx.g ps n) (Gx.g ps (n + 1)) (x, y) ≤ 0))) ∧ Up w w' := by
  obtain ⟨a0, a1⟩ := pts_g hc (k := n) (by omega)
  obtain ⟨b0, b1⟩ := pts_g hc (k := n + 1) (by omega)
  have ba := bdL_get hb (k := n) (by omega)
  have bb := bdL_get hb (k := n + 1) (by omega)
  obtain ⟨P, hP⟩ : ∃ P, Gx.g ps n = P := ⟨_, rfl⟩
  obtain ⟨Q, hQ⟩ : ∃ P, Gx.g ps (n + 1) = P := ⟨_, rfl⟩
  rw [hP] at a0 a1 ba ⊢
  rw [hQ] at b0 b1 bb ⊢
  obtain ⟨p1, p2⟩ := P
  obtain ⟨q1, q2⟩ := Q
  simp only at a0 a1 b0 b1 ba bb
  have PT : ∀ W : World, Calls Tryz.prog 181 #[pt p1 p2, pt q1 q2, pt x y] W fun e w' => e = .returned (.int .i64 (cmpV (det p1 p2 q1 q2 x y) 0)) ∧ Up W w' := fun W => p_turn p1 p2 q1 q2 x y W ba.1 ba.2 bb.1 bb.2 bx b_y
  have hd : decide (cmpV (det p1 p2 q1 q2 x y) 0 ≤ 0) = decide (Gx.dt (p1, p2) (q1, q2) (x, y) ≤ 0) := cmp_le _
  obtain ⟨T, hT⟩ : ∃ T, cmpV (det p1 p2 q1 q2 x y) 0 = T := ⟨_, rfl⟩
  rw [hT] at hd PT
  obtain ⟨D, hD⟩ : ∃ D, decide (Gx.dt (p1, p2) (q1, q2) (x, y) ≤ 0) = D := ⟨_, rfl⟩
  rw [hD] at hd ⊢
  have HPT := hide PT
  clear PT hP hQ hT hD hc hn hb ba bb bx b_y
  have k1 : (2 : Int) ≤ ((n + 2 : Nat) : Int) := by omega
  have k2 : decide ((2 : Int) ≤ ((n + 2 : Nat) : Int)) = true := by simp; omega
  have k3 : IntKind.i64.wrap (((n + 2 : Nat) : Int) - 2) = (n : Int) := by rw [IntWalk.i64_in _ ⟨by omega, by omega⟩]; omega
  have k4 : IntKind.i64.wrap (((n + 2 : Nat) : Int) - 1) = ((n + 1 : Nat) : Int) := by rw [IntWalk.i64_in _ ⟨by omega, by omega⟩]; omega
  have k5 : (n : Int) < ((n + 2 : Nat) : Int) := by omega
  have k6 : ((n + 1 : Nat) : Int) < ((n + 2 : Nat) : Int) := by omega
  obtain ⟨N, hN⟩ : ∃ N : Nat, N = n + 2 := ⟨_, rfl⟩
  obtain ⟨M, hM⟩ : ∃ M : Nat, M = n + 1 := ⟨_, rfl⟩
  rw [← hN] at k1 k2 k3 k4 k5 k6 ⊢
  rw [← hM] at k4 k6 b0 b1
  clear hN hM
  go_enter Tryz.func180, Tryz.ntmps180
  go_wp2_with fail
  go_region_held3 (fun wx => wx.cell? ⟨b, off + n * 2, none⟩ = some (.int .i64 p1) ∧ wx.cell? ⟨b, off + n * 2 + 1, none⟩ = some (.int .i64 p2) ∧ wx.cell? ⟨b, off + M * 2, none⟩ = some (.int .i64 q1) ∧ wx.cell? ⟨b, off + M * 2 + 1, none⟩ = some (.int .i64 q2) ∧ wx.cell? ⟨pb, 0, none⟩ = some (.int .i64 x) ∧ wx.cell? ⟨pb, 1, none⟩ = some (.int .i64 y) ∧ Up w wx)
    ((first | exact ⟨a0, a1, b0, b1, hx, hy, up_drew (up_refl _)⟩ | (with_reducible assumption) | exact ⟨up_cell hb3 a0, up_cell hb3 a1, up_cell hb3 b0, up_cell hb3 b1, up_cell hb3 hx, up_cell hb3 hy, (by repeat' (first | (with_reducible exact up_refl _) | (with_reducible assumption) | (with_reducible refine up_alloc ?_ _) | (with_reducible refine up_drewN ?_ _) | (with_reducible refine up_drew ?_) | (with_reducible refine up_set ?_ (by first | (simp; done) | (simp; omega) | omega) _) | (refine up_trans ?_ (by with_reducible assumption))))⟩))
    (first | (go_at_call 181; (with_reducible refine (unhide HPT _).mono ?_); rintro e w3 ⟨rfl, hb3⟩))
  go_wp2
  go_ret
  exact ⟨rfl, (by repeat' (first | (with_reducible exact up_refl _) | (with_reducible assumption) | (with_reducible refine up_alloc ?_ _) | (with_reducible refine up_drewN ?_ _) | (with_reducible refine up_drew ?_) | (with_reducible refine up_set ?_ (by first | (simp; done) | (simp; omega) | omega) _) | (refine up_trans ?_ (by with_reducible assumption))))⟩
/-- What is left of a stack. -/
def leftS (p : Int × Int) (ps : Pl) : Pl := (Gx.popS p ps.reverse).reverse
theorem leftS_prefix (p : Int × Int) (ps : Pl) : leftS p ps <+: ps := by
  have := Gx.pop_suffix p ps.reverse
  unfold leftS
  rw [← List.reverse_suffix, List.reverse_reverse]
  exact this
theorem leftS_short {p : Int × Int} {ps : Pl} (h : ps.length < 2) : leftS p ps = ps := by
  match ps, h with
  | [], _ => rfl
  | [_], _ => rfl
theorem leftS_step {p : Int × Int} {ps : Pl} {n : Nat} (h : ps.length = n + 2) : leftS p ps = if Gx.dt (Gx.g ps n) (Gx.g ps (n + 1)) p ≤ 0 then leftS p (ps.take (n + 1)) else ps := by
  obtain ⟨r, rfl⟩ : ∃ r, ps = r.reverse := ⟨ps.reverse, by simp⟩
  match r, h with
  | b :: a :: t, h =>
    have ht : t.length = n := by simpa using h
    have e1 : Gx.g (b :: a :: t).reverse n = a := by
      rw [Gx.g_eq (by simp; omega)]
      simp [ht]
    have e2 : Gx.g (b :: a :: t).reverse (n + 1) = b := by
      rw [Gx.g_eq (by simp; omega)]
      simp [ht]
    have e3 : (b :: a :: t).reverse.take (n + 1) = (a :: t).reverse := by
      rw [List.reverse_cons, List.take_append_of_le_length (by simp; omega), List.take_of_length_le (by simp; omega)]
    rw [e1, e2, e3]
    unfold leftS
    rw [List.reverse_reverse, List.reverse_reverse]
    conv => lhs; unfold Gx.popS
    split <;> rfl
set_option maxHeartbeats 1000000 in
theorem p_drop (g : Nat) (ps : Pl) (cap : Nat) (pb : Nat) (x y : Int) (w : World) (hc : ∀ k (h : k < ps.length), w.cell? ⟨g, 0 + k * 2, none⟩ = some (.int .i64 ps[k].1) ∧ w.cell? ⟨g, 0 + k * 2 + 1, none⟩ = some (.int .i64 ps[k].2))
    (hx : w.cell? ⟨pb, 0, none⟩ = some (.int .i64 x)) (hy : w.cell? ⟨pb, 1, none⟩ = some (.int .i64 y)) (hcap : ps.length ≤ cap) (h63 : cap ≤ 9223372036854775807) (hb : BdL ps) (bx : Bd x) (b_y : Bd y) :
    Calls Tryz.prog 179 #[.slice (some ⟨g, 0, none⟩) ps.length cap, .func (.func 180) #[] #[.pointer (some ⟨pb, 0, none⟩)]] w fun e w' => e = .returned (.slice (some ⟨g, 0, none⟩) (leftS (x, y) ps).length cap) ∧ Up w w' := by
  obtain ⟨N, hN⟩ : ∃ N, ps.length = N := ⟨_, rfl⟩
  rw [hN] at hcap ⊢
  have HC := hide hc
  have HN := hide hN
  have HB := hide hb
  clear hc hN hb
  go_enter Tryz.func179, Tryz.ntmps179
  go_wp2_with fail
  go_loopw [0] (fun v wr => ∃ m : Nat, m ≤ N ∧ v = .slice (some ⟨g, 0, none⟩) m cap ∧ Up w wr ∧ leftS (x, y) (ps.take m) = leftS (x, y) ps) (fun v _ => match v with | .slice _ n _ => n | _ => 0)
  case atStart => exact ⟨N, Nat.le_refl _, rfl, up_refl _, by rw [List.take_of_length_le (by rw [unhide HN]; exact Nat.le_refl _)]⟩
  case round =>
    obtain ⟨m, hm, rfl, hu, hl⟩ := hrel
    have hlen : (ps.take m).length = m := by rw [List.length_take, unhide HN]; omega
    have hcm : ∀ k (h : k < (ps.take m).length), wr.cell? ⟨g, 0 + k * 2, none⟩ = some (.int .i64 (ps.take m)[k].1) ∧ wr.cell? ⟨g, 0 + k * 2 + 1, none⟩ = some (.int .i64 (ps.take m)[k].2) := fun k h => by
      rw [List.getElem_take]
      have := unhide HC k (by rw [unhide HN]; omega)
      exact ⟨up_cell hu this.1, up_cell hu this.2⟩
    have hbm : BdL (ps.take m) := fun p hp => unhide HB p (List.mem_of_mem_take hp)
    have HL := hide hl
    have hx' := up_cell hu hx
    have hy' := up_cell hu hy
    by_cases h2 : m < 2
    · have e : (leftS (x, y) ps).length = m := by rw [← unhide HL, leftS_short (by omega), hlen]
      have HE := hide e
      clear e hcm hbm hlen hl
      go_wp2_with (go_at_call 180; refine (p_off0 _ _ _ _ _ h2).mono ?_; rintro e w1 ⟨rfl, hb1⟩)
      go_ret
      refine ⟨?_, (by repeat' (first | (with_reducible exact up_refl _) | (with_reducible assumption) | (with_reducible refine up_alloc ?_ _) | (with_reducible refine up_drewN ?_ _) | (with_reducible refine up_drew ?_) | (with_reducible refine up_set ?_ (by first | (simp; done) | (simp; omega) | omega) _) | (refine up_trans ?_ (by with_reducible assumption))))⟩
      rw [unhide HE]; rfl
    · obtain ⟨n, hn⟩ : ∃ n, m = n + 2 := ⟨m - 2, by omega⟩
      have hstep := leftS_step (p := (x, y)) (ps := ps.take m) (n := n) (by rw [hlen]; exact hn)
      have hoff := p_off2 g 0 (ps.take m) cap pb x y wr hcm hx' hy' n (by rw [hlen]; exact hn) (by omega) hbm bx b_y
      rw [← hn] at hoff
      have et : (ps.take m).take (n + 1) = ps.take (n + 1) := by rw [List.take_take, Nat.min_eq_left (by omega)]
      rw [et] at hstep
      by_cases hd : Gx.dt (Gx.g (ps.take m) n) (Gx.g (ps.take m) (n + 1)) (x, y) ≤ 0
      · rw [if_pos hd] at hstep
        rw [decide_eq_true hd] at hoff
        have hl2 : leftS (x, y) (ps.take (n + 1)) = leftS (x, y) ps := by rw [← hstep]; exact unhide HL
        have HL2 := hide hl2
        have HO := hide hoff
        have e1 : IntKind.i64.wrap ((m : Int) - 1) = ((n + 1 : Nat) : Int) := by rw [IntWalk.i64_in _ ⟨by omega, by omega⟩]; omega
        have e2 : ((n + 1 : Nat) : Int) ≤ (cap : Int) := by omega
        have e3 : n + 1 ≤ cap := by omega
        obtain ⟨M, hM⟩ : ∃ M : Nat, M = n + 1 := ⟨_, rfl⟩
        rw [← hM] at e1 e2 e3 HL2
        have e4 : M < m := by omega
        have e5 : M ≤ N := by omega
        clear hstep hoff hd et hcm hbm hlen hl hl2 hn hM h2
        go_wp2_with (go_at_call 180; refine (unhide HO).mono ?_; rintro e w1 ⟨rfl, hb1⟩)
        go_roundw
        case rel => exact ⟨M, e5, rfl, (by repeat' (first | (with_reducible exact up_refl _) | (with_reducible assumption) | (with_reducible refine up_alloc ?_ _) | (with_reducible refine up_drewN ?_ _) | (with_reducible refine up_drew ?_) | (with_reducible refine up_set ?_ (by first | (simp; done) | (simp; omega) | omega) _) | (refine up_trans ?_ (by with_reducible assumption)))), unhide HL2⟩
        case measure => exact e4
      · rw [if_neg hd] at hstep
        rw [decide_eq_false hd] at hoff
        have e : (leftS (x, y) ps).length = m := by rw [← unhide HL, hstep, hlen]
        have HE := hide e
        have HO := hide hoff
        clear e hcm hbm hlen hl hstep hoff hd et hn h2
        go_wp2_with (go_at_call 180; refine (unhide HO).mono ?_; rintro e w1 ⟨rfl, hb1⟩)
        go_ret
        refine ⟨?_, (by repeat' (first | (with_reducible exact up_refl _) | (with_reducible assumption) | (with_reducible refine up_alloc ?_ _) | (with_reducible refine up_drewN ?_ _) | (with_reducible refine up_drew ?_) | (with_reducible refine up_set ?_ (by first | (simp; done) | (simp; omega) | omega) _) | (refine up_trans ?_ (by with_reducible assumption))))⟩
        rw [unhide HE]; rfl
theorem p_drop0 (cap : Nat) (p : Addr) (w : World) :
    Calls Tryz.prog 179 #[.slice none 0 cap, .func (.func 180) #[] #[.pointer (some p)]] w fun e w' => e = .returned (.slice none 0 cap) ∧ Up w w' := by
  go_enter Tryz.func179, Tryz.ntmps179
  go_wp2_with fail
  go_loopw [0] (fun v wr => v = .slice none 0 cap ∧ Up w wr) (fun _ _ => 0)
  case atStart => exact ⟨rfl, up_refl _⟩
  case round =>
    obtain ⟨rfl, hu⟩ := hrel
    have PO := fun W => p_off0 none 0 cap p W (by omega)
    have HPO := hide PO
    clear PO
    go_wp2_with (go_at_call 180; refine (unhide HPO _).mono ?_; rintro e w1 ⟨rfl, hb1⟩)
    go_ret
    exact ⟨rfl, (by repeat' (first | (with_reducible exact up_refl _) | (with_reducible assumption) | (with_reducible refine up_alloc ?_ _) | (with_reducible refine up_drewN ?_ _) | (with_reducible refine up_drew ?_) | (with_reducible refine up_set ?_ (by first | (simp; done) | (simp; omega) | omega) _) | (refine up_trans ?_ (by with_reducible assumption))))⟩
end Go.Proofs.YtdehnokcjnbjoaaGreat
namespace Go.Proofs.YtdehnokcjnbjoaaGreat
open Go.RowKit Go.Proofs.Gn
/-- The least and the greatest coordinates of points. -/
structure IsBox (ps : Pl) (k : Nat) (l1 l2 h1 h2 : Int) : Prop where
  l1a : ∃ r ∈ ps, r.1 = l1
  l2a : ∃ r ∈ ps, r.2 = l2
  h1a : ∃ r ∈ ps, r.1 = h1
  h2a : ∃ r ∈ ps, r.2 = h2
  l1b : ∀ i, i < k → l1 ≤ (Gx.g ps i).1
  l2b : ∀ i, i < k → l2 ≤ (Gx.g ps i).2
  h1b : ∀ i, i < k → (Gx.g ps i).1 ≤ h1
  h2b : ∀ i, i < k → (Gx.g ps i).2 ≤ h2
theorem min_of {P : Int → Prop} {a b : Int} (ha : P a) (hb : P b) : P (if b < a then b else a) := by split <;> assumption
theorem max_of {P : Int → Prop} {a b : Int} (ha : P a) (hb : P b) : P (if b > a then b else a) := by split <;> assumption
theorem box_step {ps : Pl} {k : Nat} {l1 l2 h1 h2 x y : Int} (h : IsBox ps k l1 l2 h1 h2) (hk : k < ps.length) (e : Gx.g ps k = (x, y)) :
    IsBox ps (k + 1) (if x < l1 then x else l1) (if y < l2 then y else l2) (if x > h1 then x else h1) (if y > h2 then y else h2) := by
  have hx : ∃ r ∈ ps, r.1 = x := ⟨Gx.g ps k, Gx.g_mem hk, by rw [e]⟩
  have hy : ∃ r ∈ ps, r.2 = y := ⟨Gx.g ps k, Gx.g_mem hk, by rw [e]⟩
  have low : ∀ {a b : Int}, (if b < a then b else a) ≤ a ∧ (if b < a then b else a) ≤ b := fun {a b} => by split <;> omega
  have high : ∀ {a b : Int}, a ≤ (if b > a then b else a) ∧ b ≤ (if b > a then b else a) := fun {a b} => by split <;> omega
  refine ⟨min_of (P := fun z => ∃ r ∈ ps, r.1 = z) h.l1a hx, min_of (P := fun z => ∃ r ∈ ps, r.2 = z) h.l2a hy, max_of (P := fun z => ∃ r ∈ ps, r.1 = z) h.h1a hx, max_of (P := fun z => ∃ r ∈ ps, r.2 = z) h.h2a hy, ?_, ?_, ?_, ?_⟩
  · intro i hi
    rcases Nat.lt_or_ge i k with c | c
    · exact Int.le_trans low.1 (h.l1b i c)
    · obtain rfl : i = k := by omega
      rw [e]; exact low.2
  · intro i hi
    rcases Nat.lt_or_ge i k with c | c
    · exact Int.le_trans low.1 (h.l2b i c)
    · obtain rfl : i = k := by omega
      rw [e]; exact low.2
  · intro i hi
    rcases Nat.lt_or_ge i k with c | c
    · exact Int.le_trans (h.h1b i c) high.1
    · obtain rfl : i = k := by omega
      rw [e]; exact high.2
  · intro i hi
    rcases Nat.lt_or_ge i k with c | c
    · exact Int.le_trans (h.h2b i c) high.1
    · obtain rfl : i = k := by omega
      rw [e]; exact high.2
theorem bx_set2 {W : World} {b : Nat} {u0 u1 v0 v1 : Value} (h : Bx W b [u0, u1]) : Bx ((W.setCell ⟨b, 0, none⟩ v0).setCell ⟨b, 1, none⟩ v1) b [v0, v1] := bx_set (bx_set h 0 v0) 1 v1
theorem bx_far2 {W : World} {b g : Nat} {vs : List Value} {v0 v1 : Value} (h : Bx W b vs) (hg : g ≠ b) : Bx ((W.setCell ⟨g, 0, none⟩ v0).setCell ⟨g, 1, none⟩ v1) b vs := bx_far (bx_far h (p := ⟨g, 0, none⟩) hg _) (p := ⟨g, 1, none⟩) hg _
end Go.Proofs.YtdehnokcjnbjoaaGreat
namespace Go.Proofs.YtdehnokcjnbjoaaGreat
open Go.RowKit Go.Proofs.Gn
abbrev rt (c s n : Int) : Value := .agg #[.int .i64 c, .int .i64 s, .int .i64 n]
/-- Is the turn valid? -/
def rotB (c s n : Int) : Bool := decide (1 ≤ n ∧ n ≤ 16777216 ∧ -n ≤ c ∧ c ≤ n ∧ -n ≤ s ∧ s ≤ n ∧ c * c + s * s = n * n)
theorem rotB_yes {c s n : Int} (h : rotB c s n = true) : 1 ≤ n ∧ n ≤ 16777216 ∧ -n ≤ c ∧ c ≤ n ∧ -n ≤ s ∧ s ≤ n ∧ c * c + s * s = n * n := of_decide_eq_true h
def rotE (c s n : Int) : Int := if rotB c s n then 0 else 2
theorem rotB_of {c s n : Int} (h : 1 ≤ n ∧ n ≤ 16777216 ∧ -n ≤ c ∧ c ≤ n ∧ -n ≤ s ∧ s ≤ n ∧ c * c + s * s = n * n) : rotE c s n = 0 := by unfold rotE rotB; rw [if_pos (decide_eq_true h)]
theorem rotB_not {c s n : Int} (h : ¬ (1 ≤ n ∧ n ≤ 16777216 ∧ -n ≤ c ∧ c ≤ n ∧ -n ≤ s ∧ s ≤ n ∧ c * c + s * s = n * n)) : rotE c s n = 2 := by
  unfold rotE rotB; rw [if_neg]; simpa using h
/-! ### Halves -/
def halB (n d : Int) : Bool := decide (1 ≤ d ∧ d ≤ 2048 ∧ -2048 ≤ n ∧ n ≤ 2048)
def halC (n d : Int) : Int := if halB n d then d * d - n * n else 0
def halS (n d : Int) : Int := if halB n d then 2 * n * d else 0
def halN (n d : Int) : Int := if halB n d then d * d + n * n else 0
def halE (n d : Int) : Int := if halB n d then 0 else 2
theorem halB_yes {n d : Int} (h : halB n d = true) : 1 ≤ d ∧ d ≤ 2048 ∧ -2048 ≤ n ∧ n ≤ 2048 := of_decide_eq_true h
theorem halB_no {n d : Int} (h : halB n d = false) : ¬ (1 ≤ d ∧ d ≤ 2048 ∧ -2048 ≤ n ∧ n ≤ 2048) := of_decide_eq_false h
end Go.Proofs.YtdehnokcjnbjoaaGreat
namespace Go.Proofs.YtdehnokcjnbjoaaGreat
open Go.RowKit Go.Proofs.Gn
def resX (x y v : Int) : Int := if okp x y then v else 0
def resE (x y : Int) : Int := if okp x y then 0 else 4
/-- Where a place of a body comes to. -/
def plX (ax ay hx hy x y : Int) : Int := ax + putX (hx - ax) (hy - ay) x y
def plY (ax ay hx hy x y : Int) : Int := ay + putY (hx - ax) (hy - ay) x y
theorem put_bd {u v x y : Int} (hu : -33554432 ≤ u ∧ u ≤ 33554432) (hv : -33554432 ≤ v ∧ v ≤ 33554432) (hx : -16777216 ≤ x ∧ x ≤ 16777216) (hy : -16777216 ≤ y ∧ y ≤ 16777216) (h0 : ¬ (u = 0 ∧ v = 0)) :
    (-1125899906842624 ≤ u * x ∧ u * x ≤ 1125899906842624) ∧ (-1125899906842624 ≤ v * y ∧ v * y ≤ 1125899906842624) ∧ (-1125899906842624 ≤ v * x ∧ v * x ≤ 1125899906842624) ∧ (-1125899906842624 ≤ u * y ∧ u * y ≤ 1125899906842624) ∧
    (0 ≤ u * u ∧ u * u ≤ 1125899906842624) ∧ (0 ≤ v * v ∧ v * v ≤ 1125899906842624) ∧ (1 ≤ len32 u v ∧ len32 u v ≤ 2147483648) ∧
    (-144115188075855872 ≤ putX u v x y ∧ putX u v x y ≤ 144115188075855872) ∧ (-144115188075855872 ≤ putY u v x y ∧ putY u v x y ≤ 144115188075855872) := by
  have a := mul_bd2 (u := u) (v := x) (by omega) (by omega) (by omega) (by omega)
  have b := mul_bd2 (u := v) (v := y) (by omega) (by omega) (by omega) (by omega)
  have c := mul_bd2 (u := v) (v := x) (by omega) (by omega) (by omega) (by omega)
  have d := mul_bd2 (u := u) (v := y) (by omega) (by omega) (by omega) (by omega)
  have e := mul_bd2 (u := u) (v := u) (by omega) (by omega) (by omega) (by omega)
  have f := mul_bd2 (u := v) (v := v) (by omega) (by omega) (by omega) (by omega)
  have e0 := sq_nonneg u
  have f0 := sq_nonneg v
  have l := len32_pos h0
  have l2 : len32 u v ≤ 2147483648 := root_le (by omega) (by omega) (by omega)
  have n1 := near_bd (n := 32 * (u * x - v * y)) (d := len32 u v) (by omega)
  have n2 := near_bd (n := 32 * (v * x + u * y)) (d := len32 u v) (by omega)
  unfold putX putY
  exact ⟨a, b, c, d, ⟨e0, e.2⟩, ⟨f0, f.2⟩, ⟨l, l2⟩, by omega, by omega⟩
theorem p_minusG (a b c d u v : Int) (w : World) (hu : Hid (a - c = u)) (hv : Hid (b - d = v)) (h1 : -1073741824 ≤ u) (h2 : u ≤ 1073741824) (h3 : -1073741824 ≤ v) (h4 : v ≤ 1073741824) :
    Calls Tryz.prog 197 #[pt a b, pt c d] w fun e w' => e = .returned (pt u v) ∧ Up w w' := by
  have h := unhide hu
  have k := unhide hv
  have := p_minus a b c d w (by omega) (by omega) (by omega) (by omega)
  rw [h, k] at this
  exact this
theorem p_rootG (n r : Int) (w : World) (hr : Hid (root n = r)) (h : 0 ≤ n) (h2 : n ≤ 9223372036854775807) :
    Calls Tryz.prog 173 #[.int .i64 n] w fun e w' => e = .returned (.int .i64 r) ∧ w = w' := by
  have := p_root n w h h2
  rw [unhide hr] at this
  exact this
theorem p_nearestG (n d q : Int) (w : World) (hq : Hid (near n d = q)) (hd : 0 < d) (hd2 : d ≤ 2305843009213693952) (h1 : -2305843009213693952 ≤ n) (h2 : n ≤ 2305843009213693952) :
    Calls Tryz.prog 104 #[.int .i64 n, .int .i64 d] w fun e w' => e = .returned (.int .i64 q) ∧ w = w' := by
  have := p_nearest n d w hd hd2 h1 h2
  rw [unhide hq] at this
  exact this
/-- What the walks of a place need: names and bounds. -/
theorem put_facts {ax ay hx hy x y : Int} (o1 : okp ax ay = true) (o2 : okp hx hy = true) (hx1 : -16777216 ≤ x) (hx2 : x ≤ 16777216) (hy1 : -16777216 ≤ y) (hy2 : y ≤ 16777216) (h0 : ¬ (hx = ax ∧ hy = ay)) :
    ∃ u v r X Y : Int, Hid (hx - ax = u) ∧ Hid (hy - ay = v) ∧ Hid (root (1024 * (u * u + v * v)) = r) ∧ Hid (near (32 * (u * x - v * y)) r = X) ∧ Hid (near (32 * (v * x + u * y)) r = Y) ∧
      Hid (plX ax ay hx hy x y = ax + X) ∧ Hid (plY ax ay hx hy x y = ay + Y) ∧
      (-33554432 ≤ u ∧ u ≤ 33554432) ∧ (-33554432 ≤ v ∧ v ≤ 33554432) ∧ (-16777216 ≤ ax ∧ ax ≤ 16777216) ∧ (-16777216 ≤ ay ∧ ay ≤ 16777216) ∧
      (-1125899906842624 ≤ u * x ∧ u * x ≤ 1125899906842624) ∧ (-1125899906842624 ≤ v * y ∧ v * y ≤ 1125899906842624) ∧ (-1125899906842624 ≤ v * x ∧ v * x ≤ 1125899906842624) ∧ (-1125899906842624 ≤ u * y ∧ u * y ≤ 1125899906842624) ∧
      (0 ≤ u * u ∧ u * u ≤ 1125899906842624) ∧ (0 ≤ v * v ∧ v * v ≤ 1125899906842624) ∧ (1 ≤ r ∧ r ≤ 2147483648) ∧
      (-144115188075855872 ≤ X ∧ X ≤ 144115188075855872) ∧ (-144115188075855872 ≤ Y ∧ Y ≤ 144115188075855872) := by
  have c1 := okc_yes (okp_yes o1).1
  have c2 := okc_yes (okp_yes o1).2
  have c3 := okc_yes (okp_yes o2).1
  have c4 := okc_yes (okp_yes o2).2
  have b := put_bd (u := hx - ax) (v := hy - ay) (x := x) (y := y) (by omega) (by omega) (by omega) (by omega) (by omega)
  unfold plX plY putX putY len32 at *
  exact ⟨hx - ax, hy - ay, _, _, _, hide rfl, hide rfl, hide rfl, hide rfl, hide rfl, hide rfl, hide rfl, by omega, by omega, c1, c2, b⟩
end Go.Proofs.YtdehnokcjnbjoaaGreat
namespace Go.Proofs.YtdehnokcjnbjoaaGreat
open Go.RowKit Go.Proofs.Gn
def cV (ax ay hx hy x y v : Int) : Int := if hx = ax ∧ hy = ay then 0 else resX (plX ax ay hx hy x y) (plY ax ay hx hy x y) v
def cE (ax ay hx hy x y : Int) : Int := if hx = ax ∧ hy = ay then 9 else resE (plX ax ay hx hy x y) (plY ax ay hx hy x y)
abbrev cR (ax ay hx hy x y : Int) : Value := .tuple #[pt (cV ax ay hx hy x y (plX ax ay hx hy x y)) (cV ax ay hx hy x y (plY ax ay hx hy x y)), .int .i64 (cE ax ay hx hy x y)]
/-- The result of a place behind its looks: E, the error; V, a coordinate. -/
def lkE (o r : Bool) (e : Int) : Int := if o then if r then e else 3 else 2
def lkV (o r : Bool) (v : Int) : Int := if o && r then v else 0
end Go.Proofs.YtdehnokcjnbjoaaGreat
namespace Go.Proofs.YtdehnokcjnbjoaaGreat
open Go.RowKit Go.Proofs.Gn
structure Axl where
  x : Int
  lim : Int
  wh : Int
structure Unt where
  kd : Int
  le : Int
  be : Int
  fr : Int
  re : Int
  wi : Int
  he : Int
  ma : Int
  st : Int
  mo : Int
  A : Option Addr
  xs : List Axl
  cap : Nat
instance : Inhabited Axl := ⟨⟨0, 0, 0⟩⟩
instance : Inhabited Unt := ⟨⟨0, 0, 0, 0, 0, 0, 0, 0, 0, 0, none, [], 0⟩⟩
/-- The cells of an axle. -/
def AxlAt (w : World) (b o : Nat) (a : Axl) : Prop := w.cell? ⟨b, o, none⟩ = some (.int .i64 a.x) ∧ w.cell? ⟨b, o + 1, none⟩ = some (.int .i64 a.lim) ∧ w.cell? ⟨b, o + 2, none⟩ = some (.int .i64 a.wh)
theorem axlAt_up {w w' : World} {b o : Nat} {a : Axl} (h : AxlAt w b o a) (hu : Up w w') : AxlAt w' b o a := ⟨up_cell hu h.1, up_cell hu h.2.1, up_cell hu h.2.2⟩
def Axls (w : World) (A : Option Addr) (xs : List Axl) : Prop := xs = [] ∨ ∃ b off, A = some ⟨b, off, none⟩ ∧ ∀ k (h : k < xs.length), AxlAt w b (off + k * 3) xs[k]
theorem axls_up {w w' : World} {A : Option Addr} {xs : List Axl} (h : Axls w A xs) (hu : Up w w') : Axls w' A xs := by
  rcases h with h | ⟨b, off, hA, hc⟩
  · exact .inl h
  · exact .inr ⟨b, off, hA, fun k hk => axlAt_up (hc k hk) hu⟩
/-- The cells of a unit. -/
def UntAt (w : World) (b o : Nat) (u : Unt) : Prop :=
  w.cell? ⟨b, o, none⟩ = some (.int .i64 u.kd) ∧ w.cell? ⟨b, o + 1, none⟩ = some (.int .i64 u.le) ∧ w.cell? ⟨b, o + 2, none⟩ = some (.int .i64 u.be) ∧ w.cell? ⟨b, o + 3, none⟩ = some (.int .i64 u.fr) ∧ w.cell? ⟨b, o + 4, none⟩ = some (.int .i64 u.re) ∧ w.cell? ⟨b, o + 5, none⟩ = some (.int .i64 u.wi) ∧ w.cell? ⟨b, o + 6, none⟩ = some (.int .i64 u.he) ∧ w.cell? ⟨b, o + 7, none⟩ = some (.int .i64 u.ma) ∧ w.cell? ⟨b, o + 8, none⟩ = some (.int .i64 u.st) ∧ w.cell? ⟨b, o + 9, none⟩ = some (.int .i64 u.mo) ∧ w.cell? ⟨b, o + 10, none⟩ = some (.slice u.A u.xs.length u.cap) ∧ Axls w u.A u.xs ∧ u.xs.length ≤ 9223372036854775807
theorem untAt_up {w w' : World} {b o : Nat} {u : Unt} (h : UntAt w b o u) (hu : Up w w') : UntAt w' b o u := by
  obtain ⟨h0, h1, h2, h3, h4, h5, h6, h7, h8, h9, h10, h11, h12⟩ := h
  exact ⟨up_cell hu h0, up_cell hu h1, up_cell hu h2, up_cell hu h3, up_cell hu h4, up_cell hu h5, up_cell hu h6, up_cell hu h7, up_cell hu h8, up_cell hu h9, up_cell hu h10, axls_up h11 hu, h12⟩
def Unts (w : World) (A : Option Addr) (us : List Unt) : Prop := us = [] ∨ ∃ b off, A = some ⟨b, off, none⟩ ∧ ∀ k (h : k < us.length), UntAt w b (off + k * 11) us[k]
theorem unts_up {w w' : World} {A : Option Addr} {us : List Unt} (h : Unts w A us) (hu : Up w w') : Unts w' A us := by
  rcases h with h | ⟨b, off, hA, hc⟩
  · exact .inl h
  · exact .inr ⟨b, off, hA, fun k hk => untAt_up (hc k hk) hu⟩
abbrev uV (kd le be fr re wi he ma st mo : Int) (A : Option Addr) (n cap : Nat) : Value := .agg #[.int .i64 kd, .int .i64 le, .int .i64 be, .int .i64 fr, .int .i64 re, .int .i64 wi, .int .i64 he, .int .i64 ma, .int .i64 st, .int .i64 mo, .slice A n cap]
abbrev uL (kd le be fr re wi he ma st mo : Int) (A : Option Addr) (n cap : Nat) : List Value := [.int .i64 kd, .int .i64 le, .int .i64 be, .int .i64 fr, .int .i64 re, .int .i64 wi, .int .i64 he, .int .i64 ma, .int .i64 st, .int .i64 mo, .slice A n cap]
abbrev veV (s : ByteArray) (A : Option Addr) (n cap : Nat) (f t : Int) : Value := .agg #[.string s, .slice A n cap, .int .i64 f, .int .i64 t]
/-! ### Which ones are valid -/
def szU (kd le be fr re wi he ma st mo : Int) : Bool := win kd 0 3 && (win le 100 131072 && (win be (-le) 131072 && (win fr 0 131072 && (win re 0 131072 && (win wi 0 131072 && (win he 0 131072 && (win ma 1 1048576 && (win st 0 900 && win mo 0 40))))))))
def axG (L : Int) : Int → List Axl → Bool
  | _, [] => true
  | p, a :: l => (win a.x p L && (win a.lim 1 1048576 && win a.wh 1 16)) && axG L a.x l
def axU (le re : Int) (xs : List Axl) : Bool := axG (le + re) 0 xs && decide (0 < xs.length)
def okU (u : Unt) : Bool := szU u.kd u.le u.be u.fr u.re u.wi u.he u.ma u.st u.mo && axU u.le u.re u.xs
theorem axG_step {L p : Int} {xs : List Axl} {k : Nat} (h : k < xs.length) : axG L p (xs.drop k) = ((win xs[k].x p L && (win xs[k].lim 1 1048576 && win xs[k].wh 1 16)) && axG L xs[k].x (xs.drop (k + 1))) := by
  rw [List.drop_eq_getElem_cons h]; rfl
theorem all_step {α : Type} {f : α → Bool} {l : List α} {k : Nat} (h : k < l.length) : (l.drop k).all f = (f l[k] && (l.drop (k + 1)).all f) := by
  rw [List.drop_eq_getElem_cons h]; rfl
theorem any_step {α : Type} {f : α → Bool} {l : List α} {k : Nat} (h : k < l.length) : (l.drop k).any f = (f l[k] || (l.drop (k + 1)).any f) := by
  rw [List.drop_eq_getElem_cons h]; rfl
theorem szU_bd {kd le be fr re wi he ma st mo : Int} (h : szU kd le be fr re wi he ma st mo = true) : (0 ≤ kd ∧ kd ≤ 3) ∧ (100 ≤ le ∧ le ≤ 131072) ∧ (-le ≤ be ∧ be ≤ 131072) ∧ (0 ≤ fr ∧ fr ≤ 131072) ∧ (0 ≤ re ∧ re ≤ 131072) ∧ (0 ≤ wi ∧ wi ≤ 131072) ∧ (0 ≤ he ∧ he ≤ 131072) ∧ (1 ≤ ma ∧ ma ≤ 1048576) ∧ (0 ≤ st ∧ st ≤ 900) ∧ 0 ≤ mo ∧ mo ≤ 40 := by
  unfold szU at h
  simp only [Bool.and_eq_true, win_iff] at h
  exact h
end Go.Proofs.YtdehnokcjnbjoaaGreat
namespace Go.Proofs.YtdehnokcjnbjoaaGreat
open Go.RowKit Go.Proofs.Gn
def hdK : List Unt → Int
  | [] => 0
  | u :: _ => u.kd
def auV (us : List Unt) : Bool := us.all okU && (decide (0 < us.length) && decide (hdK us = 0))
def bigU (u : Unt) : Bool := decide (24 < u.xs.length)
def tmV (us : List Unt) : Bool := decide (12 < us.length) || us.any bigU
theorem hdK_get {us : List Unt} (h : 0 < us.length) : hdK us = us[0].kd := by
  cases us with
  | nil => simp at h
  | cons u l => rfl
/-- Which error a vehicle has. -/
def veE (s : ByteArray) (us : List Unt) (f t : Int) : Int := if tmV us = true then 6 else if nmS s && (auV us && (win f 0 t && decide (t < us.length))) then 0 else 2
end Go.Proofs.YtdehnokcjnbjoaaGreat
namespace Go.Proofs.YtdehnokcjnbjoaaGreat
open Go.RowKit Go.Proofs.Gn
/-- What compare returns. -/
def cmp2 (ax ay bx b_y : Int) : Int := if cmpV ax bx = 0 then cmpV ay b_y else cmpV ax bx
theorem c_Or {b off : Nat} {x y : Int} (w : World) (h0 : w.cell? ⟨b, off, none⟩ = some (.int .i64 x)) (h1 : w.cell? ⟨b, off + 1, none⟩ = some (.int .i64 y)) :
    Calls Tryz.prog 149 #[.slice (some ⟨b, off, none⟩) 2 2] w fun e w' => e = .returned (.int .i64 (if x = 0 then y else x)) ∧ w = w' := by
  by_cases hx : x = 0
  · subst hx
    by_cases hy : y = 0
    · subst hy
      go_enter Tryz.func149, Tryz.ntmps149
      go_wp2
      go_rounds 3
      go_ret
      exact ⟨rfl, rfl⟩
    · have e1 : (y == 0) = false := by simp; exact hy
      go_enter Tryz.func149, Tryz.ntmps149
      go_wp2
      go_rounds 2
      go_ret
      exact ⟨rfl, rfl⟩
  · have e1 : (x == 0) = false := by simp; exact hx
    rw [if_neg hx]
    go_enter Tryz.func149, Tryz.ntmps149
    go_wp2
    go_rounds 1
    go_ret
    exact ⟨rfl, rfl⟩

/-- New blocks and draws, and nothing else. -/
def Gr (w w' : World) : Prop := ∃ q os, w' = Go.Sort.grow (w.drewN q) os
theorem gr_refl (w : World) : Gr w w := ⟨0, #[], by simp [Go.Sort.grow, World.drewN]⟩
theorem gr_alloc {a b : World} (h : Gr a b) (o : Obj) : Gr a (b.alloc o) := by
  obtain ⟨q, os, rfl⟩ := h
  exact ⟨q, os ++ #[o], by rw [Go.Sort.alloc_eq_grow, Go.Sort.grow_grow]⟩
theorem gr_drew {a b : World} (h : Gr a b) : Gr a b.drew := by
  obtain ⟨q, os, rfl⟩ := h
  exact ⟨q + 1, os, rfl⟩
theorem gr_up {a b : World} (h : Gr a b) : Up a b := by
  obtain ⟨q, os, rfl⟩ := h
  refine ⟨rfl, rfl, rfl, by simp, fun k hk => ?_⟩
  simp [Go.Sort.grow, Array.getElem?_append, hk]
theorem gr_cell {a b : World} (h : Gr a b) {p : Addr} {v : Value} (hc : a.cell? p = some v) : b.cell? p = some v := up_cell (gr_up h) hc
theorem gr_trans {a b c : World} (h : Gr a b) (k : Gr b c) : Gr a c := by
  obtain ⟨q, os, rfl⟩ := h
  obtain ⟨q', os', rfl⟩ := k
  exact ⟨q + q', os ++ os', by simp [Go.Sort.grow, World.drewN, Nat.add_assoc]⟩
set_option maxHeartbeats 1000000 in
theorem p_compareG (ax ay bx b_y : Int) (w : World) :
    Calls Tryz.prog 158 #[pt ax ay, pt bx b_y] w fun e w' => e = .returned (.int .i64 (cmp2 ax ay bx b_y)) ∧ Gr w w' := by
  obtain ⟨X, hX⟩ : ∃ X, cmpV ax bx = X := ⟨_, rfl⟩
  obtain ⟨Y, hY⟩ : ∃ X, cmpV ay b_y = X := ⟨_, rfl⟩
  unfold cmp2
  rw [hX, hY]
  have CX : ∀ W : World, Calls Tryz.prog 150 #[.int .i64 ax, .int .i64 bx] W fun e w' => e = .returned (.int .i64 X) ∧ W = w' := fun W => by rw [← hX]; exact c_Compare ax bx W
  have CY : ∀ W : World, Calls Tryz.prog 150 #[.int .i64 ay, .int .i64 b_y] W fun e w' => e = .returned (.int .i64 Y) ∧ W = w' := fun W => by rw [← hY]; exact c_Compare ay b_y W
  obtain ⟨Z, hZ⟩ : ∃ Z, (if X = 0 then Y else X) = Z := ⟨_, rfl⟩
  rw [hZ]
  have CO : ∀ (W : World) (b : Nat), W.cell? ⟨b, 0, none⟩ = some (.int .i64 X) → W.cell? ⟨b, 1, none⟩ = some (.int .i64 Y) → Calls Tryz.prog 149 #[.slice (some ⟨b, 0, none⟩) 2 2] W fun e w' => e = .returned (.int .i64 Z) ∧ W = w' := fun W b h0 h1 => by rw [← hZ]; exact c_Or W h0 h1
  have HCX := hide CX
  have HCY := hide CY
  have HCO := hide CO
  clear CX CY CO hX hY hZ
  go_enter Tryz.func158, Tryz.ntmps158
  go_wp2
  obtain ⟨W, hW⟩ : ∃ W : World, W = ((w.alloc (Obj.cells #[Value.int IntKind.i64 ax, Value.int IntKind.i64 ay] 55)).alloc (Obj.cells #[Value.int IntKind.i64 bx, Value.int IntKind.i64 b_y] 55)) := ⟨_, rfl⟩
  rw [← hW]
  have c1 : W.cell? ⟨w.heap.size, 0, none⟩ = some (.int .i64 ax) := by rw [hW]; go_cell
  have c2 : W.cell? ⟨w.heap.size, 1, none⟩ = some (.int .i64 ay) := by rw [hW]; go_cell
  have c3 : W.cell? ⟨w.heap.size + 1, 0, none⟩ = some (.int .i64 bx) := by rw [hW]; go_cell
  have c4 : W.cell? ⟨w.heap.size + 1, 1, none⟩ = some (.int .i64 b_y) := by rw [hW]; go_cell
  have c5 : Gr w W := by rw [hW]; exact gr_alloc (gr_alloc (gr_refl _) _) _
  clear hW
  go_region_held3 (fun wx => wx.cell? ⟨w.heap.size, 0, none⟩ = some (.int .i64 ax) ∧ wx.cell? ⟨w.heap.size, 1, none⟩ = some (.int .i64 ay) ∧ wx.cell? ⟨w.heap.size + 1, 0, none⟩ = some (.int .i64 bx) ∧ wx.cell? ⟨w.heap.size + 1, 1, none⟩ = some (.int .i64 b_y) ∧ Gr w wx)
    ((first | exact ⟨c1, c2, c3, c4, gr_drew c5⟩ | exact ⟨alloc_cell _ c1, alloc_cell _ c2, alloc_cell _ c3, alloc_cell _ c4, gr_drew (gr_alloc c5 _)⟩ | (with_reducible assumption)))
    (first | (go_at_call 150; (with_reducible refine (unhide HCX _).mono ?_); rintro e w1 ⟨rfl, rfl⟩) | (go_at_call 150; (with_reducible refine (unhide HCY _).mono ?_); rintro e w1 ⟨rfl, rfl⟩) | (go_at_call 149; (with_reducible refine (unhide HCO _ _ (by go_cell) (by go_cell)).mono ?_); rintro e w2 ⟨rfl, rfl⟩))
  all_goals go_wp2
  all_goals go_ret
  all_goals exact ⟨rfl, gr_drew (gr_alloc c5 _)⟩
theorem cmpV_neg (a b : Int) : cmpV a b < 0 ↔ a < b := by unfold cmpV; split; simp_all; split <;> simp_all
theorem cmpV_zero (a b : Int) : cmpV a b = 0 ↔ a = b := by unfold cmpV; split; omega; split <;> omega
theorem cmp2_neg (a b : Int × Int) : cmp2 a.1 a.2 b.1 b.2 < 0 ↔ Gx.lt2 a b := by
  unfold cmp2 Gx.lt2
  have h1 := cmpV_neg a.1 b.1
  have h2 := cmpV_neg a.2 b.2
  have h3 := cmpV_zero a.1 b.1
  split <;> omega
theorem cmp2_pos (a b : Int × Int) : 0 < cmp2 a.1 a.2 b.1 b.2 ↔ Gx.lt2 b a := by
  unfold cmp2 Gx.lt2 cmpV
  split <;> split <;> (try split) <;> (try split) <;> omega
theorem p_compare (ax ay bx b_y : Int) (w : World) :
    Calls Tryz.prog 158 #[pt ax ay, pt bx b_y] w fun e w' => e = .returned (.int .i64 (cmp2 ax ay bx b_y)) ∧ Up w w' :=
  (p_compareG ax ay bx b_y w).mono fun _ _ ⟨he, hw⟩ => ⟨he, gr_up hw⟩
end Go.Proofs.YtdehnokcjnbjoaaGreat
namespace Go.Proofs.YtdehnokcjnbjoaaGreat
open Go.RowKit Go.Proofs.Gn
set_option linter.unusedVariables false
/-- The way to the next corner, when one more point has been looked at. -/
def nxS (a w p : Int × Int) : Int × Int :=
  if w.1 * (p.2 - a.2) - w.2 * (p.1 - a.1) < 0 then (p.1 - a.1, p.2 - a.2)
  else if w.1 * (p.2 - a.2) - w.2 * (p.1 - a.1) = 0 then (if w.1 * w.1 + w.2 * w.2 < (p.1 - a.1) * (p.1 - a.1) + (p.2 - a.2) * (p.2 - a.2) then (p.1 - a.1, p.2 - a.2) else w) else w
def nxW (a : Int × Int) : Int × Int → List (Int × Int) → Int × Int
  | w, [] => w
  | w, p :: l => nxW a (nxS a w p) l
def nxF (l : List (Int × Int)) (a : Int × Int) : Int × Int := (a.1 + (nxW a (0, 0) l).1, a.2 + (nxW a (0, 0) l).2)
/-- Points that are not far. -/
def Nr (b : Int) (p : Int × Int) : Prop := (-b ≤ p.1 ∧ p.1 ≤ b) ∧ (-b ≤ p.2 ∧ p.2 ≤ b)
theorem nxS_nr {a w p : Int × Int} (ha : Nr 4000 a) (hp : Nr 4000 p) (hw : Nr 8000 w) : Nr 8000 (nxS a w p) := by
  have h : Nr 8000 (p.1 - a.1, p.2 - a.2) := by
    unfold Nr at *
    dsimp only
    omega
  unfold nxS
  split
  · exact h
  · split
    · split
      · exact h
      · exact hw
    · exact hw
theorem nxW_nr {a : Int × Int} (ha : Nr 4000 a) : ∀ {l : List (Int × Int)} {w : Int × Int}, (∀ p ∈ l, Nr 4000 p) → Nr 8000 w → Nr 8000 (nxW a w l)
  | [], w, _, hw => hw
  | p :: l, w, hl, hw => (nxW_nr (w := nxS a w p) ha (fun q hq => hl q (by simp [hq])) (nxS_nr ha (hl p (by simp)) hw) : Nr 8000 (nxW a (nxS a w p) l))
theorem nxW_drop {a w : Int × Int} {l : List (Int × Int)} {k : Nat} (h : k < l.length) : nxW a w (l.drop k) = nxW a (nxS a w l[k]) (l.drop (k + 1)) := by
  rw [List.drop_eq_getElem_cons h]
  rfl
theorem mul_nr0 {x y A B : Int} (h : 0 ≤ x) (hx : x ≤ A) (hy : -B ≤ y ∧ y ≤ B) (hB : 0 ≤ B) : -(A * B) ≤ x * y ∧ x * y ≤ A * B := by
  have a := Int.mul_le_mul_of_nonneg_left hy.2 h
  have b := Int.mul_le_mul_of_nonneg_left hy.1 h
  have c := Int.mul_le_mul_of_nonneg_right hx hB
  rw [Int.mul_neg] at b
  omega
theorem mul_nr {x y A B : Int} (hx : -A ≤ x ∧ x ≤ A) (hy : -B ≤ y ∧ y ≤ B) (hB : 0 ≤ B) : -(A * B) ≤ x * y ∧ x * y ≤ A * B := by
  rcases Int.le_total 0 x with h | h
  · exact mul_nr0 h hx.2 hy hB
  · have q := mul_nr0 (x := -x) (by omega) (show -x ≤ A by omega) hy hB
    rw [Int.neg_mul] at q
    omega
/-- What the example rubs, its hull, the ways along it, and the directions that look away. -/
def ruL : List (Int × Int) := [(1500, 0), (1060, 1060), (0, 1500), (-1060, 1060), (-1500, 0), (-1060, -1060), (0, -1500), (1060, -1060)]
def huL : List (Int × Int) := [(-1500, 0), (-1060, -1060), (0, -1500), (1060, -1060), (1500, 0), (1060, 1060), (0, 1500), (-1060, 1060)]
def waL : List (Int × Int) := [(440, -1060), (1060, -440), (1060, 440), (440, 1060), (-440, 1060), (-1060, 440), (-1060, -440), (-440, -1060)]
def diL : List (Int × Int) := [(-1060, -440), (-440, -1060), (440, -1060), (1060, -440), (1060, 440), (440, 1060), (-440, 1060), (-1060, 440)]
theorem ruL_nr : ∀ p ∈ ruL, Nr 4000 p := by
  intro p hp
  unfold ruL at hp
  simp at hp
  unfold Nr
  rcases hp with rfl | rfl | rfl | rfl | rfl | rfl | rfl | rfl <;> decide
theorem huL_nr : ∀ p ∈ huL, Nr 4000 p := by
  intro p hp
  unfold huL at hp
  simp at hp
  unfold Nr
  rcases hp with rfl | rfl | rfl | rfl | rfl | rfl | rfl | rfl <;> decide
/-- Along the hull, corner by corner. -/
theorem huL_next : ∀ k (h : k < 8), nxF ruL (huL[k]'(by simp [huL]; omega)) = huL[(k + 1) % 8]'(by simp [huL]; omega) := by decide
theorem huL_first : ∀ k (h : k < 8), k ≠ 0 → huL[k]'(by simp [huL]; omega) ≠ (-1500, 0) := by decide
theorem huL_way : ∀ k (h : k < 8), ((huL[(k + 1) % 8]'(by simp [huL]; omega)).1 - (huL[k]'(by simp [huL]; omega)).1, (huL[(k + 1) % 8]'(by simp [huL]; omega)).2 - (huL[k]'(by simp [huL]; omega)).2) = waL[k]'(by simp [waL]; omega) := by decide
/-- Whether all of a hull lies behind what is needed. -/
def prF (d m n : Int × Int) : Bool := decide (d.1 * n.1 + d.2 * n.2 < m.1 * n.1 + m.2 * n.2)
theorem ex_slips : (diL.map fun n => huL.all fun d => prF d (1505, 0) n) = [false, false, false, true, true, false, false, false] := by decide
theorem ex_holds : (diL.map fun n => huL.all fun d => prF d (1500, 0) n) = [false, false, false, false, false, false, false, false] := by decide
end Go.Proofs.YtdehnokcjnbjoaaGreat
