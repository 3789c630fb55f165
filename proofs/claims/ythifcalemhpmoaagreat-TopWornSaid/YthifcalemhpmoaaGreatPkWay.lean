/- What Length returns, of the program and of the document's own answers. What isHull returns. Lists of lists of points: the looks at them. Whether a hull contains a point. Whether a hull contains a point. The pairs of neighbours of a hull, as the program yields them: a contract of the iterator. The box of a hull: its least and greatest coordinates. A stack of points without what is on its top as long as it does not turn to the left. -/
import Derived.Test.YthifcalemhpmoaaGreatSl
import Derived.Test.YthifcalemhpmoaaGreatPkKp
import Derived.Deep.DeepCutAuto
import Derived.Test.YthifcalemhpmoaaGreatBx
import Derived.RangeFuncNested
import Derived.RangeFuncLeaves
import Derived.Shelf.Abstract
import Derived.Shelf.RegionOpen
import Derived.OwnWalkIn
import Derived.TacticsInMore
import Derived.LoopNIn
import Derived.LoopIn
import Derived.Test.YthifcalemhpmoaaGreatPkDivM
import Derived.Test.YthifcalemhpmoaaGreatMath
namespace Go.Proofs.YthifcalemhpmoaaGreat
open Go.RowKit Go.Proofs.Gn
/-- Far from the limits, all of them. -/
def BdL (ps : Pl) : Prop := ∀ p ∈ ps, Bd p.1 ∧ Bd p.2
theorem bdL_get {ps : Pl} (h : BdL ps) {k : Nat} (hk : k < ps.length) : Bd (Gx.g ps k).1 ∧ Bd (Gx.g ps k).2 := h _ (Gx.g_mem hk)
theorem pts_g {w : World} {b off : Nat} {ps : Pl} (hc : ∀ k (h : k < ps.length), w.cell? ⟨b, off + k * 2, none⟩ = some (.int .i64 ps[k].1) ∧ w.cell? ⟨b, off + k * 2 + 1, none⟩ = some (.int .i64 ps[k].2)) {k : Nat} (hk : k < ps.length) :
    w.cell? ⟨b, off + k * 2, none⟩ = some (.int .i64 (Gx.g ps k).1) ∧ w.cell? ⟨b, off + k * 2 + 1, none⟩ = some (.int .i64 (Gx.g ps k).2) := by
  rw [Gx.g_eq hk]
  exact hc k hk
theorem det_dt (a b c : Int × Int) : det a.1 a.2 b.1 b.2 c.1 c.2 = Gx.dt a b c := rfl
theorem cmp_le (d : Int) : decide (cmpV d 0 ≤ 0) = decide (d ≤ 0) := by
  unfold cmpV
  rw [Bool.eq_iff_iff]
  simp only [decide_eq_true_eq]
  split
  · omega
  · split <;> omega
theorem p_off0 (A : Option Addr) (n : Nat) (cap : Nat) (p : Addr) (w : World) (h : n < 2) :
    Calls Tryz.prog 123 #[.slice A n cap, .pointer (some p)] w fun e w' => e = .returned (.bool false) ∧ Up w w' := by
  have h1 : (n : Int) < 2 := by omega
  have h2 : decide ((2 : Int) ≤ (n : Int)) = false := by simp; omega
  go_enter Tryz.func123, Tryz.ntmps123
  go_wp2_with fail
  go_quiet (fail)
  all_goals go_wp2_with fail
  all_goals go_ret
  all_goals exact ⟨rfl, (by repeat' (first | (with_reducible exact up_refl _) | (with_reducible assumption) | (with_reducible refine up_alloc ?_ _) | (with_reducible refine up_drewN ?_ _) | (with_reducible refine up_drew ?_) | (with_reducible refine up_set ?_ (by first | (simp; done) | (simp; omega) | omega) _) | (refine up_trans ?_ (by with_reducible assumption))))⟩
set_option maxHeartbeats 1000000 in
theorem p_off2 (b off : Nat) (ps : Pl) (cap : Nat) (pb : Nat) (x y : Int) (w : World) (hc : ∀ k (h : k < ps.length), w.cell? ⟨b, off + k * 2, none⟩ = some (.int .i64 ps[k].1) ∧ w.cell? ⟨b, off + k * 2 + 1, none⟩ = some (.int .i64 ps[k].2))
    (hx : w.cell? ⟨pb, 0, none⟩ = some (.int .i64 x)) (hy : w.cell? ⟨pb, 1, none⟩ = some (.int .i64 y)) (n : Nat) (hn : ps.length = n + 2) (h63 : n + 2 ≤ 9223372036854775807) (hb : BdL ps) (bx : Bd x) (b_y : Bd y) :
    Calls Tryz.prog 123 #[.slice (some ⟨b, off, none⟩) ((n + 2 : Nat)) cap, .pointer (some ⟨pb, 0, none⟩)] w fun e w' => e = .returned (.bool (decide (Gx.dt (Gx.g ps n) (Gx.g ps (n + 1)) (x, y) ≤ 0))) ∧ Up w w' := by
  obtain ⟨a0, a1⟩ := pts_g hc (k := n) (by omega)
  obtain ⟨b0, b1⟩ := pts_g hc (k := n + 1) (by omega)
  have ba := bdL_get hb (k := n) (by omega)
  have bb := bdL_get hb (k := n + 1) (by omega)
  obtain ⟨P, hP⟩ : ∃ P, Gx.g ps n = P := ⟨_, rfl⟩
  obtain ⟨Q, hQ⟩ : ∃ P, Gx.g ps (n + 1) = P := ⟨_, rfl⟩
  rw [hP] at a0 a1 ba ⊢
  rw [hQ] at b0 b1 bb ⊢
  obtain ⟨p1, p2⟩ := P
  obtain ⟨q1, q2⟩ := Q
  simp only at a0 a1 b0 b1 ba bb
  have PT : ∀ W : World, Calls Tryz.prog 124 #[pt p1 p2, pt q1 q2, pt x y] W fun e w' => e = .returned (.int .i64 (cmpV (det p1 p2 q1 q2 x y) 0)) ∧ Up W w' := fun W => p_turn p1 p2 q1 q2 x y W ba.1 ba.2 bb.1 bb.2 bx b_y
  have hd : decide (cmpV (det p1 p2 q1 q2 x y) 0 ≤ 0) = decide (Gx.dt (p1, p2) (q1, q2) (x, y) ≤ 0) := cmp_le _
  obtain ⟨T, hT⟩ : ∃ T, cmpV (det p1 p2 q1 q2 x y) 0 = T := ⟨_, rfl⟩
  rw [hT] at hd PT
  obtain ⟨D, hD⟩ : ∃ D, decide (Gx.dt (p1, p2) (q1, q2) (x, y) ≤ 0) = D := ⟨_, rfl⟩
  rw [hD] at hd ⊢
  have HPT := hide PT
  clear PT hP hQ hT hD hc hn hb ba bb bx b_y
  have k1 : (2 : Int) ≤ ((n + 2 : Nat) : Int) := by omega
  have k2 : decide ((2 : Int) ≤ ((n + 2 : Nat) : Int)) = true := by simp; omega
  have k3 : IntKind.i64.wrap (((n + 2 : Nat) : Int) - 2) = (n : Int) := by rw [IntWalk.i64_in _ ⟨by omega, by omega⟩]; omega
  have k4 : IntKind.i64.wrap (((n + 2 : Nat) : Int) - 1) = ((n + 1 : Nat) : Int) := by rw [IntWalk.i64_in _ ⟨by omega, by omega⟩]; omega
  have k5 : (n : Int) < ((n + 2 : Nat) : Int) := by omega
  have k6 : ((n + 1 : Nat) : Int) < ((n + 2 : Nat) : Int) := by omega
  obtain ⟨N, hN⟩ : ∃ N : Nat, N = n + 2 := ⟨_, rfl⟩
  obtain ⟨M, hM⟩ : ∃ M : Nat, M = n + 1 := ⟨_, rfl⟩
  rw [← hN] at k1 k2 k3 k4 k5 k6 ⊢
  rw [← hM] at k4 k6 b0 b1
  clear hN hM
  go_enter Tryz.func123, Tryz.ntmps123
  go_wp2_with fail
  go_region_held3 (fun wx => wx.cell? ⟨b, off + n * 2, none⟩ = some (.int .i64 p1) ∧ wx.cell? ⟨b, off + n * 2 + 1, none⟩ = some (.int .i64 p2) ∧ wx.cell? ⟨b, off + M * 2, none⟩ = some (.int .i64 q1) ∧ wx.cell? ⟨b, off + M * 2 + 1, none⟩ = some (.int .i64 q2) ∧ wx.cell? ⟨pb, 0, none⟩ = some (.int .i64 x) ∧ wx.cell? ⟨pb, 1, none⟩ = some (.int .i64 y) ∧ Up w wx)
    ((first | exact ⟨a0, a1, b0, b1, hx, hy, up_drew (up_refl _)⟩ | (with_reducible assumption) | exact ⟨up_cell hb3 a0, up_cell hb3 a1, up_cell hb3 b0, up_cell hb3 b1, up_cell hb3 hx, up_cell hb3 hy, (by repeat' (first | (with_reducible exact up_refl _) | (with_reducible assumption) | (with_reducible refine up_alloc ?_ _) | (with_reducible refine up_drewN ?_ _) | (with_reducible refine up_drew ?_) | (with_reducible refine up_set ?_ (by first | (simp; done) | (simp; omega) | omega) _) | (refine up_trans ?_ (by with_reducible assumption))))⟩))
    (first | (go_at_call 124; (with_reducible refine (unhide HPT _).mono ?_); rintro e w3 ⟨rfl, hb3⟩))
  go_wp2
  go_ret
  exact ⟨rfl, (by repeat' (first | (with_reducible exact up_refl _) | (with_reducible assumption) | (with_reducible refine up_alloc ?_ _) | (with_reducible refine up_drewN ?_ _) | (with_reducible refine up_drew ?_) | (with_reducible refine up_set ?_ (by first | (simp; done) | (simp; omega) | omega) _) | (refine up_trans ?_ (by with_reducible assumption))))⟩
/-- What is left of a stack. -/
def leftS (p : Int × Int) (ps : Pl) : Pl := (Gx.popS p ps.reverse).reverse
theorem leftS_prefix (p : Int × Int) (ps : Pl) : leftS p ps <+: ps := by
  have := Gx.pop_suffix p ps.reverse
  unfold leftS
  rw [← List.reverse_suffix, List.reverse_reverse]
  exact this
theorem leftS_short {p : Int × Int} {ps : Pl} (h : ps.length < 2) : leftS p ps = ps := by
  match ps, h with
  | [], _ => rfl
  | [_], _ => rfl
theorem leftS_step {p : Int × Int} {ps : Pl} {n : Nat} (h : ps.length = n + 2) : leftS p ps = if Gx.dt (Gx.g ps n) (Gx.g ps (n + 1)) p ≤ 0 then leftS p (ps.take (n + 1)) else ps := by
  obtain ⟨r, rfl⟩ : ∃ r, ps = r.reverse := ⟨ps.reverse, by simp⟩
  match r, h with
  | b :: a :: t, h =>
    have ht : t.length = n := by simpa using h
    have e1 : Gx.g (b :: a :: t).reverse n = a := by
      rw [Gx.g_eq (by simp; omega)]
      simp [ht]
    have e2 : Gx.g (b :: a :: t).reverse (n + 1) = b := by
      rw [Gx.g_eq (by simp; omega)]
      simp [ht]
    have e3 : (b :: a :: t).reverse.take (n + 1) = (a :: t).reverse := by
      rw [List.reverse_cons, List.take_append_of_le_length (by simp; omega), List.take_of_length_le (by simp; omega)]
    rw [e1, e2, e3]
    unfold leftS
    rw [List.reverse_reverse, List.reverse_reverse]
    conv => lhs; unfold Gx.popS
    split <;> rfl
set_option maxHeartbeats 1000000 in
theorem p_drop (g : Nat) (ps : Pl) (cap : Nat) (pb : Nat) (x y : Int) (w : World) (hc : ∀ k (h : k < ps.length), w.cell? ⟨g, 0 + k * 2, none⟩ = some (.int .i64 ps[k].1) ∧ w.cell? ⟨g, 0 + k * 2 + 1, none⟩ = some (.int .i64 ps[k].2))
    (hx : w.cell? ⟨pb, 0, none⟩ = some (.int .i64 x)) (hy : w.cell? ⟨pb, 1, none⟩ = some (.int .i64 y)) (hcap : ps.length ≤ cap) (h63 : cap ≤ 9223372036854775807) (hb : BdL ps) (bx : Bd x) (b_y : Bd y) :
    Calls Tryz.prog 122 #[.slice (some ⟨g, 0, none⟩) ps.length cap, .func (.func 123) #[] #[.pointer (some ⟨pb, 0, none⟩)]] w fun e w' => e = .returned (.slice (some ⟨g, 0, none⟩) (leftS (x, y) ps).length cap) ∧ Up w w' := by
  obtain ⟨N, hN⟩ : ∃ N, ps.length = N := ⟨_, rfl⟩
  rw [hN] at hcap ⊢
  have HC := hide hc
  have HN := hide hN
  have HB := hide hb
  clear hc hN hb
  go_enter Tryz.func122, Tryz.ntmps122
  go_wp2_with fail
  go_loopw [0] (fun v wr => ∃ m : Nat, m ≤ N ∧ v = .slice (some ⟨g, 0, none⟩) m cap ∧ Up w wr ∧ leftS (x, y) (ps.take m) = leftS (x, y) ps) (fun v _ => match v with | .slice _ n _ => n | _ => 0)
  case atStart => exact ⟨N, Nat.le_refl _, rfl, up_refl _, by rw [List.take_of_length_le (by rw [unhide HN]; exact Nat.le_refl _)]⟩
  case round =>
    obtain ⟨m, hm, rfl, hu, hl⟩ := hrel
    have hlen : (ps.take m).length = m := by rw [List.length_take, unhide HN]; omega
    have hcm : ∀ k (h : k < (ps.take m).length), wr.cell? ⟨g, 0 + k * 2, none⟩ = some (.int .i64 (ps.take m)[k].1) ∧ wr.cell? ⟨g, 0 + k * 2 + 1, none⟩ = some (.int .i64 (ps.take m)[k].2) := fun k h => by
      rw [List.getElem_take]
      have := unhide HC k (by rw [unhide HN]; omega)
      exact ⟨up_cell hu this.1, up_cell hu this.2⟩
    have hbm : BdL (ps.take m) := fun p hp => unhide HB p (List.mem_of_mem_take hp)
    have HL := hide hl
    have hx' := up_cell hu hx
    have hy' := up_cell hu hy
    by_cases h2 : m < 2
    · have e : (leftS (x, y) ps).length = m := by rw [← unhide HL, leftS_short (by omega), hlen]
      have HE := hide e
      clear e hcm hbm hlen hl
      go_wp2_with (go_at_call 123; refine (p_off0 _ _ _ _ _ h2).mono ?_; rintro e w1 ⟨rfl, hb1⟩)
      go_ret
      refine ⟨?_, (by repeat' (first | (with_reducible exact up_refl _) | (with_reducible assumption) | (with_reducible refine up_alloc ?_ _) | (with_reducible refine up_drewN ?_ _) | (with_reducible refine up_drew ?_) | (with_reducible refine up_set ?_ (by first | (simp; done) | (simp; omega) | omega) _) | (refine up_trans ?_ (by with_reducible assumption))))⟩
      rw [unhide HE]; rfl
    · obtain ⟨n, hn⟩ : ∃ n, m = n + 2 := ⟨m - 2, by omega⟩
      have hstep := leftS_step (p := (x, y)) (ps := ps.take m) (n := n) (by rw [hlen]; exact hn)
      have hoff := p_off2 g 0 (ps.take m) cap pb x y wr hcm hx' hy' n (by rw [hlen]; exact hn) (by omega) hbm bx b_y
      rw [← hn] at hoff
      have et : (ps.take m).take (n + 1) = ps.take (n + 1) := by rw [List.take_take, Nat.min_eq_left (by omega)]
      rw [et] at hstep
      by_cases hd : Gx.dt (Gx.g (ps.take m) n) (Gx.g (ps.take m) (n + 1)) (x, y) ≤ 0
      · rw [if_pos hd] at hstep
        rw [decide_eq_true hd] at hoff
        have hl2 : leftS (x, y) (ps.take (n + 1)) = leftS (x, y) ps := by rw [← hstep]; exact unhide HL
        have HL2 := hide hl2
        have HO := hide hoff
        have e1 : IntKind.i64.wrap ((m : Int) - 1) = ((n + 1 : Nat) : Int) := by rw [IntWalk.i64_in _ ⟨by omega, by omega⟩]; omega
        have e2 : ((n + 1 : Nat) : Int) ≤ (cap : Int) := by omega
        have e3 : n + 1 ≤ cap := by omega
        obtain ⟨M, hM⟩ : ∃ M : Nat, M = n + 1 := ⟨_, rfl⟩
        rw [← hM] at e1 e2 e3 HL2
        have e4 : M < m := by omega
        have e5 : M ≤ N := by omega
        clear hstep hoff hd et hcm hbm hlen hl hl2 hn hM h2
        go_wp2_with (go_at_call 123; refine (unhide HO).mono ?_; rintro e w1 ⟨rfl, hb1⟩)
        go_roundw
        case rel => exact ⟨M, e5, rfl, (by repeat' (first | (with_reducible exact up_refl _) | (with_reducible assumption) | (with_reducible refine up_alloc ?_ _) | (with_reducible refine up_drewN ?_ _) | (with_reducible refine up_drew ?_) | (with_reducible refine up_set ?_ (by first | (simp; done) | (simp; omega) | omega) _) | (refine up_trans ?_ (by with_reducible assumption)))), unhide HL2⟩
        case measure => exact e4
      · rw [if_neg hd] at hstep
        rw [decide_eq_false hd] at hoff
        have e : (leftS (x, y) ps).length = m := by rw [← unhide HL, hstep, hlen]
        have HE := hide e
        have HO := hide hoff
        clear e hcm hbm hlen hl hstep hoff hd et hn h2
        go_wp2_with (go_at_call 123; refine (unhide HO).mono ?_; rintro e w1 ⟨rfl, hb1⟩)
        go_ret
        refine ⟨?_, (by repeat' (first | (with_reducible exact up_refl _) | (with_reducible assumption) | (with_reducible refine up_alloc ?_ _) | (with_reducible refine up_drewN ?_ _) | (with_reducible refine up_drew ?_) | (with_reducible refine up_set ?_ (by first | (simp; done) | (simp; omega) | omega) _) | (refine up_trans ?_ (by with_reducible assumption))))⟩
        rw [unhide HE]; rfl
theorem p_drop0 (cap : Nat) (p : Addr) (w : World) :
    Calls Tryz.prog 122 #[.slice none 0 cap, .func (.func 123) #[] #[.pointer (some p)]] w fun e w' => e = .returned (.slice none 0 cap) ∧ Up w w' := by
  go_enter Tryz.func122, Tryz.ntmps122
  go_wp2_with fail
  go_loopw [0] (fun v wr => v = .slice none 0 cap ∧ Up w wr) (fun _ _ => 0)
  case atStart => exact ⟨rfl, up_refl _⟩
  case round =>
    obtain ⟨rfl, hu⟩ := hrel
    have PO := fun W => p_off0 none 0 cap p W (by omega)
    have HPO := hide PO
    clear PO
    go_wp2_with (go_at_call 123; refine (unhide HPO _).mono ?_; rintro e w1 ⟨rfl, hb1⟩)
    go_ret
    exact ⟨rfl, (by repeat' (first | (with_reducible exact up_refl _) | (with_reducible assumption) | (with_reducible refine up_alloc ?_ _) | (with_reducible refine up_drewN ?_ _) | (with_reducible refine up_drew ?_) | (with_reducible refine up_set ?_ (by first | (simp; done) | (simp; omega) | omega) _) | (refine up_trans ?_ (by with_reducible assumption))))⟩
end Go.Proofs.YthifcalemhpmoaaGreat
namespace Go.Proofs.YthifcalemhpmoaaGreat
open Go.RowKit Go.Proofs.Gn
/-- The least and the greatest coordinates of points. -/
structure IsBox (ps : Pl) (k : Nat) (l1 l2 h1 h2 : Int) : Prop where
  l1a : ∃ r ∈ ps, r.1 = l1
  l2a : ∃ r ∈ ps, r.2 = l2
  h1a : ∃ r ∈ ps, r.1 = h1
  h2a : ∃ r ∈ ps, r.2 = h2
  l1b : ∀ i, i < k → l1 ≤ (Gx.g ps i).1
  l2b : ∀ i, i < k → l2 ≤ (Gx.g ps i).2
  h1b : ∀ i, i < k → (Gx.g ps i).1 ≤ h1
  h2b : ∀ i, i < k → (Gx.g ps i).2 ≤ h2
theorem min_of {P : Int → Prop} {a b : Int} (ha : P a) (hb : P b) : P (if b < a then b else a) := by split <;> assumption
theorem max_of {P : Int → Prop} {a b : Int} (ha : P a) (hb : P b) : P (if b > a then b else a) := by split <;> assumption
theorem box_step {ps : Pl} {k : Nat} {l1 l2 h1 h2 x y : Int} (h : IsBox ps k l1 l2 h1 h2) (hk : k < ps.length) (e : Gx.g ps k = (x, y)) :
    IsBox ps (k + 1) (if x < l1 then x else l1) (if y < l2 then y else l2) (if x > h1 then x else h1) (if y > h2 then y else h2) := by
  have hx : ∃ r ∈ ps, r.1 = x := ⟨Gx.g ps k, Gx.g_mem hk, by rw [e]⟩
  have hy : ∃ r ∈ ps, r.2 = y := ⟨Gx.g ps k, Gx.g_mem hk, by rw [e]⟩
  have low : ∀ {a b : Int}, (if b < a then b else a) ≤ a ∧ (if b < a then b else a) ≤ b := fun {a b} => by split <;> omega
  have high : ∀ {a b : Int}, a ≤ (if b > a then b else a) ∧ b ≤ (if b > a then b else a) := fun {a b} => by split <;> omega
  refine ⟨min_of (P := fun z => ∃ r ∈ ps, r.1 = z) h.l1a hx, min_of (P := fun z => ∃ r ∈ ps, r.2 = z) h.l2a hy, max_of (P := fun z => ∃ r ∈ ps, r.1 = z) h.h1a hx, max_of (P := fun z => ∃ r ∈ ps, r.2 = z) h.h2a hy, ?_, ?_, ?_, ?_⟩
  · intro i hi
    rcases Nat.lt_or_ge i k with c | c
    · exact Int.le_trans low.1 (h.l1b i c)
    · obtain rfl : i = k := by omega
      rw [e]; exact low.2
  · intro i hi
    rcases Nat.lt_or_ge i k with c | c
    · exact Int.le_trans low.1 (h.l2b i c)
    · obtain rfl : i = k := by omega
      rw [e]; exact low.2
  · intro i hi
    rcases Nat.lt_or_ge i k with c | c
    · exact Int.le_trans (h.h1b i c) high.1
    · obtain rfl : i = k := by omega
      rw [e]; exact high.2
  · intro i hi
    rcases Nat.lt_or_ge i k with c | c
    · exact Int.le_trans (h.h2b i c) high.1
    · obtain rfl : i = k := by omega
      rw [e]; exact high.2
theorem bx_set2 {W : World} {b : Nat} {u0 u1 v0 v1 : Value} (h : Bx W b [u0, u1]) : Bx ((W.setCell ⟨b, 0, none⟩ v0).setCell ⟨b, 1, none⟩ v1) b [v0, v1] := bx_set (bx_set h 0 v0) 1 v1
theorem bx_far2 {W : World} {b g : Nat} {vs : List Value} {v0 v1 : Value} (h : Bx W b vs) (hg : g ≠ b) : Bx ((W.setCell ⟨g, 0, none⟩ v0).setCell ⟨g, 1, none⟩ v1) b vs := bx_far (bx_far h (p := ⟨g, 0, none⟩) hg _) (p := ⟨g, 1, none⟩) hg _
end Go.Proofs.YthifcalemhpmoaaGreat
namespace Go.Proofs.YthifcalemhpmoaaGreat
open Go.RowKit Go.Proofs.Gn Go.Shelf
attribute [local go_sem] Oper.semAt_some
abbrev Pr := (Int × Int) × (Int × Int)
/-- How many sides. -/
def sidesN (ps : Pl) : Nat := if ps.length = 1 then 0 else ps.length
/-- The first k pairs of neighbours. -/
def nbs (ps : Pl) (k : Nat) : List Pr := (List.range k).map fun i => (Gx.g ps i, Gx.gc ps (i + 1))
theorem nbs_succ (ps : Pl) (k : Nat) : nbs ps (k + 1) = nbs ps k ++ [(Gx.g ps k, Gx.gc ps (k + 1))] := by simp [nbs, List.range_succ]
theorem nbs_len (ps : Pl) (k : Nat) : (nbs ps k).length = k := by simp [nbs]
/-- What a round keeps: what was there when the walk began, and the box of the list. -/
def KpN (n₀ Bs : Nat) (W W' : World) : Prop := Below n₀ W W' ∧ ∀ v, W.cell? ⟨Bs, 0, none⟩ = some v → W'.cell? ⟨Bs, 0, none⟩ = some v
theorem kpN_refl (n₀ Bs : Nat) (W : World) : KpN n₀ Bs W W := ⟨Below.refl _ _, fun _ h => h⟩
theorem kpN_trans {n₀ Bs : Nat} {A B C : World} (h : KpN n₀ Bs A B) (k : KpN n₀ Bs B C) : KpN n₀ Bs A C := ⟨h.1.trans k.1, fun v hv => k.2 v (h.2 v hv)⟩
theorem kpN_up {n₀ Bs : Nat} {W W' : World} (h : Up W W') (hn : n₀ ≤ W.heap.size) : KpN n₀ Bs W W' := ⟨h.mono hn, fun _ hv => up_cell h hv⟩
theorem grown_drew (W : World) : W.grownBy W.drew none := ⟨rfl, rfl, rfl, Nat.le_refl _, fun _ _ _ => rfl⟩
theorem yield_cases {e : Ending} {A B : Prop} (h : (e = .returned (.bool true) ∧ A) ∨ (e = .returned (.bool false) ∧ B)) : ∃ bv : Bool, e = .returned (.bool bv) ∧ ((bv = true ∧ A) ∨ (bv = false ∧ B)) := by
  rcases h with ⟨h1, h2⟩ | ⟨h1, h2⟩
  · exact ⟨true, h1, .inl ⟨rfl, h2⟩⟩
  · exact ⟨false, h1, .inr ⟨rfl, h2⟩⟩
theorem upto_mod (k n : Nat) : ((k : Int) + 1).tmod (n : Int) = (((k + 1) % n : Nat) : Int) := by rw [show (k : Int) + 1 = ((k + 1 : Nat) : Int) by omega]; rfl
end Go.Proofs.YthifcalemhpmoaaGreat
namespace Go.Proofs.YthifcalemhpmoaaGreat
open Go.RowKit Go.Proofs.Gn Go.Shelf
attribute [local go_sem] Oper.semAt_some
/-- What has come when k rounds are over. -/
def upTo {α : Type} (f : Nat → α) (k : Nat) : List α := (List.range k).map f
theorem upTo_succ {α : Type} (f : Nat → α) (k : Nat) : upTo f (k + 1) = upTo f k ++ [f k] := by simp [upTo, List.range_succ]
theorem upTo_len {α : Type} (f : Nat → α) (k : Nat) : (upTo f k).length = k := by simp [upTo]
theorem kpN_b {n₀ Bs : Nat} {w : World} (hn : n₀ ≤ w.heap.size) (hB : Bs < w.heap.size) (W : World) (l : Nat) (o o' : Obj) (hl : w.heap.size ≤ l) (h : W.heap[l]? = some o) (hc : o.isCells = false) (hw : o.isWalk = false) : KpN n₀ Bs W (W.putObj l o') :=
  ⟨belowK_b hn W l o o' hl h hc hw, fun _ hv => ((belowK_b (n₀ := Bs + 1) hB W l o o' hl h hc hw).cell (p := ⟨Bs, 0, none⟩) (Nat.lt_succ_self _)).trans hv⟩
/-- The box is one. -/
theorem box_ex {ps : Pl} (h0 : 0 < ps.length) : ∀ k, k < ps.length → ∃ l1 l2 h1 h2, IsBox ps (k + 1) l1 l2 h1 h2
  | 0, _ => by
    have m := Gx.g_mem h0
    refine ⟨(Gx.g ps 0).1, (Gx.g ps 0).2, (Gx.g ps 0).1, (Gx.g ps 0).2, ⟨_, m, rfl⟩, ⟨_, m, rfl⟩, ⟨_, m, rfl⟩, ⟨_, m, rfl⟩, ?_, ?_, ?_, ?_⟩ <;> (intro i hi; obtain rfl : i = 0 := by omega) <;> exact Int.le_refl _
  | k + 1, hk => by
    obtain ⟨l1, l2, h1, h2, hB⟩ := box_ex h0 k (by omega)
    exact ⟨_, _, _, _, box_step hB hk rfl⟩
theorem box_one {ps : Pl} {l1 l2 h1 h2 l1' l2' h1' h2' : Int} (a : IsBox ps ps.length l1 l2 h1 h2) (b : IsBox ps ps.length l1' l2' h1' h2') : l1 = l1' ∧ l2 = l2' ∧ h1 = h1' ∧ h2 = h2' := by
  have lo : ∀ {f : Int × Int → Int} {x y : Int}, (∃ r ∈ ps, f r = x) → (∀ i, i < ps.length → y ≤ f (Gx.g ps i)) → y ≤ x := fun {f x y} ⟨r, hr, e⟩ h => by
    obtain ⟨i, hi, rfl⟩ := Gx.mem_g hr
    rw [← e]; exact h i hi
  have hi : ∀ {f : Int × Int → Int} {x y : Int}, (∃ r ∈ ps, f r = x) → (∀ i, i < ps.length → f (Gx.g ps i) ≤ y) → x ≤ y := fun {f x y} ⟨r, hr, e⟩ h => by
    obtain ⟨i, hi, rfl⟩ := Gx.mem_g hr
    rw [← e]; exact h i hi
  exact ⟨Int.le_antisymm (lo (f := Prod.fst) b.l1a a.l1b) (lo (f := Prod.fst) a.l1a b.l1b), Int.le_antisymm (lo (f := Prod.snd) b.l2a a.l2b) (lo (f := Prod.snd) a.l2a b.l2b), Int.le_antisymm (hi (f := Prod.fst) a.h1a b.h1b) (hi (f := Prod.fst) b.h1a a.h1b), Int.le_antisymm (hi (f := Prod.snd) a.h2a b.h2b) (hi (f := Prod.snd) b.h2a a.h2b)⟩
theorem box_in {ps : Pl} {l1 l2 h1 h2 : Int} (a : IsBox ps ps.length l1 l2 h1 h2) (q : Int × Int) : Gx.Box ps q ↔ l1 ≤ q.1 ∧ q.1 ≤ h1 ∧ l2 ≤ q.2 ∧ q.2 ≤ h2 := by
  have get : ∀ {r}, r ∈ ps → l1 ≤ r.1 ∧ l2 ≤ r.2 ∧ r.1 ≤ h1 ∧ r.2 ≤ h2 := fun hr => by
    obtain ⟨i, hi, rfl⟩ := Gx.mem_g hr
    exact ⟨a.l1b i hi, a.l2b i hi, a.h1b i hi, a.h2b i hi⟩
  constructor
  · rintro ⟨⟨r, hr, e⟩, ⟨s, hs, f⟩, ⟨t, ht, g⟩, ⟨u, hu, k⟩⟩
    have := get hr; have := get hs; have := get ht; have := get hu
    omega
  · rintro ⟨e, f, g, k⟩
    obtain ⟨r, hr, r1⟩ := a.l1a; obtain ⟨s, hs, s1⟩ := a.h1a; obtain ⟨t, ht, t1⟩ := a.l2a; obtain ⟨u, hu, u1⟩ := a.h2a
    exact ⟨⟨r, hr, by omega⟩, ⟨s, hs, by omega⟩, ⟨t, ht, by omega⟩, ⟨u, hu, by omega⟩⟩
theorem cmp_lt (d : Int) : decide (cmpV d 0 < 0) = decide (d < 0) := by
  unfold cmpV
  rw [Bool.eq_iff_iff]
  simp only [decide_eq_true_eq]
  split
  · omega
  · split <;> omega
theorem up_keepsFrom {B : Nat} {W W' : World} (h : Up W W') : KeepsFrom B W W' := ⟨h.size, fun _ _ _ hk _ => (h.block _ (Array.getElem?_eq_some_iff.1 hk).1).trans hk⟩
/-- A pair of points near enough. -/
abbrev Qp := { x : (Int × Int) × (Int × Int) // (Bd x.1.1 ∧ Bd x.1.2) ∧ (Bd x.2.1 ∧ Bd x.2.2) }
theorem bdL_any {ps : Pl} (h : BdL ps) (k : Nat) : Bd (Gx.g ps k).1 ∧ Bd (Gx.g ps k).2 := by
  by_cases c : k < ps.length
  · exact bdL_get h c
  · have : Gx.g ps k = (0, 0) := by unfold Gx.g; rw [List.getD_eq_getElem?_getD, List.getElem?_eq_none (by omega)]; rfl
    rw [this]; unfold Bd; simp
def qp (ps : Pl) (h : BdL ps) (k : Nat) : Qp := ⟨(Gx.g ps k, Gx.gc ps (k + 1)), bdL_any h _, bdL_any h _⟩
/-- Contained: in the box, and on the left of all sides. -/
theorem cont_upTo {ps : Pl} (hb : BdL ps) {q : Int × Int} : Gx.Cont ps q ↔ Gx.Box ps q ∧ ∀ x ∈ upTo (qp ps hb) (sidesN ps), 0 ≤ Gx.dt x.1.1 x.1.2 q := by
  by_cases h : ps.length = 1
  · have e : upTo (qp ps hb) (sidesN ps) = [] := by unfold sidesN; rw [if_pos h]; rfl
    rw [e]
    exact ⟨fun c => ⟨c.box, fun x hx => by cases hx⟩, fun c => ⟨c.1, fun k => absurd h k⟩⟩
  · have e : Gx.Left ps q ↔ ∀ x ∈ upTo (qp ps hb) (sidesN ps), 0 ≤ Gx.dt x.1.1 x.1.2 q := by
      unfold sidesN upTo Gx.Left
      rw [if_neg h]
      simp only [List.mem_map, List.mem_range, forall_exists_index, and_imp]
      exact ⟨fun H x i hi e => e ▸ H i hi, fun H i hi => H _ i hi rfl⟩
    rw [← e]
    exact ⟨fun c => ⟨c.box, c.left h⟩, fun c => ⟨c.1, fun _ => c.2⟩⟩
/-- There is a side that has the point on its right. -/
theorem cont_no {ps : Pl} (hb : BdL ps) {q : Int × Int} {k : Nat} (hk : k ≤ sidesN ps) {x : Qp} (hx : x ∈ upTo (qp ps hb) k) (h : Gx.dt x.1.1 x.1.2 q < 0) : ¬ Gx.Cont ps q := fun c => by
  obtain ⟨i, hi, rfl⟩ := List.mem_map.1 hx
  have := ((cont_upTo hb).1 c).2 (qp ps hb i) (List.mem_map.2 ⟨i, List.mem_range.2 (by have := List.mem_range.1 hi; omega), rfl⟩)
  omega
end Go.Proofs.YthifcalemhpmoaaGreat
namespace Go.Proofs.YthifcalemhpmoaaGreat
open Go.RowKit Go.Proofs.Gn Go.Shelf
attribute [local go_sem] Oper.semAt_some
end Go.Proofs.YthifcalemhpmoaaGreat
namespace Go.Proofs.YthifcalemhpmoaaGreat
open Go.RowKit Go.Proofs.Gn
/-- A list as it lies: where, its points, its capacity. -/
structure Lst where
  at_ : Option Addr
  ps : Pl
  cap : Nat
def Lst.val (l : Lst) : Value := .slice l.at_ l.ps.length l.cap
/-- The slice at A holds these lists. -/
def Lss (w : World) (A : Option Addr) (ls : List Lst) : Prop :=
  ∃ b off, A = some ⟨b, off, none⟩ ∧ ∀ k (h : k < ls.length), w.cell? ⟨b, off + k, none⟩ = some ls[k].val ∧ Pts w ls[k].at_ ls[k].ps ∧ ls[k].ps.length ≤ 9223372036854775807
theorem lss_up {w w' : World} {A : Option Addr} {ls : List Lst} (h : Lss w A ls) (hu : Up w w') : Lss w' A ls := by
  obtain ⟨b, off, hA, hc⟩ := h
  exact ⟨b, off, hA, fun k hk => ⟨up_cell hu (hc k hk).1, pts_up (hc k hk).2.1 hu, (hc k hk).2.2⟩⟩
theorem lss_one {w : World} {b off : Nat} {l : Lst} (h0 : w.cell? ⟨b, off, none⟩ = some l.val) (h1 : Pts w l.at_ l.ps) (h2 : l.ps.length ≤ 9223372036854775807) : Lss w (some ⟨b, off, none⟩) [l] :=
  ⟨b, off, rfl, fun k hk => by
    obtain rfl : k = 0 := by simp at hk; omega
    exact ⟨h0, h1, h2⟩⟩
theorem lss_two {w : World} {b off : Nat} {l m : Lst} (h0 : w.cell? ⟨b, off, none⟩ = some l.val) (h1 : Pts w l.at_ l.ps) (h2 : l.ps.length ≤ 9223372036854775807) (k0 : w.cell? ⟨b, off + 1, none⟩ = some m.val) (k1 : Pts w m.at_ m.ps) (k2 : m.ps.length ≤ 9223372036854775807) : Lss w (some ⟨b, off, none⟩) [l, m] :=
  ⟨b, off, rfl, fun k hk => by
    match k, hk with
    | 0, _ => exact ⟨h0, h1, h2⟩
    | 1, _ => exact ⟨k0, k1, k2⟩⟩
/-- Is no list too long? Are all points valid? -/
def fewB (ls : List Lst) : Bool := ls.all fun l => decide (l.ps.length ≤ 256)
def okLL (ls : List Lst) : Bool := ls.all fun l => okL l.ps
def chkLL (ls : List Lst) : Int := if fewB ls then if okLL ls then 0 else 2 else 6
theorem all_take_succ {α : Type} {f : α → Bool} {l : List α} {k : Nat} (h : k < l.length) : (l.take (k + 1)).all f = ((l.take k).all f && f l[k]) := by
  rw [List.take_succ_eq_append_getElem h, List.all_append]
  simp
theorem all_at {α : Type} {f : α → Bool} {l : List α} {k : Nat} (h : k < l.length) (hk : f l[k] = false) : l.all f = false := by
  rw [List.all_eq_false]
  exact ⟨l[k], List.getElem_mem h, by simp [hk]⟩
theorem p_checkLists (A : Option Addr) (ls : List Lst) (cap : Nat) (w : World) (h : Lss w A ls) (hn : ls.length ≤ 9223372036854775807) :
    Calls Tryz.prog 51 #[.slice A ls.length cap] w fun e w' => e = .returned (.int .i64 (chkLL ls)) ∧ Up w w' := by
  have HL := hide h
  obtain ⟨b, off, rfl, hc⟩ := h
  have HC := hide hc
  clear hc
  obtain ⟨n, hN⟩ : ∃ n, ls.length = n := ⟨_, rfl⟩
  rw [hN]
  have HN := hide hN
  have hn' : n ≤ 9223372036854775807 := by omega
  clear hN hn
  go_enter Tryz.func51, Tryz.ntmps51
  go_wp2_with fail
  go_loopw [10] (fun i wr => ∃ k : Nat, k ≤ n ∧ i = .int .i64 k ∧ Up w wr ∧ fewB (ls.take k) = true) (fun i _ => n - (intOf i).toNat)
  case atStart => exact ⟨0, by omega, rfl, up_refl _, rfl⟩
  case round =>
    obtain ⟨k, hk, rfl, hu, ho⟩ := hrel
    have HO := hide ho
    clear ho
    by_cases hlt : k < n
    · have hl : k < ls.length := by rw [unhide HN]; exact hlt
      have hck := unhide HC k hl
      obtain ⟨l, hL⟩ : ∃ l, ls[k] = l := ⟨_, rfl⟩
      rw [hL] at hck
      have c0 := up_cell hu hck.1
      unfold Lst.val at c0
      have hm := hck.2.2
      have HX := hide hL
      clear hL hck
      by_cases hp : l.ps.length ≤ 256
      · go_wp2_with fail
        go_roundw
        case rel => exact ⟨k + 1, by omega, by go_num, hu, by unfold fewB; rw [all_take_succ hl, unhide HX]; have := unhide HO; unfold fewB at this; rw [this]; simpa using hp⟩
        case measure => simp [intOf]; omega
      · go_wp2_with fail
        go_ret
        refine ⟨ret_int ?_, hu⟩
        unfold chkLL fewB
        rw [all_at hl (by rw [unhide HX]; simpa using hp)]
        rfl
    · obtain rfl : k = n := by omega
      have hz : fewB ls = true := by
        have := unhide HO
        rwa [List.take_of_length_le (by rw [unhide HN]; omega)] at this
      have HZ := hide hz
      clear hz
      go_wp2_with fail
      go_loopw [20] (fun i wr => ∃ j : Nat, j ≤ k ∧ i = .int .i64 j ∧ Up w wr ∧ okLL (ls.take j) = true) (fun i _ => k - (intOf i).toNat)
      case atStart => exact ⟨0, by omega, rfl, hu, rfl⟩
      case round =>
        obtain ⟨j, hj, rfl, hu, ho⟩ := hrel
        have HO2 := hide ho
        clear ho
        by_cases hlt : j < k
        · have hl : j < ls.length := by rw [unhide HN]; exact hlt
          have hck := unhide HC j hl
          obtain ⟨l, hL⟩ : ∃ l, ls[j] = l := ⟨_, rfl⟩
          rw [hL] at hck
          have c0 := up_cell hu hck.1
          unfold Lst.val at c0
          have hp := hide (pts_up hck.2.1 hu)
          have hm := hck.2.2
          have HX := hide hL
          clear hL hck
          cases ho : okL l.ps
          · have hv : chkL l.ps = 2 := by unfold chkL; rw [ho]; rfl
            have HP := hide ho
            clear ho
            go_wp2_with (go_at_call 80; refine (p_checkPoints _ _ _ _ (unhide hp) hm).mono ?_; rintro e w' ⟨rfl, hb⟩)
            go_ret
            refine ⟨ret_int ?_, (by repeat' (first | (with_reducible exact up_refl _) | (with_reducible assumption) | (with_reducible refine up_alloc ?_ _) | (with_reducible refine up_drewN ?_ _) | (with_reducible refine up_drew ?_) | (with_reducible refine up_set ?_ (by first | (simp; done) | (simp; omega) | omega) _) | (refine up_trans ?_ (by with_reducible assumption))))⟩
            unfold chkLL okLL
            rw [unhide HZ, all_at hl (by rw [unhide HX]; exact unhide HP)]
            rfl
          · have hv : chkL l.ps = 0 := by unfold chkL; rw [ho]; rfl
            have HP := hide ho
            clear ho
            go_wp2_with (go_at_call 80; refine (p_checkPoints _ _ _ _ (unhide hp) hm).mono ?_; rintro e w' ⟨rfl, hb⟩)
            go_roundw
            case rel => exact ⟨j + 1, by omega, by go_num, (by repeat' (first | (with_reducible exact up_refl _) | (with_reducible assumption) | (with_reducible refine up_alloc ?_ _) | (with_reducible refine up_drewN ?_ _) | (with_reducible refine up_drew ?_) | (with_reducible refine up_set ?_ (by first | (simp; done) | (simp; omega) | omega) _) | (refine up_trans ?_ (by with_reducible assumption)))), by unfold okLL; rw [all_take_succ hl, unhide HX]; have := unhide HO2; unfold okLL at this; rw [this]; simpa using unhide HP⟩
            case measure => simp [intOf]; omega
        · obtain rfl : j = k := by omega
          have hz2 : chkLL ls = 0 := by
            unfold chkLL
            have := unhide HO2
            rw [List.take_of_length_le (by rw [unhide HN]; omega)] at this
            rw [unhide HZ, this]; rfl
          have HZ2 := hide hz2
          clear hz2
          go_wp2_with fail
          go_ret
          exact ⟨ret_int (unhide HZ2).symm, hu⟩
end Go.Proofs.YthifcalemhpmoaaGreat
namespace Go.Proofs.YthifcalemhpmoaaGreat
open Go.RowKit Go.Proofs.Gn
open Classical in
/-- Does it turn to the left at each corner? -/
noncomputable def tlB (l : Pl) : Bool := decide (∀ i, i < l.length → 0 < Gx.dt (Gx.g l i) (Gx.gc l (i + 1)) (Gx.gc l (i + 2)))
open Classical in
noncomputable def isHB (l : Pl) : Bool := decide (Gx.IsH l)
open Classical in
theorem isHB_iff {l : Pl} : isHB l = true ↔ Gx.IsH l := by unfold isHB; exact decide_eq_true_iff
open Classical in
theorem tlB_iff {l : Pl} : tlB l = true ↔ ∀ i, i < l.length → 0 < Gx.dt (Gx.g l i) (Gx.gc l (i + 1)) (Gx.gc l (i + 2)) := by unfold tlB; exact decide_eq_true_iff
theorem bool_no {b : Bool} (h : ¬ b = true) : b = false := by cases b; rfl; exact absurd rfl h
theorem tlB_yes {l : Pl} (h : ∀ i, i < l.length → 0 < Gx.dt (Gx.g l i) (Gx.gc l (i + 1)) (Gx.gc l (i + 2))) : tlB l = true := tlB_iff.2 h
theorem tlB_no {l : Pl} {i : Nat} (hi : i < l.length) (h : ¬ 0 < Gx.dt (Gx.g l i) (Gx.gc l (i + 1)) (Gx.gc l (i + 2))) : tlB l = false := bool_no fun k => h (tlB_iff.1 k i hi)
theorem tmod_nat (a b : Nat) : ((a : Int)).tmod (b : Int) = ((a % b : Nat) : Int) := rfl
/-- What isHull looks at of the corners up to k. -/
def FanOK (l : Pl) (k : Nat) : Prop := ∀ i, i < k → Gx.lt2 (Gx.g l 0) (Gx.g l (i + 1)) ∧ (0 < i → 0 < Gx.dt (Gx.g l 0) (Gx.g l i) (Gx.g l (i + 1)))
theorem fan_step {l : Pl} {k : Nat} (h : FanOK l k) (h1 : Gx.lt2 (Gx.g l 0) (Gx.g l (k + 1))) (h2 : 0 < k → 0 < Gx.dt (Gx.g l 0) (Gx.g l k) (Gx.g l (k + 1))) : FanOK l (k + 1) := fun i hi => by
  rcases Nat.lt_or_ge i k with c | c
  · exact h i c
  · obtain rfl : i = k := by omega
    exact ⟨h1, h2⟩
theorem isHB_no {l : Pl} {k : Nat} (hk : k + 1 < l.length) (h : ¬ (Gx.lt2 (Gx.g l 0) (Gx.g l (k + 1)) ∧ (0 < k → 0 < Gx.dt (Gx.g l 0) (Gx.g l k) (Gx.g l (k + 1))))) : isHB l = false := by
  refine bool_no fun q => ?_
  have p := isHB_iff.1 q
  exact h ⟨p.first k hk, fun h0 => p.fan k h0 hk⟩
theorem isHB_end {l : Pl} (h0 : 0 < l.length) (h : FanOK l (l.length - 1)) : isHB l = if l.length < 3 then true else tlB l := by
  have f1 : ∀ i, i + 1 < l.length → Gx.lt2 (Gx.g l 0) (Gx.g l (i + 1)) := fun i hi => (h i (by omega)).1
  have f2 : ∀ i, 0 < i → i + 1 < l.length → 0 < Gx.dt (Gx.g l 0) (Gx.g l i) (Gx.g l (i + 1)) := fun i h1 hi => (h i (by omega)).2 h1
  have ne : l ≠ [] := by intro e; rw [e] at h0; simp at h0
  split
  · rename_i c
    exact isHB_iff.2 ⟨ne, f1, f2, fun h3 => absurd h3 (by omega)⟩
  · rename_i c
    by_cases ht : ∀ i, i < l.length → 0 < Gx.dt (Gx.g l i) (Gx.gc l (i + 1)) (Gx.gc l (i + 2))
    · rw [tlB_yes ht]
      exact isHB_iff.2 ⟨ne, f1, f2, fun _ => ht⟩
    · have e : tlB l = false := bool_no fun k => ht (tlB_iff.1 k)
      rw [e]
      exact bool_no fun q => ht ((isHB_iff.1 q).turn (by omega))
end Go.Proofs.YthifcalemhpmoaaGreat
namespace Go.Proofs.YthifcalemhpmoaaGreat
open Go.RowKit Go.Proofs.Gn
/-- The length of the piece k, and of the first k pieces. -/
def px (ps : Pl) (k : Nat) : Int := (ps.getD k (0, 0)).1
def py (ps : Pl) (k : Nat) : Int := (ps.getD k (0, 0)).2
def far (ps : Pl) (k : Nat) : Int := root (sqd (px ps k) (py ps k) (px ps (k + 1)) (py ps (k + 1)))
def lon (ps : Pl) : Nat → Int
  | 0 => 0
  | k + 1 => lon ps k + far ps k
theorem lon_succ (ps : Pl) (k : Nat) : lon ps (k + 1) = lon ps k + far ps k := rfl
/-- A list that is looked at: not too long, its points valid, not empty. -/
def wayB (ps : Pl) : Bool := decide (ps.length ≤ 256) && okL ps && decide (0 < ps.length)
def wayE (ps : Pl) : Int := if ps.length ≤ 256 then if okL ps then if 0 < ps.length then 0 else 5 else 2 else 6
def wayV (ps : Pl) : Int := if wayB ps then lon ps (ps.length - 1) else 0
theorem okL_get {ps : Pl} (h : okL ps = true) {k : Nat} (hk : k < ps.length) : okp (px ps k) (py ps k) = true := by
  unfold px py
  rw [List.getD_eq_getElem?_getD, List.getElem?_eq_getElem hk]
  have := List.all_eq_true.1 h ps[k] (List.getElem_mem hk)
  simpa using this
theorem pts_get {w : World} {b off : Nat} {ps : Pl} (hc : ∀ k (h : k < ps.length), w.cell? ⟨b, off + k * 2, none⟩ = some (.int .i64 ps[k].1) ∧ w.cell? ⟨b, off + k * 2 + 1, none⟩ = some (.int .i64 ps[k].2)) {k : Nat} (hk : k < ps.length) :
    w.cell? ⟨b, off + k * 2, none⟩ = some (.int .i64 (px ps k)) ∧ w.cell? ⟨b, off + k * 2 + 1, none⟩ = some (.int .i64 (py ps k)) := by
  unfold px py
  rw [List.getD_eq_getElem?_getD, List.getElem?_eq_getElem hk]
  exact hc k hk
theorem far_bd {ps : Pl} (h : okL ps = true) {k : Nat} (hk : k + 1 < ps.length) : 0 ≤ far ps k ∧ far ps k ≤ 67108864 := by
  have a := okL_get h (k := k) (by omega)
  have b := okL_get h hk
  have a1 := okc_yes (okp_yes a).1
  have a2 := okc_yes (okp_yes a).2
  have b1 := okc_yes (okp_yes b).1
  have b2 := okc_yes (okp_yes b).2
  refine ⟨root_nonneg _, root_le (sqd_nonneg _ _ _ _) (by omega) ?_⟩
  unfold sqd
  have m1 := mul_bd2 (u := px ps (k + 1) - px ps k) (v := px ps (k + 1) - px ps k) (by omega) (by omega) (by omega) (by omega)
  have m2 := mul_bd2 (u := py ps (k + 1) - py ps k) (v := py ps (k + 1) - py ps k) (by omega) (by omega) (by omega) (by omega)
  omega
theorem lon_bd {ps : Pl} (h : okL ps = true) : ∀ k : Nat, k < ps.length → 0 ≤ lon ps k ∧ lon ps k ≤ 67108864 * (k : Int) := by
  intro k
  induction k with
  | zero => intro _; simp [lon]
  | succ k ih =>
    intro hk
    have a := ih (by omega)
    have b := far_bd h hk
    rw [lon_succ]
    omega
theorem chkLL_one (A : Option Addr) (ps : Pl) (cap : Nat) : chkLL [⟨A, ps, cap⟩] = if ps.length ≤ 256 then if okL ps then 0 else 2 else 6 := by
  simp [chkLL, fewB, okLL]
/-! ### The document's own answers -/
def ptsE (ps : Pl) : Int := if ps.length ≤ 256 then if okL ps then 0 else 2 else 6
end Go.Proofs.YthifcalemhpmoaaGreat
