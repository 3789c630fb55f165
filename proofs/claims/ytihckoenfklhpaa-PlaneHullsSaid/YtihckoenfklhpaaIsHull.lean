/- What isHull returns. -/
import Derived.Test.YtihckoenfklhpaaDrop
import Derived.Test.YtihckoenfklhpaaCmp
import Derived.Test.YtihckoenfklhpaaLists
import Derived.Test.YtihckoenfklhpaaHullM
namespace Go.Proofs.Ytihckoenfklhpaa
open Go.RowKit Go.Proofs.Gn
open Classical in
/-- Does it turn to the left at each corner? -/
noncomputable def tlB (l : Pl) : Bool := decide (∀ i, i < l.length → 0 < Gx.dt (Gx.g l i) (Gx.gc l (i + 1)) (Gx.gc l (i + 2)))
open Classical in
noncomputable def isHB (l : Pl) : Bool := decide (Gx.IsH l)
open Classical in
theorem isHB_iff {l : Pl} : isHB l = true ↔ Gx.IsH l := by unfold isHB; exact decide_eq_true_iff
open Classical in
theorem tlB_iff {l : Pl} : tlB l = true ↔ ∀ i, i < l.length → 0 < Gx.dt (Gx.g l i) (Gx.gc l (i + 1)) (Gx.gc l (i + 2)) := by unfold tlB; exact decide_eq_true_iff
theorem bool_no {b : Bool} (h : ¬ b = true) : b = false := by cases b; rfl; exact absurd rfl h
theorem tlB_yes {l : Pl} (h : ∀ i, i < l.length → 0 < Gx.dt (Gx.g l i) (Gx.gc l (i + 1)) (Gx.gc l (i + 2))) : tlB l = true := tlB_iff.2 h
theorem tlB_no {l : Pl} {i : Nat} (hi : i < l.length) (h : ¬ 0 < Gx.dt (Gx.g l i) (Gx.gc l (i + 1)) (Gx.gc l (i + 2))) : tlB l = false := bool_no fun k => h (tlB_iff.1 k i hi)
theorem tmod_nat (a b : Nat) : ((a : Int)).tmod (b : Int) = ((a % b : Nat) : Int) := rfl
set_option maxHeartbeats 1000000 in
theorem p_turnsLeft (b off : Nat) (ps : Pl) (cap : Nat) (w : World) (hc : ∀ k (h : k < ps.length), w.cell? ⟨b, off + k * 2, none⟩ = some (.int .i64 ps[k].1) ∧ w.cell? ⟨b, off + k * 2 + 1, none⟩ = some (.int .i64 ps[k].2)) (h0 : 0 < ps.length) (hn : ps.length ≤ 70000) (hb : BdL ps) :
    Calls Try.prog 95 #[.slice (some ⟨b, off, none⟩) ps.length cap] w fun e w' => e = .returned (.bool (tlB ps)) ∧ Up w w' := by
  have HC := hide hc
  have HB := hide hb
  obtain ⟨n, hN⟩ : ∃ n, ps.length = n := ⟨_, rfl⟩
  rw [hN] at h0 hn ⊢
  have HN := hide hN
  obtain ⟨R, hR⟩ : ∃ R, tlB ps = R := ⟨_, rfl⟩
  rw [hR]
  have HR := hide hR
  clear hc hb hN hR
  go_enter Try.func95, Try.ntmps95
  go_wp2_with fail
  go_loopw [10] (fun i wr => ∃ k : Nat, k ≤ n ∧ i = .int .i64 k ∧ Up w wr ∧ ∀ i, i < k → 0 < Gx.dt (Gx.g ps i) (Gx.gc ps (i + 1)) (Gx.gc ps (i + 2))) (fun i _ => n - (intOf i).toNat)
  case atStart => exact ⟨0, by omega, rfl, up_refl _, fun i hi => by omega⟩
  case round =>
    obtain ⟨k, hk, rfl, hu, ho⟩ := hrel
    have HO := hide ho
    clear ho
    by_cases hlt : k < n
    · have hl : k < ps.length := by rw [unhide HN]; exact hlt
      have l1 : (k + 1) % n < ps.length := by rw [unhide HN]; exact Nat.mod_lt _ h0
      have l2 : (k + 2) % n < ps.length := by rw [unhide HN]; exact Nat.mod_lt _ h0
      obtain ⟨a0, a1⟩ := pts_g (unhide HC) hl
      obtain ⟨b0, b1⟩ := pts_g (unhide HC) l1
      obtain ⟨c0, c1⟩ := pts_g (unhide HC) l2
      have ba := bdL_get (unhide HB) hl
      have bb := bdL_get (unhide HB) l1
      have bc := bdL_get (unhide HB) l2
      have e1 : Gx.g ps ((k + 1) % n) = Gx.gc ps (k + 1) := by unfold Gx.gc; rw [unhide HN]
      have e2 : Gx.g ps ((k + 2) % n) = Gx.gc ps (k + 2) := by unfold Gx.gc; rw [unhide HN]
      rw [e1] at b0 b1 bb
      rw [e2] at c0 c1 bc
      have hyes : 0 < Gx.dt (Gx.g ps k) (Gx.gc ps (k + 1)) (Gx.gc ps (k + 2)) → ∀ i, i < k + 1 → 0 < Gx.dt (Gx.g ps i) (Gx.gc ps (i + 1)) (Gx.gc ps (i + 2)) := fun h i hi => by
        rcases Nat.lt_or_ge i k with c | c
        · exact unhide HO i c
        · obtain rfl : i = k := by omega
          exact h
      have hno : ¬ 0 < Gx.dt (Gx.g ps k) (Gx.gc ps (k + 1)) (Gx.gc ps (k + 2)) → R = false := fun h => by rw [← unhide HR]; exact tlB_no hl h
      obtain ⟨A, hA⟩ : ∃ A, Gx.g ps k = A := ⟨_, rfl⟩
      obtain ⟨B, hB⟩ : ∃ A, Gx.gc ps (k + 1) = A := ⟨_, rfl⟩
      obtain ⟨C, hC⟩ : ∃ A, Gx.gc ps (k + 2) = A := ⟨_, rfl⟩
      rw [hA] at a0 a1 ba hyes hno
      rw [hB] at b0 b1 bb hyes hno
      rw [hC] at c0 c1 bc hyes hno
      obtain ⟨p1, p2⟩ := A
      obtain ⟨q1, q2⟩ := B
      obtain ⟨r1, r2⟩ := C
      simp only at a0 a1 b0 b1 c0 c1 ba bb bc
      have PT : ∀ W : World, Calls Try.prog 73 #[pt p1 p2, pt q1 q2, pt r1 r2] W fun e w' => e = .returned (.int .i64 (cmpV (det p1 p2 q1 q2 r1 r2) 0)) ∧ Up W w' := fun W => p_turn p1 p2 q1 q2 r1 r2 W ba.1 ba.2 bb.1 bb.2 bc.1 bc.2
      have hd : decide (cmpV (det p1 p2 q1 q2 r1 r2) 0 ≤ 0) = decide (Gx.dt (p1, p2) (q1, q2) (r1, r2) ≤ 0) := cmp_le _
      obtain ⟨T, hT⟩ : ∃ T, cmpV (det p1 p2 q1 q2 r1 r2) 0 = T := ⟨_, rfl⟩
      rw [hT] at hd PT
      have HPT := hide PT
      have HY := hide hyes
      have HNO := hide hno
      have d0 := up_cell hu a0
      have d1 := up_cell hu a1
      have d2 := fun o => alloc_cell o (up_cell hu b0)
      have d3 := fun o => alloc_cell o (up_cell hu b1)
      have d4 := fun o => alloc_cell o (up_cell hu c0)
      have d5 := fun o => alloc_cell o (up_cell hu c1)
      obtain ⟨M1, hM1⟩ : ∃ M, (k + 1) % n = M := ⟨_, rfl⟩
      obtain ⟨M2, hM2⟩ : ∃ M, (k + 2) % n = M := ⟨_, rfl⟩
      have t1 : ((k : Int) + 1).tmod (n : Int) = (M1 : Int) := by rw [← hM1, show (k : Int) + 1 = ((k + 1 : Nat) : Int) by omega, tmod_nat]
      have t2 : ((k : Int) + 2).tmod (n : Int) = (M2 : Int) := by rw [← hM2, show (k : Int) + 2 = ((k + 2 : Nat) : Int) by omega, tmod_nat]
      rw [hM1] at d2 d3 l1
      rw [hM2] at d4 d5 l2
      rw [unhide HN] at l1 l2
      have k1 : IntKind.i64.wrap ((k : Int) + 1) = (k : Int) + 1 := IntWalk.i64_in _ ⟨by omega, by omega⟩
      have k2 : IntKind.i64.wrap ((k : Int) + 2) = (k : Int) + 2 := IntWalk.i64_in _ ⟨by omega, by omega⟩
      have k3 : (k : Int) < (n : Int) := by omega
      have k4 : (M1 : Int) < (n : Int) := by omega
      have k5 : (M2 : Int) < (n : Int) := by omega
      have k6 : ((n : Int) == 0) = false := by simp; omega
      have k7 : ¬ n = 0 := by omega
      have T1 := hide t1
      have T2 := hide t2
      clear PT hyes hno hA hB hC hT e1 e2 a0 a1 b0 b1 c0 c1 ba bb bc hM1 hM2
      by_cases hz : Gx.dt (p1, p2) (q1, q2) (r1, r2) ≤ 0
      · rw [decide_eq_true hz] at hd
        have hRf := unhide HNO (by omega)
        subst hRf
        clear hz
        go_wp2_with fail
        have t1 := unhide T1
        have t2 := unhide T2
        obtain ⟨W, hW⟩ : ∃ W : World, W = (wr.alloc (Obj.cells #[Value.int IntKind.i64 p1, Value.int IntKind.i64 p2] 24)) := ⟨_, rfl⟩
        rw [← hW]
        have f0 : W.cell? ⟨wr.heap.size, 0, none⟩ = some (.int .i64 p1) := by rw [hW]; go_cell
        have f1 : W.cell? ⟨wr.heap.size, 1, none⟩ = some (.int .i64 p2) := by rw [hW]; go_cell
        have f2 : W.cell? ⟨b, off + M1 * 2, none⟩ = some (.int .i64 q1) := by rw [hW]; exact d2 _
        have f3 : W.cell? ⟨b, off + M1 * 2 + 1, none⟩ = some (.int .i64 q2) := by rw [hW]; exact d3 _
        have f4 : W.cell? ⟨b, off + M2 * 2, none⟩ = some (.int .i64 r1) := by rw [hW]; exact d4 _
        have f5 : W.cell? ⟨b, off + M2 * 2 + 1, none⟩ = some (.int .i64 r2) := by rw [hW]; exact d5 _
        have f6 : Up w W := by rw [hW]; exact up_alloc hu _
        clear hW d2 d3 d4 d5
        go_region_held3 (fun wx => wx.cell? ⟨wr.heap.size, 0, none⟩ = some (.int .i64 p1) ∧ wx.cell? ⟨wr.heap.size, 1, none⟩ = some (.int .i64 p2) ∧ wx.cell? ⟨b, off + M1 * 2, none⟩ = some (.int .i64 q1) ∧ wx.cell? ⟨b, off + M1 * 2 + 1, none⟩ = some (.int .i64 q2) ∧ wx.cell? ⟨b, off + M2 * 2, none⟩ = some (.int .i64 r1) ∧ wx.cell? ⟨b, off + M2 * 2 + 1, none⟩ = some (.int .i64 r2) ∧ Up w wx)
          ((first | exact ⟨f0, f1, f2, f3, f4, f5, up_drew f6⟩ | (with_reducible assumption) | exact ⟨up_cell hb3 f0, up_cell hb3 f1, up_cell hb3 f2, up_cell hb3 f3, up_cell hb3 f4, up_cell hb3 f5, up_trans (up_drew f6) hb3⟩))
          (first | (go_at_call 73; (with_reducible refine (unhide HPT _).mono ?_); rintro e w3 ⟨rfl, hb3⟩))
        go_wp2_with fail
        go_ret
        exact ⟨rfl, (by repeat' (first | (with_reducible exact up_refl _) | (with_reducible assumption) | (with_reducible refine up_alloc ?_ _) | (with_reducible refine up_drewN ?_ _) | (with_reducible refine up_drew ?_) | (with_reducible refine up_set ?_ (by first | (simp; done) | (simp; omega) | omega) _) | (refine up_trans ?_ (by with_reducible assumption))))⟩
      · rw [decide_eq_false hz] at hd
        have hy := unhide HY (by omega)
        have HY2 := hide hy
        clear hz hy HNO HY
        go_wp2_with fail
        have t1 := unhide T1
        have t2 := unhide T2
        obtain ⟨W, hW⟩ : ∃ W : World, W = (wr.alloc (Obj.cells #[Value.int IntKind.i64 p1, Value.int IntKind.i64 p2] 24)) := ⟨_, rfl⟩
        rw [← hW]
        have f0 : W.cell? ⟨wr.heap.size, 0, none⟩ = some (.int .i64 p1) := by rw [hW]; go_cell
        have f1 : W.cell? ⟨wr.heap.size, 1, none⟩ = some (.int .i64 p2) := by rw [hW]; go_cell
        have f2 : W.cell? ⟨b, off + M1 * 2, none⟩ = some (.int .i64 q1) := by rw [hW]; exact d2 _
        have f3 : W.cell? ⟨b, off + M1 * 2 + 1, none⟩ = some (.int .i64 q2) := by rw [hW]; exact d3 _
        have f4 : W.cell? ⟨b, off + M2 * 2, none⟩ = some (.int .i64 r1) := by rw [hW]; exact d4 _
        have f5 : W.cell? ⟨b, off + M2 * 2 + 1, none⟩ = some (.int .i64 r2) := by rw [hW]; exact d5 _
        have f6 : Up w W := by rw [hW]; exact up_alloc hu _
        clear hW d2 d3 d4 d5
        go_region_held3 (fun wx => wx.cell? ⟨wr.heap.size, 0, none⟩ = some (.int .i64 p1) ∧ wx.cell? ⟨wr.heap.size, 1, none⟩ = some (.int .i64 p2) ∧ wx.cell? ⟨b, off + M1 * 2, none⟩ = some (.int .i64 q1) ∧ wx.cell? ⟨b, off + M1 * 2 + 1, none⟩ = some (.int .i64 q2) ∧ wx.cell? ⟨b, off + M2 * 2, none⟩ = some (.int .i64 r1) ∧ wx.cell? ⟨b, off + M2 * 2 + 1, none⟩ = some (.int .i64 r2) ∧ Up w wx)
          ((first | exact ⟨f0, f1, f2, f3, f4, f5, up_drew f6⟩ | (with_reducible assumption) | exact ⟨up_cell hb3 f0, up_cell hb3 f1, up_cell hb3 f2, up_cell hb3 f3, up_cell hb3 f4, up_cell hb3 f5, up_trans (up_drew f6) hb3⟩))
          (first | (go_at_call 73; (with_reducible refine (unhide HPT _).mono ?_); rintro e w3 ⟨rfl, hb3⟩))
        go_wp2_with fail
        go_roundw
        case rel => exact ⟨k + 1, by omega, by go_num, (by repeat' (first | (with_reducible exact up_refl _) | (with_reducible assumption) | (with_reducible refine up_alloc ?_ _) | (with_reducible refine up_drewN ?_ _) | (with_reducible refine up_drew ?_) | (with_reducible refine up_set ?_ (by first | (simp; done) | (simp; omega) | omega) _) | (refine up_trans ?_ (by with_reducible assumption)))), unhide HY2⟩
        case measure => simp [intOf]; omega
    · obtain rfl : k = n := by omega
      have hR : R = true := by
        rw [← unhide HR]
        exact tlB_yes fun i hi => unhide HO i (by rw [unhide HN] at hi; exact hi)
      subst hR
      go_wp2_with fail
      go_ret
      exact ⟨rfl, hu⟩
/-- What isHull looks at of the corners up to k. -/
def FanOK (l : Pl) (k : Nat) : Prop := ∀ i, i < k → Gx.lt2 (Gx.g l 0) (Gx.g l (i + 1)) ∧ (0 < i → 0 < Gx.dt (Gx.g l 0) (Gx.g l i) (Gx.g l (i + 1)))
theorem fan_step {l : Pl} {k : Nat} (h : FanOK l k) (h1 : Gx.lt2 (Gx.g l 0) (Gx.g l (k + 1))) (h2 : 0 < k → 0 < Gx.dt (Gx.g l 0) (Gx.g l k) (Gx.g l (k + 1))) : FanOK l (k + 1) := fun i hi => by
  rcases Nat.lt_or_ge i k with c | c
  · exact h i c
  · obtain rfl : i = k := by omega
    exact ⟨h1, h2⟩
theorem isHB_no {l : Pl} {k : Nat} (hk : k + 1 < l.length) (h : ¬ (Gx.lt2 (Gx.g l 0) (Gx.g l (k + 1)) ∧ (0 < k → 0 < Gx.dt (Gx.g l 0) (Gx.g l k) (Gx.g l (k + 1))))) : isHB l = false := by
  refine bool_no fun q => ?_
  have p := isHB_iff.1 q
  exact h ⟨p.first k hk, fun h0 => p.fan k h0 hk⟩
theorem isHB_end {l : Pl} (h0 : 0 < l.length) (h : FanOK l (l.length - 1)) : isHB l = if l.length < 3 then true else tlB l := by
  have f1 : ∀ i, i + 1 < l.length → Gx.lt2 (Gx.g l 0) (Gx.g l (i + 1)) := fun i hi => (h i (by omega)).1
  have f2 : ∀ i, 0 < i → i + 1 < l.length → 0 < Gx.dt (Gx.g l 0) (Gx.g l i) (Gx.g l (i + 1)) := fun i h1 hi => (h i (by omega)).2 h1
  have ne : l ≠ [] := by intro e; rw [e] at h0; simp at h0
  split
  · rename_i c
    exact isHB_iff.2 ⟨ne, f1, f2, fun h3 => absurd h3 (by omega)⟩
  · rename_i c
    by_cases ht : ∀ i, i < l.length → 0 < Gx.dt (Gx.g l i) (Gx.gc l (i + 1)) (Gx.gc l (i + 2))
    · rw [tlB_yes ht]
      exact isHB_iff.2 ⟨ne, f1, f2, fun _ => ht⟩
    · have e : tlB l = false := bool_no fun k => ht (tlB_iff.1 k)
      rw [e]
      exact bool_no fun q => ht ((isHB_iff.1 q).turn (by omega))
set_option linter.unusedSimpArgs false
set_option maxRecDepth 100000 in
set_option maxHeartbeats 2000000 in
theorem p_isHull (b off : Nat) (ps : Pl) (cap : Nat) (w : World) (hc : ∀ k (h : k < ps.length), w.cell? ⟨b, off + k * 2, none⟩ = some (.int .i64 ps[k].1) ∧ w.cell? ⟨b, off + k * 2 + 1, none⟩ = some (.int .i64 ps[k].2)) (h0 : 0 < ps.length) (hn : ps.length ≤ 70000) (hcap : ps.length ≤ cap) (hcap2 : cap ≤ 9223372036854775807) (hb : BdL ps) :
    Calls Try.prog 71 #[.slice (some ⟨b, off, none⟩) ps.length cap] w fun e w' => e = .returned (.bool (isHB ps)) ∧ Up w w' := by
  have PTL : ∀ W : World, Up w W → Calls Try.prog 95 #[.slice (some ⟨b, off, none⟩) ps.length cap] W fun e w' => e = .returned (.bool (tlB ps)) ∧ Up W w' := fun W hW =>
    p_turnsLeft b off ps cap W (fun k h => ⟨up_cell hW (hc k h).1, up_cell hW (hc k h).2⟩) h0 hn hb
  have HC := hide hc
  have HB := hide hb
  have hE := isHB_end h0
  obtain ⟨n, hN⟩ : ∃ n, ps.length = n := ⟨_, rfl⟩
  rw [hN] at h0 hn hcap hE PTL ⊢
  have HN := hide hN
  obtain ⟨R, hR⟩ : ∃ R, isHB ps = R := ⟨_, rfl⟩
  obtain ⟨T0, hT0⟩ : ∃ R, tlB ps = R := ⟨_, rfl⟩
  rw [hR]
  rw [hR, hT0] at hE
  rw [hT0] at PTL
  have HR := hide hR
  have HE := hide hE
  have HPTL := hide PTL
  obtain ⟨L, hL⟩ : ∃ L, n - 1 = L := ⟨_, rfl⟩
  obtain ⟨z0, z1⟩ := pts_g hc (k := 0) (by omega)
  have bz := bdL_get hb (k := 0) (by omega)
  clear hc hb hN hR hE PTL hT0
  have n1 : (1 : Int) ≤ (n : Int) := by omega
  have n2 : ¬ n = 0 := by omega
  have n3 : ((n : Int) == 0) = false := by simp; omega
  have n4 : 1 ≤ n := h0
  have n5 : n ≤ cap := hcap
  by_cases h1 : n = 1
  · subst h1
    have hR := unhide HE (fun i hi => by omega)
    rw [if_pos (by omega)] at hR
    subst hR
    clear HE HPTL HR
    go_enter Try.func71, Try.ntmps71
    go_wp2_with fail
    all_goals
      go_rounds 1
      go_ret
      exact ⟨rfl, (by repeat' (first | (with_reducible exact up_refl _) | (with_reducible assumption) | (with_reducible refine up_alloc ?_ _) | (with_reducible refine up_drewN ?_ _) | (with_reducible refine up_drew ?_) | (with_reducible refine up_set ?_ (by first | (simp; done) | (simp; omega) | omega) _) | (refine up_trans ?_ (by with_reducible assumption))))⟩
  have n6 : ¬ cap = 1 := by omega
  simp only [Nat.zero_mul, Nat.add_zero] at z0 z1
  obtain ⟨P0, hP0⟩ : ∃ P, Gx.g ps 0 = P := ⟨_, rfl⟩
  obtain ⟨p1, p2⟩ := P0
  rw [hP0] at z0 z1 bz
  simp only at z0 z1 bz
  have HP0 := hide hP0
  clear hP0
  go_enter Try.func71, Try.ntmps71
  go_wp2_with fail
  have hL2 : L + 1 = n := by omega
  have HL := hide hL
  clear hL
  go_loopw [11] (fun i wr => ∃ k : Nat, k ≤ L ∧ i = .int .i64 k ∧ Up w wr ∧ FanOK ps k) (fun i _ => L - (intOf i).toNat)
  case atStart => exact ⟨0, by omega, rfl, up_refl _, fun i hi => by omega⟩
  case round =>
    obtain ⟨k, hk, rfl, hu, ho⟩ := hrel
    have HO := hide ho
    clear ho
    by_cases hlt : k < L
    · have hl : k + 1 < ps.length := by rw [unhide HN]; omega
      obtain ⟨a0, a1⟩ := pts_g (unhide HC) hl
      obtain ⟨b0, b1⟩ := pts_g (unhide HC) (k := k) (by omega)
      have ba := bdL_get (unhide HB) hl
      have bb := bdL_get (unhide HB) (k := k) (by omega)
      have hno := isHB_no (l := ps) hl
      have hyes := fan_step (l := ps) (k := k) (unhide HO)
      rw [unhide HR, unhide HP0] at hno
      rw [unhide HP0] at hyes
      obtain ⟨A, hA⟩ : ∃ A, Gx.g ps (k + 1) = A := ⟨_, rfl⟩
      obtain ⟨B, hB⟩ : ∃ A, Gx.g ps k = A := ⟨_, rfl⟩
      rw [hA] at a0 a1 ba hyes hno
      rw [hB] at b0 b1 bb hyes hno
      obtain ⟨r1, r2⟩ := A
      obtain ⟨q1, q2⟩ := B
      simp only [Nat.add_mul, Nat.one_mul] at a0 a1 b0 b1 ba bb
      have PC : ∀ W : World, Calls Try.prog 65 #[pt p1 p2, pt r1 r2] W fun e w' => e = .returned (.int .i64 (cmp2 p1 p2 r1 r2)) ∧ Up W w' := fun W => p_compare p1 p2 r1 r2 W
      have PT : ∀ W : World, Calls Try.prog 73 #[pt p1 p2, pt q1 q2, pt r1 r2] W fun e w' => e = .returned (.int .i64 (cmpV (det p1 p2 q1 q2 r1 r2) 0)) ∧ Up W w' := fun W => p_turn p1 p2 q1 q2 r1 r2 W bz.1 bz.2 bb.1 bb.2 ba.1 ba.2
      have hd : decide (cmpV (det p1 p2 q1 q2 r1 r2) 0 ≤ 0) = decide (Gx.dt (p1, p2) (q1, q2) (r1, r2) ≤ 0) := cmp_le _
      have hcn := cmp2_neg (p1, p2) (r1, r2)
      simp only at hcn
      obtain ⟨T, hT⟩ : ∃ T, cmpV (det p1 p2 q1 q2 r1 r2) 0 = T := ⟨_, rfl⟩
      obtain ⟨C, hC⟩ : ∃ C, cmp2 p1 p2 r1 r2 = C := ⟨_, rfl⟩
      rw [hT] at hd PT
      rw [hC] at hcn PC
      have HPT := hide PT
      have HPC := hide PC
      have HY := hide hyes
      have HNO := hide hno
      have d0 := up_cell hu a0
      have d1 := up_cell hu a1
      have d2 := fun o => alloc_cell o (up_cell hu b0)
      have d3 := fun o => alloc_cell o (up_cell hu b1)
      have d4 := fun o => alloc_cell o (up_cell hu z0)
      have d5 := fun o => alloc_cell o (up_cell hu z1)
      have k1 : (k : Int) < (L : Int) := by omega
      have k2 : (k : Int) < (n : Int) := by omega
      have k3 : k < n := by omega
      rw [show off + (k * 2 + 2) = off + 2 + k * 2 by omega] at d0 d1
      clear PT PC hyes hno hA hB hC hT a0 a1 b0 b1 ba bb
      by_cases c1 : C < 0
      · have g1 : decide ((0 : Int) ≤ C) = false := by simp; omega
        have hlt2 := hcn.1 c1
        by_cases c2 : 0 < k
        · have g2 : decide (0 < k) = true := decide_eq_true c2
          by_cases hz : Gx.dt (p1, p2) (q1, q2) (r1, r2) ≤ 0
          · rw [decide_eq_true hz] at hd
            have hRf := unhide HNO (fun h => by have := h.2 c2; omega)
            subst hRf
            clear hcn c1 HNO HY hlt2 hz c2
            go_wp2_with fail
            obtain ⟨W, hW⟩ : ∃ W : World, W = (wr.alloc (Obj.cells #[Value.int IntKind.i64 r1, Value.int IntKind.i64 r2] 24)) := ⟨_, rfl⟩
            rw [← hW]
            have f0 : W.cell? ⟨wr.heap.size, 0, none⟩ = some (.int .i64 r1) := by rw [hW]; go_cell
            have f1 : W.cell? ⟨wr.heap.size, 1, none⟩ = some (.int .i64 r2) := by rw [hW]; go_cell
            have f2 : W.cell? ⟨b, off, none⟩ = some (.int .i64 p1) := by rw [hW]; exact d4 _
            have f3 : W.cell? ⟨b, off + 1, none⟩ = some (.int .i64 p2) := by rw [hW]; exact d5 _
            have f4 : W.cell? ⟨b, off + k * 2, none⟩ = some (.int .i64 q1) := by rw [hW]; exact d2 _
            have f5 : W.cell? ⟨b, off + k * 2 + 1, none⟩ = some (.int .i64 q2) := by rw [hW]; exact d3 _
            have f6 : Up w W := by rw [hW]; exact up_alloc hu _
            have keep := st_and (st_cell ⟨wr.heap.size, 0, none⟩ (.int .i64 r1)) (st_and (st_cell ⟨wr.heap.size, 1, none⟩ (.int .i64 r2)) (st_and (st_cell ⟨b, off, none⟩ (.int .i64 p1)) (st_and (st_cell ⟨b, off + 1, none⟩ (.int .i64 p2)) (st_and (st_cell ⟨b, off + k * 2, none⟩ (.int .i64 q1)) (st_and (st_cell ⟨b, off + k * 2 + 1, none⟩ (.int .i64 q2)) (st_up w))))))
            have hkeep := hide keep
            clear hW d2 d3 d4 d5 keep
            go_region_held3 (fun wx => wx.cell? ⟨wr.heap.size, 0, none⟩ = some (.int .i64 r1) ∧ wx.cell? ⟨wr.heap.size, 1, none⟩ = some (.int .i64 r2) ∧ wx.cell? ⟨b, off, none⟩ = some (.int .i64 p1) ∧ wx.cell? ⟨b, off + 1, none⟩ = some (.int .i64 p2) ∧ wx.cell? ⟨b, off + k * 2, none⟩ = some (.int .i64 q1) ∧ wx.cell? ⟨b, off + k * 2 + 1, none⟩ = some (.int .i64 q2) ∧ Up w wx)
              ((first | exact ⟨f0, f1, f2, f3, f4, f5, up_drew f6⟩ | (with_reducible assumption) | exact unhide hkeep _ _ hb3 (by assumption) | exact unhide hkeep _ _ hb4 (by assumption)))
              (first | (go_at_call 65; (with_reducible refine (unhide HPC _).mono ?_); rintro e w3 ⟨rfl, hb3⟩) | (go_at_call 73; (with_reducible refine (unhide HPT _).mono ?_); rintro e w4 ⟨rfl, hb4⟩))
            go_wp2_with fail
            go_ret
            exact ⟨rfl, (by repeat' (first | (with_reducible exact up_refl _) | (with_reducible assumption) | (with_reducible refine up_alloc ?_ _) | (with_reducible refine up_drewN ?_ _) | (with_reducible refine up_drew ?_) | (with_reducible refine up_set ?_ (by first | (simp; done) | (simp; omega) | omega) _) | (refine up_trans ?_ (by with_reducible assumption))))⟩
          · rw [decide_eq_false hz] at hd
            have hy := unhide HY hlt2 (fun _ => by omega)
            have HY2 := hide hy
            clear hcn c1 HNO HY hlt2 hz c2 hy
            go_wp2_with fail
            obtain ⟨W, hW⟩ : ∃ W : World, W = (wr.alloc (Obj.cells #[Value.int IntKind.i64 r1, Value.int IntKind.i64 r2] 24)) := ⟨_, rfl⟩
            rw [← hW]
            have f0 : W.cell? ⟨wr.heap.size, 0, none⟩ = some (.int .i64 r1) := by rw [hW]; go_cell
            have f1 : W.cell? ⟨wr.heap.size, 1, none⟩ = some (.int .i64 r2) := by rw [hW]; go_cell
            have f2 : W.cell? ⟨b, off, none⟩ = some (.int .i64 p1) := by rw [hW]; exact d4 _
            have f3 : W.cell? ⟨b, off + 1, none⟩ = some (.int .i64 p2) := by rw [hW]; exact d5 _
            have f4 : W.cell? ⟨b, off + k * 2, none⟩ = some (.int .i64 q1) := by rw [hW]; exact d2 _
            have f5 : W.cell? ⟨b, off + k * 2 + 1, none⟩ = some (.int .i64 q2) := by rw [hW]; exact d3 _
            have f6 : Up w W := by rw [hW]; exact up_alloc hu _
            have keep := st_and (st_cell ⟨wr.heap.size, 0, none⟩ (.int .i64 r1)) (st_and (st_cell ⟨wr.heap.size, 1, none⟩ (.int .i64 r2)) (st_and (st_cell ⟨b, off, none⟩ (.int .i64 p1)) (st_and (st_cell ⟨b, off + 1, none⟩ (.int .i64 p2)) (st_and (st_cell ⟨b, off + k * 2, none⟩ (.int .i64 q1)) (st_and (st_cell ⟨b, off + k * 2 + 1, none⟩ (.int .i64 q2)) (st_up w))))))
            have hkeep := hide keep
            clear hW d2 d3 d4 d5 keep
            go_region_held3 (fun wx => wx.cell? ⟨wr.heap.size, 0, none⟩ = some (.int .i64 r1) ∧ wx.cell? ⟨wr.heap.size, 1, none⟩ = some (.int .i64 r2) ∧ wx.cell? ⟨b, off, none⟩ = some (.int .i64 p1) ∧ wx.cell? ⟨b, off + 1, none⟩ = some (.int .i64 p2) ∧ wx.cell? ⟨b, off + k * 2, none⟩ = some (.int .i64 q1) ∧ wx.cell? ⟨b, off + k * 2 + 1, none⟩ = some (.int .i64 q2) ∧ Up w wx)
              ((first | exact ⟨f0, f1, f2, f3, f4, f5, up_drew f6⟩ | (with_reducible assumption) | exact unhide hkeep _ _ hb3 (by assumption) | exact unhide hkeep _ _ hb4 (by assumption)))
              (first | (go_at_call 65; (with_reducible refine (unhide HPC _).mono ?_); rintro e w3 ⟨rfl, hb3⟩) | (go_at_call 73; (with_reducible refine (unhide HPT _).mono ?_); rintro e w4 ⟨rfl, hb4⟩))
            go_wp2_with fail
            go_roundw
            case rel => exact ⟨k + 1, by omega, by go_num, (by repeat' (first | (with_reducible exact up_refl _) | (with_reducible assumption) | (with_reducible refine up_alloc ?_ _) | (with_reducible refine up_drewN ?_ _) | (with_reducible refine up_drew ?_) | (with_reducible refine up_set ?_ (by first | (simp; done) | (simp; omega) | omega) _) | (refine up_trans ?_ (by with_reducible assumption)))), unhide HY2⟩
            case measure => simp [intOf]; omega
        · have g2 : decide (0 < k) = false := decide_eq_false c2
          have hy := unhide HY hlt2 (fun h => absurd h c2)
          have HY2 := hide hy
          clear hcn c1 HNO HY hd hlt2 hy c2
          go_wp2_with fail
          obtain ⟨W, hW⟩ : ∃ W : World, W = (wr.alloc (Obj.cells #[Value.int IntKind.i64 r1, Value.int IntKind.i64 r2] 24)) := ⟨_, rfl⟩
          rw [← hW]
          have f0 : W.cell? ⟨wr.heap.size, 0, none⟩ = some (.int .i64 r1) := by rw [hW]; go_cell
          have f1 : W.cell? ⟨wr.heap.size, 1, none⟩ = some (.int .i64 r2) := by rw [hW]; go_cell
          have f2 : W.cell? ⟨b, off, none⟩ = some (.int .i64 p1) := by rw [hW]; exact d4 _
          have f3 : W.cell? ⟨b, off + 1, none⟩ = some (.int .i64 p2) := by rw [hW]; exact d5 _
          have f4 : W.cell? ⟨b, off + k * 2, none⟩ = some (.int .i64 q1) := by rw [hW]; exact d2 _
          have f5 : W.cell? ⟨b, off + k * 2 + 1, none⟩ = some (.int .i64 q2) := by rw [hW]; exact d3 _
          have f6 : Up w W := by rw [hW]; exact up_alloc hu _
          have keep := st_and (st_cell ⟨wr.heap.size, 0, none⟩ (.int .i64 r1)) (st_and (st_cell ⟨wr.heap.size, 1, none⟩ (.int .i64 r2)) (st_and (st_cell ⟨b, off, none⟩ (.int .i64 p1)) (st_and (st_cell ⟨b, off + 1, none⟩ (.int .i64 p2)) (st_and (st_cell ⟨b, off + k * 2, none⟩ (.int .i64 q1)) (st_and (st_cell ⟨b, off + k * 2 + 1, none⟩ (.int .i64 q2)) (st_up w))))))
          have hkeep := hide keep
          clear hW d2 d3 d4 d5 keep
          refine wp_region_noPanic ?_; refine wp_region_held_drew (S := (fun wx => wx.cell? ⟨wr.heap.size, 0, none⟩ = some (.int .i64 r1) ∧ wx.cell? ⟨wr.heap.size, 1, none⟩ = some (.int .i64 r2) ∧ wx.cell? ⟨b, off, none⟩ = some (.int .i64 p1) ∧ wx.cell? ⟨b, off + 1, none⟩ = some (.int .i64 p2) ∧ wx.cell? ⟨b, off + k * 2, none⟩ = some (.int .i64 q1) ∧ wx.cell? ⟨b, off + k * 2 + 1, none⟩ = some (.int .i64 q2) ∧ Up w wx)) (by kernel_rfl) ?_ (fun hHeld => ?_); (· ((try dsimp only); exact ⟨f0, f1, f2, f3, f4, f5, up_drew f6⟩))
          (first | (refine wpAnyH_take (i := 0) (oi := _) (v := ?_) rfl (by kernel_rfl) (by kernel_rfl) (by kernel_rfl) (fun _ _ _ h => h) (Or.inl ⟨?_, ?_⟩) (by assumption) ?_; rotate_left; (· rfl); (· ((intro w hSw; (try dsimp only at hSw); go_simp) <;> (with_reducible rfl))); (try simp only [List.getElem_toArray, List.getElem_cons_zero, List.getElem_cons_succ, Act.put, List.setIfInBounds_toArray, List.set_cons_zero, List.set_cons_succ])) | (refine wpAnyH_take (i := 0) (oi := _) (v := ?_) rfl (by kernel_rfl) (by kernel_rfl) (by kernel_rfl) (fun _ _ _ h => h) (Or.inl ⟨?_, ?_⟩) (by assumption) ?_; rotate_left; (· rfl); (· (intro w hSw; (try dsimp only at hSw); go_simp; done)); (try simp only [List.getElem_toArray, List.getElem_cons_zero, List.getElem_cons_succ, Act.put, List.setIfInBounds_toArray, List.set_cons_zero, List.set_cons_succ]))); (first | (refine wpAnyH_take (i := 1) (oi := _) (v := ?_) rfl (by kernel_rfl) (by kernel_rfl) (by kernel_rfl) (fun _ _ _ h => h) (Or.inl ⟨?_, ?_⟩) (by assumption) ?_; rotate_left; (· rfl); (· ((intro w hSw; (try dsimp only at hSw); go_simp) <;> (with_reducible rfl))); (try simp only [List.getElem_toArray, List.getElem_cons_zero, List.getElem_cons_succ, Act.put, List.setIfInBounds_toArray, List.set_cons_zero, List.set_cons_succ])) | (refine wpAnyH_take (i := 1) (oi := _) (v := ?_) rfl (by kernel_rfl) (by kernel_rfl) (by kernel_rfl) (fun _ _ _ h => h) (Or.inl ⟨?_, ?_⟩) (by assumption) ?_; rotate_left; (· rfl); (· (intro w hSw; (try dsimp only at hSw); go_simp; done)); (try simp only [List.getElem_toArray, List.getElem_cons_zero, List.getElem_cons_succ, Act.put, List.setIfInBounds_toArray, List.set_cons_zero, List.set_cons_succ]))); (first | (refine wpAnyH_take (i := 2) (oi := _) (v := ?_) rfl (by kernel_rfl) (by kernel_rfl) (by kernel_rfl) (fun _ _ _ h => h) (Or.inl ⟨?_, ?_⟩) (by assumption) ?_; rotate_left; (· rfl); (· ((intro w hSw; (try dsimp only at hSw); go_simp) <;> (with_reducible rfl))); (try simp only [List.getElem_toArray, List.getElem_cons_zero, List.getElem_cons_succ, Act.put, List.setIfInBounds_toArray, List.set_cons_zero, List.set_cons_succ])) | (refine wpAnyH_take (i := 2) (oi := _) (v := ?_) rfl (by kernel_rfl) (by kernel_rfl) (by kernel_rfl) (fun _ _ _ h => h) (Or.inl ⟨?_, ?_⟩) (by assumption) ?_; rotate_left; (· rfl); (· (intro w hSw; (try dsimp only at hSw); go_simp; done)); (try simp only [List.getElem_toArray, List.getElem_cons_zero, List.getElem_cons_succ, Act.put, List.setIfInBounds_toArray, List.set_cons_zero, List.set_cons_succ]))); (first | (refine wpAnyH_take (i := 3) (oi := _) (v := ?_) rfl (by kernel_rfl) (by kernel_rfl) (by kernel_rfl) (fun _ _ _ h => h) (Or.inl ⟨?_, ?_⟩) (by assumption) ?_; rotate_left; (· rfl); (· ((intro w hSw; (try dsimp only at hSw); go_simp) <;> (with_reducible rfl))); (try simp only [List.getElem_toArray, List.getElem_cons_zero, List.getElem_cons_succ, Act.put, List.setIfInBounds_toArray, List.set_cons_zero, List.set_cons_succ])) | (refine wpAnyH_take (i := 3) (oi := _) (v := ?_) rfl (by kernel_rfl) (by kernel_rfl) (by kernel_rfl) (fun _ _ _ h => h) (Or.inl ⟨?_, ?_⟩) (by assumption) ?_; rotate_left; (· rfl); (· (intro w hSw; (try dsimp only at hSw); go_simp; done)); (try simp only [List.getElem_toArray, List.getElem_cons_zero, List.getElem_cons_succ, Act.put, List.setIfInBounds_toArray, List.set_cons_zero, List.set_cons_succ])))
          refine wpAnyH_ready (rs := [4]) (by kernel_rfl) (by simp) ?_; refine AllReadyH.cons (o := _) rfl (fun K hK => ?_) AllReadyH.nil; go_simp; (go_at_call 65; (with_reducible refine (unhide HPC _).mono ?_); rintro e w3 ⟨rfl, hb3⟩); go_wp2_with fail; refine hK.out _ _ ?_ (fun hHeld => ?_); (· ((try dsimp only); exact unhide hkeep _ _ hb3 (by assumption))); clear hK K; (try simp only [List.getElem_toArray, List.getElem_cons_zero, List.getElem_cons_succ, Act.put, List.setIfInBounds_toArray, List.set_cons_zero, List.set_cons_succ])
          (first | (refine wpAnyH_take (i := 5) (oi := _) (v := ?_) rfl (by kernel_rfl) (by kernel_rfl) (by kernel_rfl) (fun _ _ _ h => h) (Or.inl ⟨?_, ?_⟩) (by assumption) ?_; rotate_left; (· rfl); (· ((intro w hSw; (try dsimp only at hSw); go_simp) <;> (with_reducible rfl))); (try simp only [List.getElem_toArray, List.getElem_cons_zero, List.getElem_cons_succ, Act.put, List.setIfInBounds_toArray, List.set_cons_zero, List.set_cons_succ])) | (refine wpAnyH_take (i := 5) (oi := _) (v := ?_) rfl (by kernel_rfl) (by kernel_rfl) (by kernel_rfl) (fun _ _ _ h => h) (Or.inl ⟨?_, ?_⟩) (by assumption) ?_; rotate_left; (· rfl); (· (intro w hSw; (try dsimp only at hSw); go_simp; done)); (try simp only [List.getElem_toArray, List.getElem_cons_zero, List.getElem_cons_succ, Act.put, List.setIfInBounds_toArray, List.set_cons_zero, List.set_cons_succ]))); (first | (refine wpAnyH_take (i := 6) (oi := _) (v := ?_) rfl (by kernel_rfl) (by kernel_rfl) (by kernel_rfl) (fun _ _ _ h => h) (Or.inl ⟨?_, ?_⟩) (by assumption) ?_; rotate_left; (· rfl); (· ((intro w hSw; (try dsimp only at hSw); go_simp) <;> (with_reducible rfl))); (try simp only [List.getElem_toArray, List.getElem_cons_zero, List.getElem_cons_succ, Act.put, List.setIfInBounds_toArray, List.set_cons_zero, List.set_cons_succ])) | (refine wpAnyH_take (i := 6) (oi := _) (v := ?_) rfl (by kernel_rfl) (by kernel_rfl) (by kernel_rfl) (fun _ _ _ h => h) (Or.inl ⟨?_, ?_⟩) (by assumption) ?_; rotate_left; (· rfl); (· (intro w hSw; (try dsimp only at hSw); go_simp; done)); (try simp only [List.getElem_toArray, List.getElem_cons_zero, List.getElem_cons_succ, Act.put, List.setIfInBounds_toArray, List.set_cons_zero, List.set_cons_succ]))); (first | (refine wpAnyH_take (i := 7) (oi := _) (v := ?_) rfl (by kernel_rfl) (by kernel_rfl) (by kernel_rfl) (fun _ _ _ h => h) (Or.inl ⟨?_, ?_⟩) (by assumption) ?_; rotate_left; (· rfl); (· ((intro w hSw; (try dsimp only at hSw); go_simp) <;> (with_reducible rfl))); (try simp only [List.getElem_toArray, List.getElem_cons_zero, List.getElem_cons_succ, Act.put, List.setIfInBounds_toArray, List.set_cons_zero, List.set_cons_succ])) | (refine wpAnyH_take (i := 7) (oi := _) (v := ?_) rfl (by kernel_rfl) (by kernel_rfl) (by kernel_rfl) (fun _ _ _ h => h) (Or.inl ⟨?_, ?_⟩) (by assumption) ?_; rotate_left; (· rfl); (· (intro w hSw; (try dsimp only at hSw); go_simp; done)); (try simp only [List.getElem_toArray, List.getElem_cons_zero, List.getElem_cons_succ, Act.put, List.setIfInBounds_toArray, List.set_cons_zero, List.set_cons_succ]))); (first | (refine wpAnyH_take (i := 8) (oi := _) (v := ?_) rfl (by kernel_rfl) (by kernel_rfl) (by kernel_rfl) (fun _ _ _ h => h) (Or.inl ⟨?_, ?_⟩) (by assumption) ?_; rotate_left; (· rfl); (· ((intro w hSw; (try dsimp only at hSw); go_simp) <;> (with_reducible rfl))); (try simp only [List.getElem_toArray, List.getElem_cons_zero, List.getElem_cons_succ, Act.put, List.setIfInBounds_toArray, List.set_cons_zero, List.set_cons_succ])) | (refine wpAnyH_take (i := 8) (oi := _) (v := ?_) rfl (by kernel_rfl) (by kernel_rfl) (by kernel_rfl) (fun _ _ _ h => h) (Or.inl ⟨?_, ?_⟩) (by assumption) ?_; rotate_left; (· rfl); (· (intro w hSw; (try dsimp only at hSw); go_simp; done)); (try simp only [List.getElem_toArray, List.getElem_cons_zero, List.getElem_cons_succ, Act.put, List.setIfInBounds_toArray, List.set_cons_zero, List.set_cons_succ]))); (first | (refine wpAnyH_take (i := 9) (oi := _) (v := ?_) rfl (by kernel_rfl) (by kernel_rfl) (by kernel_rfl) (fun _ _ _ h => h) (Or.inl ⟨?_, ?_⟩) (by assumption) ?_; rotate_left; (· rfl); (· ((intro w hSw; (try dsimp only at hSw); go_simp) <;> (with_reducible rfl))); (try simp only [List.getElem_toArray, List.getElem_cons_zero, List.getElem_cons_succ, Act.put, List.setIfInBounds_toArray, List.set_cons_zero, List.set_cons_succ])) | (refine wpAnyH_take (i := 9) (oi := _) (v := ?_) rfl (by kernel_rfl) (by kernel_rfl) (by kernel_rfl) (fun _ _ _ h => h) (Or.inl ⟨?_, ?_⟩) (by assumption) ?_; rotate_left; (· rfl); (· (intro w hSw; (try dsimp only at hSw); go_simp; done)); (try simp only [List.getElem_toArray, List.getElem_cons_zero, List.getElem_cons_succ, Act.put, List.setIfInBounds_toArray, List.set_cons_zero, List.set_cons_succ])))
          refine wpAnyH_take (i := 10) (oi := _) (v := undef) rfl (by kernel_rfl) (by kernel_rfl) (by kernel_rfl) (fun _ _ _ h => h) (Or.inr ⟨?_, rfl⟩) (by assumption) ?_; (· (first | (go_simp; done) | rfl)); (try simp only [List.getElem_toArray, List.getElem_cons_zero, List.getElem_cons_succ, Act.put, List.setIfInBounds_toArray, List.set_cons_zero, List.set_cons_succ]); refine wpAnyH_take (i := 11) (oi := _) (v := undef) rfl (by kernel_rfl) (by kernel_rfl) (by kernel_rfl) (fun _ _ _ h => h) (Or.inr ⟨?_, rfl⟩) (by assumption) ?_; (· (first | (go_simp; done) | rfl)); (try simp only [List.getElem_toArray, List.getElem_cons_zero, List.getElem_cons_succ, Act.put, List.setIfInBounds_toArray, List.set_cons_zero, List.set_cons_succ]); refine wpAnyH_take (i := 12) (oi := _) (v := undef) rfl (by kernel_rfl) (by kernel_rfl) (by kernel_rfl) (fun _ _ _ h => h) (Or.inr ⟨?_, rfl⟩) (by assumption) ?_; (· (first | (go_simp; done) | rfl)); (try simp only [List.getElem_toArray, List.getElem_cons_zero, List.getElem_cons_succ, Act.put, List.setIfInBounds_toArray, List.set_cons_zero, List.set_cons_succ]); refine wpAnyH_take (i := 13) (oi := _) (v := undef) rfl (by kernel_rfl) (by kernel_rfl) (by kernel_rfl) (fun _ _ _ h => h) (Or.inr ⟨?_, rfl⟩) (by assumption) ?_; (· (first | (go_simp; done) | rfl)); (try simp only [List.getElem_toArray, List.getElem_cons_zero, List.getElem_cons_succ, Act.put, List.setIfInBounds_toArray, List.set_cons_zero, List.set_cons_succ]); refine wpAnyH_take (i := 14) (oi := _) (v := undef) rfl (by kernel_rfl) (by kernel_rfl) (by kernel_rfl) (fun _ _ _ h => h) (Or.inr ⟨?_, rfl⟩) (by assumption) ?_; (· (first | (go_simp; done) | rfl)); (try simp only [List.getElem_toArray, List.getElem_cons_zero, List.getElem_cons_succ, Act.put, List.setIfInBounds_toArray, List.set_cons_zero, List.set_cons_succ]); refine wpAnyH_take (i := 15) (oi := _) (v := undef) rfl (by kernel_rfl) (by kernel_rfl) (by kernel_rfl) (fun _ _ _ h => h) (Or.inr ⟨?_, rfl⟩) (by assumption) ?_; (· (first | (go_simp; done) | rfl)); (try simp only [List.getElem_toArray, List.getElem_cons_zero, List.getElem_cons_succ, Act.put, List.setIfInBounds_toArray, List.set_cons_zero, List.set_cons_succ]); refine wpAnyH_take (i := 16) (oi := _) (v := undef) rfl (by kernel_rfl) (by kernel_rfl) (by kernel_rfl) (fun _ _ _ h => h) (Or.inr ⟨?_, rfl⟩) (by assumption) ?_; (· (first | (go_simp; done) | rfl)); (try simp only [List.getElem_toArray, List.getElem_cons_zero, List.getElem_cons_succ, Act.put, List.setIfInBounds_toArray, List.set_cons_zero, List.set_cons_succ]); refine wpAnyH_take (i := 17) (oi := _) (v := undef) rfl (by kernel_rfl) (by kernel_rfl) (by kernel_rfl) (fun _ _ _ h => h) (Or.inr ⟨?_, rfl⟩) (by assumption) ?_; (· (first | (go_simp; done) | rfl)); (try simp only [List.getElem_toArray, List.getElem_cons_zero, List.getElem_cons_succ, Act.put, List.setIfInBounds_toArray, List.set_cons_zero, List.set_cons_succ]); refine wpAnyH_take (i := 18) (oi := _) (v := undef) rfl (by kernel_rfl) (by kernel_rfl) (by kernel_rfl) (fun _ _ _ h => h) (Or.inr ⟨?_, rfl⟩) (by assumption) ?_; (· (first | (go_simp; done) | rfl)); (try simp only [List.getElem_toArray, List.getElem_cons_zero, List.getElem_cons_succ, Act.put, List.setIfInBounds_toArray, List.set_cons_zero, List.set_cons_succ]); refine wpAnyH_take (i := 19) (oi := _) (v := undef) rfl (by kernel_rfl) (by kernel_rfl) (by kernel_rfl) (fun _ _ _ h => h) (Or.inr ⟨?_, rfl⟩) (by assumption) ?_; (· (first | (go_simp; done) | rfl)); (try simp only [List.getElem_toArray, List.getElem_cons_zero, List.getElem_cons_succ, Act.put, List.setIfInBounds_toArray, List.set_cons_zero, List.set_cons_succ])
          (first | (refine wpAnyH_take (i := 20) (oi := _) (v := ?_) rfl (by kernel_rfl) (by kernel_rfl) (by kernel_rfl) (fun _ _ _ h => h) (Or.inl ⟨?_, ?_⟩) (by assumption) ?_; rotate_left; (· rfl); (· ((intro w hSw; (try dsimp only at hSw); go_simp) <;> (with_reducible rfl))); (try simp only [List.getElem_toArray, List.getElem_cons_zero, List.getElem_cons_succ, Act.put, List.setIfInBounds_toArray, List.set_cons_zero, List.set_cons_succ])) | (refine wpAnyH_take (i := 20) (oi := _) (v := ?_) rfl (by kernel_rfl) (by kernel_rfl) (by kernel_rfl) (fun _ _ _ h => h) (Or.inl ⟨?_, ?_⟩) (by assumption) ?_; rotate_left; (· rfl); (· (intro w hSw; (try dsimp only at hSw); go_simp; done)); (try simp only [List.getElem_toArray, List.getElem_cons_zero, List.getElem_cons_succ, Act.put, List.setIfInBounds_toArray, List.set_cons_zero, List.set_cons_succ]))); (first | (refine wpAnyH_take (i := 21) (oi := _) (v := ?_) rfl (by kernel_rfl) (by kernel_rfl) (by kernel_rfl) (fun _ _ _ h => h) (Or.inl ⟨?_, ?_⟩) (by assumption) ?_; rotate_left; (· rfl); (· ((intro w hSw; (try dsimp only at hSw); go_simp) <;> (with_reducible rfl))); (try simp only [List.getElem_toArray, List.getElem_cons_zero, List.getElem_cons_succ, Act.put, List.setIfInBounds_toArray, List.set_cons_zero, List.set_cons_succ])) | (refine wpAnyH_take (i := 21) (oi := _) (v := ?_) rfl (by kernel_rfl) (by kernel_rfl) (by kernel_rfl) (fun _ _ _ h => h) (Or.inl ⟨?_, ?_⟩) (by assumption) ?_; rotate_left; (· rfl); (· (intro w hSw; (try dsimp only at hSw); go_simp; done)); (try simp only [List.getElem_toArray, List.getElem_cons_zero, List.getElem_cons_succ, Act.put, List.setIfInBounds_toArray, List.set_cons_zero, List.set_cons_succ])))
          refine wpAnyH_done (by kernel_rfl) ?_ _; refine NoPanic.normal ?_
          go_wp2_with fail
          go_roundw
          case rel => exact ⟨k + 1, by omega, by go_num, (by repeat' (first | (with_reducible exact up_refl _) | (with_reducible assumption) | (with_reducible refine up_alloc ?_ _) | (with_reducible refine up_drewN ?_ _) | (with_reducible refine up_drew ?_) | (with_reducible refine up_set ?_ (by first | (simp; done) | (simp; omega) | omega) _) | (refine up_trans ?_ (by with_reducible assumption)))), unhide HY2⟩
          case measure => simp [intOf]; omega
      · have g1 : decide ((0 : Int) ≤ C) = true := by simp; omega
        have hRf := unhide HNO (fun h => c1 (hcn.2 h.1))
        subst hRf
        clear hcn c1 HNO HY hd
        go_wp2_with fail
        obtain ⟨W, hW⟩ : ∃ W : World, W = (wr.alloc (Obj.cells #[Value.int IntKind.i64 r1, Value.int IntKind.i64 r2] 24)) := ⟨_, rfl⟩
        rw [← hW]
        have f0 : W.cell? ⟨wr.heap.size, 0, none⟩ = some (.int .i64 r1) := by rw [hW]; go_cell
        have f1 : W.cell? ⟨wr.heap.size, 1, none⟩ = some (.int .i64 r2) := by rw [hW]; go_cell
        have f2 : W.cell? ⟨b, off, none⟩ = some (.int .i64 p1) := by rw [hW]; exact d4 _
        have f3 : W.cell? ⟨b, off + 1, none⟩ = some (.int .i64 p2) := by rw [hW]; exact d5 _
        have f4 : W.cell? ⟨b, off + k * 2, none⟩ = some (.int .i64 q1) := by rw [hW]; exact d2 _
        have f5 : W.cell? ⟨b, off + k * 2 + 1, none⟩ = some (.int .i64 q2) := by rw [hW]; exact d3 _
        have f6 : Up w W := by rw [hW]; exact up_alloc hu _
        have keep := st_and (st_cell ⟨wr.heap.size, 0, none⟩ (.int .i64 r1)) (st_and (st_cell ⟨wr.heap.size, 1, none⟩ (.int .i64 r2)) (st_and (st_cell ⟨b, off, none⟩ (.int .i64 p1)) (st_and (st_cell ⟨b, off + 1, none⟩ (.int .i64 p2)) (st_and (st_cell ⟨b, off + k * 2, none⟩ (.int .i64 q1)) (st_and (st_cell ⟨b, off + k * 2 + 1, none⟩ (.int .i64 q2)) (st_up w))))))
        have hkeep := hide keep
        clear hW d2 d3 d4 d5 keep
        refine wp_region_noPanic ?_; refine wp_region_held_drew (S := (fun wx => wx.cell? ⟨wr.heap.size, 0, none⟩ = some (.int .i64 r1) ∧ wx.cell? ⟨wr.heap.size, 1, none⟩ = some (.int .i64 r2) ∧ wx.cell? ⟨b, off, none⟩ = some (.int .i64 p1) ∧ wx.cell? ⟨b, off + 1, none⟩ = some (.int .i64 p2) ∧ wx.cell? ⟨b, off + k * 2, none⟩ = some (.int .i64 q1) ∧ wx.cell? ⟨b, off + k * 2 + 1, none⟩ = some (.int .i64 q2) ∧ Up w wx)) (by kernel_rfl) ?_ (fun hHeld => ?_); (· ((try dsimp only); exact ⟨f0, f1, f2, f3, f4, f5, up_drew f6⟩))
        (first | (refine wpAnyH_take (i := 0) (oi := _) (v := ?_) rfl (by kernel_rfl) (by kernel_rfl) (by kernel_rfl) (fun _ _ _ h => h) (Or.inl ⟨?_, ?_⟩) (by assumption) ?_; rotate_left; (· rfl); (· ((intro w hSw; (try dsimp only at hSw); go_simp) <;> (with_reducible rfl))); (try simp only [List.getElem_toArray, List.getElem_cons_zero, List.getElem_cons_succ, Act.put, List.setIfInBounds_toArray, List.set_cons_zero, List.set_cons_succ])) | (refine wpAnyH_take (i := 0) (oi := _) (v := ?_) rfl (by kernel_rfl) (by kernel_rfl) (by kernel_rfl) (fun _ _ _ h => h) (Or.inl ⟨?_, ?_⟩) (by assumption) ?_; rotate_left; (· rfl); (· (intro w hSw; (try dsimp only at hSw); go_simp; done)); (try simp only [List.getElem_toArray, List.getElem_cons_zero, List.getElem_cons_succ, Act.put, List.setIfInBounds_toArray, List.set_cons_zero, List.set_cons_succ]))); (first | (refine wpAnyH_take (i := 1) (oi := _) (v := ?_) rfl (by kernel_rfl) (by kernel_rfl) (by kernel_rfl) (fun _ _ _ h => h) (Or.inl ⟨?_, ?_⟩) (by assumption) ?_; rotate_left; (· rfl); (· ((intro w hSw; (try dsimp only at hSw); go_simp) <;> (with_reducible rfl))); (try simp only [List.getElem_toArray, List.getElem_cons_zero, List.getElem_cons_succ, Act.put, List.setIfInBounds_toArray, List.set_cons_zero, List.set_cons_succ])) | (refine wpAnyH_take (i := 1) (oi := _) (v := ?_) rfl (by kernel_rfl) (by kernel_rfl) (by kernel_rfl) (fun _ _ _ h => h) (Or.inl ⟨?_, ?_⟩) (by assumption) ?_; rotate_left; (· rfl); (· (intro w hSw; (try dsimp only at hSw); go_simp; done)); (try simp only [List.getElem_toArray, List.getElem_cons_zero, List.getElem_cons_succ, Act.put, List.setIfInBounds_toArray, List.set_cons_zero, List.set_cons_succ]))); (first | (refine wpAnyH_take (i := 2) (oi := _) (v := ?_) rfl (by kernel_rfl) (by kernel_rfl) (by kernel_rfl) (fun _ _ _ h => h) (Or.inl ⟨?_, ?_⟩) (by assumption) ?_; rotate_left; (· rfl); (· ((intro w hSw; (try dsimp only at hSw); go_simp) <;> (with_reducible rfl))); (try simp only [List.getElem_toArray, List.getElem_cons_zero, List.getElem_cons_succ, Act.put, List.setIfInBounds_toArray, List.set_cons_zero, List.set_cons_succ])) | (refine wpAnyH_take (i := 2) (oi := _) (v := ?_) rfl (by kernel_rfl) (by kernel_rfl) (by kernel_rfl) (fun _ _ _ h => h) (Or.inl ⟨?_, ?_⟩) (by assumption) ?_; rotate_left; (· rfl); (· (intro w hSw; (try dsimp only at hSw); go_simp; done)); (try simp only [List.getElem_toArray, List.getElem_cons_zero, List.getElem_cons_succ, Act.put, List.setIfInBounds_toArray, List.set_cons_zero, List.set_cons_succ]))); (first | (refine wpAnyH_take (i := 3) (oi := _) (v := ?_) rfl (by kernel_rfl) (by kernel_rfl) (by kernel_rfl) (fun _ _ _ h => h) (Or.inl ⟨?_, ?_⟩) (by assumption) ?_; rotate_left; (· rfl); (· ((intro w hSw; (try dsimp only at hSw); go_simp) <;> (with_reducible rfl))); (try simp only [List.getElem_toArray, List.getElem_cons_zero, List.getElem_cons_succ, Act.put, List.setIfInBounds_toArray, List.set_cons_zero, List.set_cons_succ])) | (refine wpAnyH_take (i := 3) (oi := _) (v := ?_) rfl (by kernel_rfl) (by kernel_rfl) (by kernel_rfl) (fun _ _ _ h => h) (Or.inl ⟨?_, ?_⟩) (by assumption) ?_; rotate_left; (· rfl); (· (intro w hSw; (try dsimp only at hSw); go_simp; done)); (try simp only [List.getElem_toArray, List.getElem_cons_zero, List.getElem_cons_succ, Act.put, List.setIfInBounds_toArray, List.set_cons_zero, List.set_cons_succ])))
        refine wpAnyH_ready (rs := [4]) (by kernel_rfl) (by simp) ?_; refine AllReadyH.cons (o := _) rfl (fun K hK => ?_) AllReadyH.nil; go_simp; (go_at_call 65; (with_reducible refine (unhide HPC _).mono ?_); rintro e w3 ⟨rfl, hb3⟩); go_wp2_with fail; refine hK.out _ _ ?_ (fun hHeld => ?_); (· ((try dsimp only); exact unhide hkeep _ _ hb3 (by assumption))); clear hK K; (try simp only [List.getElem_toArray, List.getElem_cons_zero, List.getElem_cons_succ, Act.put, List.setIfInBounds_toArray, List.set_cons_zero, List.set_cons_succ])
        (first | (refine wpAnyH_take (i := 5) (oi := _) (v := ?_) rfl (by kernel_rfl) (by kernel_rfl) (by kernel_rfl) (fun _ _ _ h => h) (Or.inl ⟨?_, ?_⟩) (by assumption) ?_; rotate_left; (· rfl); (· ((intro w hSw; (try dsimp only at hSw); go_simp) <;> (with_reducible rfl))); (try simp only [List.getElem_toArray, List.getElem_cons_zero, List.getElem_cons_succ, Act.put, List.setIfInBounds_toArray, List.set_cons_zero, List.set_cons_succ])) | (refine wpAnyH_take (i := 5) (oi := _) (v := ?_) rfl (by kernel_rfl) (by kernel_rfl) (by kernel_rfl) (fun _ _ _ h => h) (Or.inl ⟨?_, ?_⟩) (by assumption) ?_; rotate_left; (· rfl); (· (intro w hSw; (try dsimp only at hSw); go_simp; done)); (try simp only [List.getElem_toArray, List.getElem_cons_zero, List.getElem_cons_succ, Act.put, List.setIfInBounds_toArray, List.set_cons_zero, List.set_cons_succ]))); (first | (refine wpAnyH_take (i := 6) (oi := _) (v := ?_) rfl (by kernel_rfl) (by kernel_rfl) (by kernel_rfl) (fun _ _ _ h => h) (Or.inl ⟨?_, ?_⟩) (by assumption) ?_; rotate_left; (· rfl); (· ((intro w hSw; (try dsimp only at hSw); go_simp) <;> (with_reducible rfl))); (try simp only [List.getElem_toArray, List.getElem_cons_zero, List.getElem_cons_succ, Act.put, List.setIfInBounds_toArray, List.set_cons_zero, List.set_cons_succ])) | (refine wpAnyH_take (i := 6) (oi := _) (v := ?_) rfl (by kernel_rfl) (by kernel_rfl) (by kernel_rfl) (fun _ _ _ h => h) (Or.inl ⟨?_, ?_⟩) (by assumption) ?_; rotate_left; (· rfl); (· (intro w hSw; (try dsimp only at hSw); go_simp; done)); (try simp only [List.getElem_toArray, List.getElem_cons_zero, List.getElem_cons_succ, Act.put, List.setIfInBounds_toArray, List.set_cons_zero, List.set_cons_succ])))
        refine wpAnyH_take (i := 7) (oi := _) (v := undef) rfl (by kernel_rfl) (by kernel_rfl) (by kernel_rfl) (fun _ _ _ h => h) (Or.inr ⟨?_, rfl⟩) (by assumption) ?_; (· (first | (go_simp; done) | rfl)); (try simp only [List.getElem_toArray, List.getElem_cons_zero, List.getElem_cons_succ, Act.put, List.setIfInBounds_toArray, List.set_cons_zero, List.set_cons_succ]); refine wpAnyH_take (i := 8) (oi := _) (v := undef) rfl (by kernel_rfl) (by kernel_rfl) (by kernel_rfl) (fun _ _ _ h => h) (Or.inr ⟨?_, rfl⟩) (by assumption) ?_; (· (first | (go_simp; done) | rfl)); (try simp only [List.getElem_toArray, List.getElem_cons_zero, List.getElem_cons_succ, Act.put, List.setIfInBounds_toArray, List.set_cons_zero, List.set_cons_succ]); refine wpAnyH_take (i := 9) (oi := _) (v := undef) rfl (by kernel_rfl) (by kernel_rfl) (by kernel_rfl) (fun _ _ _ h => h) (Or.inr ⟨?_, rfl⟩) (by assumption) ?_; (· (first | (go_simp; done) | rfl)); (try simp only [List.getElem_toArray, List.getElem_cons_zero, List.getElem_cons_succ, Act.put, List.setIfInBounds_toArray, List.set_cons_zero, List.set_cons_succ]); refine wpAnyH_take (i := 10) (oi := _) (v := undef) rfl (by kernel_rfl) (by kernel_rfl) (by kernel_rfl) (fun _ _ _ h => h) (Or.inr ⟨?_, rfl⟩) (by assumption) ?_; (· (first | (go_simp; done) | rfl)); (try simp only [List.getElem_toArray, List.getElem_cons_zero, List.getElem_cons_succ, Act.put, List.setIfInBounds_toArray, List.set_cons_zero, List.set_cons_succ]); refine wpAnyH_take (i := 11) (oi := _) (v := undef) rfl (by kernel_rfl) (by kernel_rfl) (by kernel_rfl) (fun _ _ _ h => h) (Or.inr ⟨?_, rfl⟩) (by assumption) ?_; (· (first | (go_simp; done) | rfl)); (try simp only [List.getElem_toArray, List.getElem_cons_zero, List.getElem_cons_succ, Act.put, List.setIfInBounds_toArray, List.set_cons_zero, List.set_cons_succ]); refine wpAnyH_take (i := 12) (oi := _) (v := undef) rfl (by kernel_rfl) (by kernel_rfl) (by kernel_rfl) (fun _ _ _ h => h) (Or.inr ⟨?_, rfl⟩) (by assumption) ?_; (· (first | (go_simp; done) | rfl)); (try simp only [List.getElem_toArray, List.getElem_cons_zero, List.getElem_cons_succ, Act.put, List.setIfInBounds_toArray, List.set_cons_zero, List.set_cons_succ]); refine wpAnyH_take (i := 13) (oi := _) (v := undef) rfl (by kernel_rfl) (by kernel_rfl) (by kernel_rfl) (fun _ _ _ h => h) (Or.inr ⟨?_, rfl⟩) (by assumption) ?_; (· (first | (go_simp; done) | rfl)); (try simp only [List.getElem_toArray, List.getElem_cons_zero, List.getElem_cons_succ, Act.put, List.setIfInBounds_toArray, List.set_cons_zero, List.set_cons_succ]); refine wpAnyH_take (i := 14) (oi := _) (v := undef) rfl (by kernel_rfl) (by kernel_rfl) (by kernel_rfl) (fun _ _ _ h => h) (Or.inr ⟨?_, rfl⟩) (by assumption) ?_; (· (first | (go_simp; done) | rfl)); (try simp only [List.getElem_toArray, List.getElem_cons_zero, List.getElem_cons_succ, Act.put, List.setIfInBounds_toArray, List.set_cons_zero, List.set_cons_succ]); refine wpAnyH_take (i := 15) (oi := _) (v := undef) rfl (by kernel_rfl) (by kernel_rfl) (by kernel_rfl) (fun _ _ _ h => h) (Or.inr ⟨?_, rfl⟩) (by assumption) ?_; (· (first | (go_simp; done) | rfl)); (try simp only [List.getElem_toArray, List.getElem_cons_zero, List.getElem_cons_succ, Act.put, List.setIfInBounds_toArray, List.set_cons_zero, List.set_cons_succ]); refine wpAnyH_take (i := 16) (oi := _) (v := undef) rfl (by kernel_rfl) (by kernel_rfl) (by kernel_rfl) (fun _ _ _ h => h) (Or.inr ⟨?_, rfl⟩) (by assumption) ?_; (· (first | (go_simp; done) | rfl)); (try simp only [List.getElem_toArray, List.getElem_cons_zero, List.getElem_cons_succ, Act.put, List.setIfInBounds_toArray, List.set_cons_zero, List.set_cons_succ]); refine wpAnyH_take (i := 17) (oi := _) (v := undef) rfl (by kernel_rfl) (by kernel_rfl) (by kernel_rfl) (fun _ _ _ h => h) (Or.inr ⟨?_, rfl⟩) (by assumption) ?_; (· (first | (go_simp; done) | rfl)); (try simp only [List.getElem_toArray, List.getElem_cons_zero, List.getElem_cons_succ, Act.put, List.setIfInBounds_toArray, List.set_cons_zero, List.set_cons_succ]); refine wpAnyH_take (i := 18) (oi := _) (v := undef) rfl (by kernel_rfl) (by kernel_rfl) (by kernel_rfl) (fun _ _ _ h => h) (Or.inr ⟨?_, rfl⟩) (by assumption) ?_; (· (first | (go_simp; done) | rfl)); (try simp only [List.getElem_toArray, List.getElem_cons_zero, List.getElem_cons_succ, Act.put, List.setIfInBounds_toArray, List.set_cons_zero, List.set_cons_succ]); refine wpAnyH_take (i := 19) (oi := _) (v := undef) rfl (by kernel_rfl) (by kernel_rfl) (by kernel_rfl) (fun _ _ _ h => h) (Or.inr ⟨?_, rfl⟩) (by assumption) ?_; (· (first | (go_simp; done) | rfl)); (try simp only [List.getElem_toArray, List.getElem_cons_zero, List.getElem_cons_succ, Act.put, List.setIfInBounds_toArray, List.set_cons_zero, List.set_cons_succ]); refine wpAnyH_take (i := 20) (oi := _) (v := undef) rfl (by kernel_rfl) (by kernel_rfl) (by kernel_rfl) (fun _ _ _ h => h) (Or.inr ⟨?_, rfl⟩) (by assumption) ?_; (· (first | (go_simp; done) | rfl)); (try simp only [List.getElem_toArray, List.getElem_cons_zero, List.getElem_cons_succ, Act.put, List.setIfInBounds_toArray, List.set_cons_zero, List.set_cons_succ])
        (first | (refine wpAnyH_take (i := 21) (oi := _) (v := ?_) rfl (by kernel_rfl) (by kernel_rfl) (by kernel_rfl) (fun _ _ _ h => h) (Or.inl ⟨?_, ?_⟩) (by assumption) ?_; rotate_left; (· rfl); (· ((intro w hSw; (try dsimp only at hSw); go_simp) <;> (with_reducible rfl))); (try simp only [List.getElem_toArray, List.getElem_cons_zero, List.getElem_cons_succ, Act.put, List.setIfInBounds_toArray, List.set_cons_zero, List.set_cons_succ])) | (refine wpAnyH_take (i := 21) (oi := _) (v := ?_) rfl (by kernel_rfl) (by kernel_rfl) (by kernel_rfl) (fun _ _ _ h => h) (Or.inl ⟨?_, ?_⟩) (by assumption) ?_; rotate_left; (· rfl); (· (intro w hSw; (try dsimp only at hSw); go_simp; done)); (try simp only [List.getElem_toArray, List.getElem_cons_zero, List.getElem_cons_succ, Act.put, List.setIfInBounds_toArray, List.set_cons_zero, List.set_cons_succ])))
        refine wpAnyH_done (by kernel_rfl) ?_ _; refine NoPanic.normal ?_
        go_wp2_with fail
        go_ret
        exact ⟨rfl, (by repeat' (first | (with_reducible exact up_refl _) | (with_reducible assumption) | (with_reducible refine up_alloc ?_ _) | (with_reducible refine up_drewN ?_ _) | (with_reducible refine up_drew ?_) | (with_reducible refine up_set ?_ (by first | (simp; done) | (simp; omega) | omega) _) | (refine up_trans ?_ (by with_reducible assumption))))⟩
    · obtain rfl : k = L := by omega
      have hE := unhide HE (by rw [unhide HL]; exact unhide HO)
      by_cases h3 : n < 3
      · rw [if_pos h3] at hE
        subst hE
        have g3 : decide ((n : Int) < 3) = true := by simp; omega
        clear h3
        go_wp2_with fail
        go_ret
        exact ⟨rfl, (by repeat' (first | (with_reducible exact up_refl _) | (with_reducible assumption) | (with_reducible refine up_alloc ?_ _) | (with_reducible refine up_drewN ?_ _) | (with_reducible refine up_drew ?_) | (with_reducible refine up_set ?_ (by first | (simp; done) | (simp; omega) | omega) _) | (refine up_trans ?_ (by with_reducible assumption))))⟩
      · rw [if_neg h3] at hE
        subst hE
        have g3 : decide ((n : Int) < 3) = false := by simp; omega
        clear h3
        go_wp2_with (go_at_call 95; (with_reducible refine (unhide HPTL _ (by repeat' (first | (with_reducible exact up_refl _) | (with_reducible assumption) | (with_reducible refine up_alloc ?_ _) | (with_reducible refine up_drewN ?_ _) | (with_reducible refine up_drew ?_) | (with_reducible refine up_set ?_ (by first | (simp; done) | (simp; omega) | omega) _) | (refine up_trans ?_ (by with_reducible assumption))))).mono ?_); rintro e w3 ⟨rfl, hb3⟩)
        go_ret
        exact ⟨rfl, (by repeat' (first | (with_reducible exact up_refl _) | (with_reducible assumption) | (with_reducible refine up_alloc ?_ _) | (with_reducible refine up_drewN ?_ _) | (with_reducible refine up_drew ?_) | (with_reducible refine up_set ?_ (by first | (simp; done) | (simp; omega) | omega) _) | (refine up_trans ?_ (by with_reducible assumption))))⟩
end Go.Proofs.Ytihckoenfklhpaa
