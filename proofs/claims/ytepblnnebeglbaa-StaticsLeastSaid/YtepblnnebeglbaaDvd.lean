/- Divisions: what the program's divided returns. -/
import Derived.Test.YtepblnnebeglbaaPSum
import Derived.Test.YtepblnnebeglbaaOwnI
import Derived.Deep.OwnRows
namespace Go.Proofs.Ytepblnnebeglbaa
open Go.RowKit Go.Proofs.Gn
def ixs (is : List Nat) : List Int := is.map fun (i : Nat) => (i : Int)
theorem ixs_len (is : List Nat) : (ixs is).length = is.length := by simp [ixs]
theorem ixs_at {is : List Nat} {k : Nat} (h : k < is.length) : (ixs is)[k]'(by rw [ixs_len]; exact h) = (is[k] : Int) := by simp [ixs]
def yA (ps : List Gs.Sup) (i : Nat) : Int := (ps[i]?.map (·.y)).getD 0
theorem yA_at {ps : List Gs.Sup} {i : Nat} (h : i < ps.length) : yA ps i = ps[i].y := by unfold yA; rw [List.getElem?_eq_getElem h]; rfl
theorem yA_bd {ps : List Gs.Sup} (ho : Gs.okA ps = true) {i : Nat} (h : i < ps.length) : -131072 ≤ yA ps i ∧ yA ps i ≤ 131072 := by
  rw [yA_at h]
  exact (Gs.okS_yes (Gs.okA_get ho h)).2.1
def sY (ps : List Gs.Sup) : List Nat → Int
  | [] => 0
  | i :: is => yA ps i + sY ps is
theorem sY_append (ps : List Gs.Sup) (a b : List Nat) : sY ps (a ++ b) = sY ps a + sY ps b := by
  induction a with
  | nil => simp [sY]
  | cons i a ih => simp only [List.cons_append, sY, ih]; omega
theorem sY_take (ps : List Gs.Sup) {is : List Nat} {k : Nat} (h : k < is.length) : sY ps (is.take (k + 1)) = sY ps (is.take k) + yA ps is[k] := by
  rw [List.take_succ_eq_append_getElem h, sY_append]
  simp [sY]
theorem sY_bd {ps : List Gs.Sup} (ho : Gs.okA ps = true) : ∀ (is : List Nat), (∀ i ∈ is, i < ps.length) → -(131072 * (is.length : Int)) ≤ sY ps is ∧ sY ps is ≤ 131072 * (is.length : Int)
  | [], _ => by simp [sY]
  | i :: is, h => by
    have a := yA_bd ho (h i (by simp))
    have b := sY_bd ho is (fun j hj => h j (by simp [hj]))
    simp only [sY, List.length_cons]
    omega
/-- The group of support i in the division in which the supports of a list are divided by their Y. -/
def dvG (ps : List Gs.Sup) (is : List Nat) (i : Nat) : Int := if i ∈ is then (if sY ps is < yA ps i * is.length then 1 else 2) else 0
def gL (n : Nat) (F : Nat → Int) : List Value := (List.range n).map fun i => .int .i64 (F i)
theorem gL_len (n : Nat) (F : Nat → Int) : (gL n F).length = n := by simp [gL]
theorem gL_set {n : Nat} {F : Nat → Int} {j : Nat} {v : Int} : (gL n F).set j (.int .i64 v) = gL n (fun i => if i = j then v else F i) := by
  apply List.ext_getElem
  · simp [gL]
  · intro i h1 h2
    simp only [gL, List.getElem_set, List.getElem_map, List.getElem_range]
    by_cases e : j = i
    · rw [if_pos e, if_pos e.symm]
    · rw [if_neg e, if_neg (fun x => e x.symm)]
theorem gL_congr {n : Nat} {F H : Nat → Int} (h : ∀ i, i < n → F i = H i) : gL n F = gL n H := by
  unfold gL
  apply List.map_congr_left
  intro i hi
  rw [h i (List.mem_range.1 hi)]
theorem made_gL (n : Nat) : madeCells #[.int .i64 0] n = (gL n fun _ => 0).toArray := by
  apply Array.ext
  · simp [size_madeCells, gL]
  · intro i h1 h2
    simp [madeCells, gL, Nat.mod_one]
theorem info_intD : (Try.prog.info? 3).map (fun i => (i.zero, i.size, i.bytes)) = some (some (.int .i64 0), 1, 8) := by kernel_rfl
def fG (v : Nat → Int) (is : List Nat) (k : Nat) (i : Nat) : Int := if i ∈ is.take k then v i else 0
theorem fG_step {v : Nat → Int} {is : List Nat} {k : Nat} (h : k < is.length) (i : Nat) : (if i = is[k] then v is[k] else fG v is k i) = fG v is (k + 1) i := by
  unfold fG
  rw [List.take_succ_eq_append_getElem h]
  by_cases e : i = is[k]
  · subst e; rw [if_pos rfl, if_pos (List.mem_append_right _ (List.mem_singleton.2 rfl))]
  · rw [if_neg e]
    by_cases m : i ∈ is.take k
    · rw [if_pos m, if_pos (List.mem_append_left _ m)]
    · rw [if_neg m, if_neg (fun x => (List.mem_append.1 x).elim m (fun y => e (List.mem_singleton.1 y)))]
theorem bx_atD {W : World} {b : Nat} {vs : List Value} (h : Bx W b vs) {i : Nat} (hi : i < vs.length) : W.cell? ⟨b, i, none⟩ = some vs[i] ∧ W.frozen? ⟨b, i, none⟩ = false := h i _ (List.getElem?_eq_getElem hi)
set_option maxRecDepth 100000 in
set_option maxHeartbeats 8000000 in
theorem p_divided (A : Option Addr) (ps : List Gs.Sup) (cap : Nat) (B : Option Addr) (is : List Nat) (capB : Nat) (w : World) (h : Sups w A ps) (hI : Ints w B (ixs is)) (ho : Gs.okA ps = true) (hn : ps.length ≤ 48) (hm : is.length ≤ 48) (hs : ∀ i ∈ is, i < ps.length) :
    Calls Try.prog 49 #[.slice A ps.length cap, .slice B is.length capB] w fun e w' => ∃ g : Nat, e = .returned (.slice (some ⟨g, 0, none⟩) ps.length ps.length) ∧ Bx w' g (gL ps.length (dvG ps is)) ∧ w.heap.size ≤ g ∧ Up w w' := by
  have HA := hide h
  have HI := hide hI
  have HY := hide (fun k (hk : k < is.length) => (⟨hs is[k] (List.getElem_mem hk), yA_bd ho (hs is[k] (List.getElem_mem hk)), sY_take ps hk⟩ : _ ∧ _ ∧ _))
  have HB := hide (fun k => sY_bd ho (is.take k) (fun i hi => hs i (List.mem_of_mem_take hi)))
  have HD : Hid (∀ i, fG (fun i => if sY ps is < yA ps i * is.length then 1 else 2) is is.length i = dvG ps is i) := hide (fun i => by unfold fG dvG; rw [List.take_length])
  clear h hI hs
  have hmk : ∀ (n : Nat), n ≤ 48 → ∀ W : World, (Instr.makeSlice 26 (.int .i64 (n : Int)) (.int .i64 (n : Int))).run Try.prog W = .ok (.slice (some ⟨W.heap.size, 0, none⟩) n n) (W.alloc (.cells (gL n fun _ => 0).toArray 3)) := fun n hn W => by
    rw [← made_gL]
    exact run_make_row' 26 3 (.int .i64 0) 8 Try.underlying26 info_intD rfl .i64 .i64 n (by omega) (by omega) W
  have HMk := hide (hmk ps.length hn)
  clear hmk
  obtain ⟨n, hN⟩ : ∃ n, ps.length = n := ⟨_, rfl⟩
  obtain ⟨m, hM⟩ : ∃ m, is.length = m := ⟨_, rfl⟩
  rw [hN] at hn HMk ⊢
  rw [hM] at hm HD ⊢
  have HN := hide hN
  have HM := hide hM
  clear hN hM
  go_enter Try.func49, Try.ntmps49
  go_wp2_with fail
  go_loopw [5, 13] (fun s5 s13 wr => ∃ k : Nat, k ≤ m ∧ s13 = .int .i64 k ∧ s5 = .int .i64 (sY ps (is.take k)) ∧ Up w wr) (fun _ s13 _ => m - (intOf s13).toNat)
  case atStart => exact ⟨0, by omega, rfl, rfl, up_refl _⟩
  case round =>
    obtain ⟨k, hk, rfl, rfl, hu⟩ := hrel
    by_cases hlt : k < m
    · have hl : k < is.length := by rw [unhide HM]; exact hlt
      obtain ⟨hin, hyb, hst⟩ := unhide HY k hl
      have hb1 := unhide HB k
      rw [List.length_take, Nat.min_eq_left (by omega)] at hb1
      rcases ints_up (unhide HI) hu with hnil | ⟨bi, oi, rfl, hci⟩
      · have t := ixs_len is; rw [hnil] at t; simp at t; omega
      have ci := hci k (by rw [ixs_len]; exact hl)
      rw [ixs_at hl] at ci
      rcases sups_up (unhide HA) hu with hnil | ⟨b, off, rfl, hc⟩
      · rw [hnil] at hin; simp at hin
      obtain ⟨d0, d1, d2, d3, d4, d5⟩ := hc is[k] hin
      rw [← yA_at hin] at d1
      clear hc hci d0 d2 d3 d4 d5
      obtain ⟨i, hi⟩ : ∃ i, is[k] = i := ⟨_, rfl⟩
      rw [hi] at hin hyb hst ci d1
      have hin2 : i < n := by rw [← unhide HN]; exact hin
      have HS := hide hst
      generalize yA ps i = y at *
      generalize sY ps (is.take k) = S at *
      have hwk : IntKind.i64.wrap ((k : Int) + 1) = (k : Int) + 1 := IntWalk.i64_in _ ⟨by omega, by omega⟩
      have hws : IntKind.i64.wrap (S + y) = S + y := IntWalk.i64_in _ ⟨by omega, by omega⟩
      have g1 : (0 : Int) ≤ i := by omega
      have g2 : (i : Int) < n := by omega
      clear hst hi hyb hb1
      go_wp2_with fail
      go_roundw
      case rel => exact ⟨k + 1, by omega, by first | rfl | trivial | go_num, by rw [unhide HS], (by repeat' (first | (with_reducible exact up_refl _) | (with_reducible assumption) | (with_reducible refine up_alloc ?_ _) | (with_reducible refine up_drewN ?_ _) | (with_reducible refine up_drew ?_) | (with_reducible refine up_set ?_ (by first | (simp; done) | (simp; omega) | omega) _) | (refine up_trans ?_ (by with_reducible assumption))))⟩
      case measure => simp [intOf]; omega
    · obtain rfl : k = m := by omega
      have hT : is.take k = is := List.take_of_length_le (by rw [unhide HM]; omega)
      rw [hT]
      have hmk := unhide HMk
      clear hT
      obtain ⟨S, hS⟩ : ∃ S, sY ps is = S := ⟨_, rfl⟩
      have hSb := unhide HB k
      rw [List.take_of_length_le (by rw [unhide HM]; omega), hS, unhide HM] at hSb
      rw [hS] at HD ⊢
      have HSS := hide hS
      clear hS
      go_upto_region 8 with fail
      refine at_wp (fun W1 hW1 => ?_)
      have u1 : Up wr W1 := by rw [hW1]; exact (by repeat' (first | (with_reducible exact up_refl _) | (with_reducible assumption) | (with_reducible refine up_alloc ?_ _) | (with_reducible refine up_drewN ?_ _) | (with_reducible refine up_drew ?_) | (with_reducible refine up_set ?_ (by first | (simp; done) | (simp; omega) | omega) _) | (refine up_trans ?_ (by with_reducible assumption))))
      have R1 : Bx W1 wr.heap.size (gL n fun _ => 0) := by rw [hW1]; exact bx_new wr _ 3
      have U1 := up_trans hu u1
      have zg : w.heap.size ≤ wr.heap.size := up_size hu
      clear hW1 hmk HMk u1
      obtain ⟨G, hG⟩ : ∃ G, wr.heap.size = G := ⟨_, rfl⟩
      rw [hG] at R1 zg ⊢
      clear hG hu
      obtain ⟨wo, hwo⟩ : ∃ wo, wo = W1 := ⟨_, rfl⟩
      rw [← hwo] at U1 R1 ⊢
      clear hwo
      have R2 : Bx wo G (gL n (fG (fun i => if S < yA ps i * k then 1 else 2) is 0)) := by
        rw [gL_congr (H := fun _ => 0) (fun i _ => by simp [fG])]; exact R1
      clear R1
      go_wp2_with fail
      go_loopw [30] (fun s30 wr => ∃ j : Nat, j ≤ k ∧ s30 = .int .i64 j ∧ Up w wr ∧ Bx wr G (gL n (fG (fun i => if S < yA ps i * k then 1 else 2) is j))) (fun s30 _ => k - (intOf s30).toNat)
      case atStart => exact ⟨0, by omega, rfl, U1, R2⟩
      case round =>
        obtain ⟨j, hj, rfl, hu, hR⟩ := hrel
        by_cases hlt2 : j < k
        · have hl : j < is.length := by rw [unhide HM]; exact hlt2
          obtain ⟨hin, hyb, hst⟩ := unhide HY j hl
          clear hst
          rcases ints_up (unhide HI) hu with hnil | ⟨bi, oi, rfl, hci⟩
          · have t := ixs_len is; rw [hnil] at t; simp at t; omega
          have ci := hci j (by rw [ixs_len]; exact hl)
          rw [ixs_at hl] at ci
          rcases sups_up (unhide HA) hu with hnil | ⟨b, off, rfl, hc⟩
          · rw [hnil] at hin; simp at hin
          obtain ⟨d0, d1, d2, d3, d4, d5⟩ := hc is[j] hin
          rw [← yA_at hin] at d1
          clear hc hci d0 d2 d3 d4 d5
          have HSt := hide (fun i' => fG_step (v := fun i => if S < yA ps i * k then 1 else 2) hl i')
          obtain ⟨i, hi⟩ : ∃ i, is[j] = i := ⟨_, rfl⟩
          rw [hi] at hin hyb ci d1 HSt
          have hin2 : i < n := by rw [← unhide HN]; exact hin
          have rc := bx_atD hR (i := i) (by rw [gL_len]; exact hin2)
          obtain ⟨rc1, rc2⟩ := rc
          generalize (gL n (fG (fun i => if S < yA ps i * k then 1 else 2) is j))[i]'_ = vo at rc1
          have HR := hide hR
          clear hR hi
          obtain ⟨y, hy⟩ : ∃ y, yA ps i = y := ⟨_, rfl⟩
          rw [hy] at hyb d1
          have hm1 : -6291456 ≤ y * (k : Int) ∧ y * (k : Int) ≤ 6291456 := by
            have a := Int.mul_le_mul_of_nonneg_right hyb.2 (show (0 : Int) ≤ k by omega)
            have b := Int.mul_le_mul_of_nonneg_right hyb.1 (show (0 : Int) ≤ k by omega)
            omega
          have hwk : IntKind.i64.wrap ((j : Int) + 1) = (j : Int) + 1 := IntWalk.i64_in _ ⟨by omega, by omega⟩
          have hwm : IntKind.i64.wrap (y * (k : Int)) = y * (k : Int) := IntWalk.i64_in _ ⟨by omega, by omega⟩
          have g1 : (0 : Int) ≤ i := by omega
          have g2 : (i : Int) < n := by omega
          have HYy := hide hy
          clear hy hyb hm1
          by_cases c : S < y * (k : Int)
          · have HV := hide (show ∀ i', (if i' = i then (1 : Int) else fG (fun i => if S < yA ps i * k then 1 else 2) is j i') = fG (fun i => if S < yA ps i * k then 1 else 2) is (j + 1) i' from fun i' => by have t := unhide HSt i'; rwa [unhide HYy, if_pos c] at t)
            clear HSt
            go_wp2_with fail
            go_roundw
            case rel =>
              refine ⟨j + 1, by omega, by first | rfl | trivial | go_num, up_set hu zg _, ?_⟩
              have t := bx_set (unhide HR) i (.int .i64 1)
              rw [gL_set, gL_congr (fun i' _ => unhide HV i')] at t
              exact t
            case measure => simp [intOf]; omega
          · have HV := hide (show ∀ i', (if i' = i then (2 : Int) else fG (fun i => if S < yA ps i * k then 1 else 2) is j i') = fG (fun i => if S < yA ps i * k then 1 else 2) is (j + 1) i' from fun i' => by have t := unhide HSt i'; rwa [unhide HYy, if_neg c] at t)
            have hd : decide (S < y * (k : Int)) = false := decide_eq_false c
            clear HSt
            go_wp2_with fail
            go_roundw
            case rel =>
              refine ⟨j + 1, by omega, by first | rfl | trivial | go_num, up_set hu zg _, ?_⟩
              have t := bx_set (unhide HR) i (.int .i64 2)
              rw [gL_set, gL_congr (fun i' _ => unhide HV i')] at t
              exact t
            case measure => simp [intOf]; omega
        · obtain rfl : j = k := by omega
          rw [gL_congr (fun i' _ => unhide HD i')] at hR
          have HR := hide hR
          clear hR
          go_wp2_with fail
          go_ret
          exact ⟨G, rfl, unhide HR, zg, hu⟩
end Go.Proofs.Ytepblnnebeglbaa
