/- Divisions: the document's Division; it is the program's. -/
import Derived.Test.YtepblnnebeglbaaDvd
namespace Go.Proofs.Ytepblnnebeglbaa
open Go.RowKit Go.Proofs.Gn
def rdG (ps : List Gs.Sup) (fs : List Nat) (i : Nat) : Int := if i ∈ fs then 0 else (if sY ps (List.range ps.length) - sY ps fs < yA ps i * ((ps.length : Int) - fs.length) then 1 else 2)
theorem sY_perm (ps : List Gs.Sup) {a b : List Nat} (h : a.Perm b) : sY ps a = sY ps b := by
  induction h with
  | nil => rfl
  | cons x _ ih => simp only [sY, ih]
  | swap x y l => simp only [sY]; omega
  | trans _ _ ih1 ih2 => rw [ih1, ih2]
theorem rd_dv {ps : List Gs.Sup} {fs is : List Nat} (h : (fs ++ is).Perm (List.range ps.length)) (i : Nat) (hi : i < ps.length) : rdG ps fs i = dvG ps is i := by
  have hs := sY_perm ps h
  rw [sY_append] at hs
  have hl := h.length_eq
  rw [List.length_append, List.length_range] at hl
  have hn : (fs ++ is).Nodup := h.nodup_iff.2 List.nodup_range
  have hm : i ∈ fs ++ is := h.mem_iff.2 (List.mem_range.2 hi)
  have e1 : sY ps (List.range ps.length) - sY ps fs = sY ps is := by omega
  have e2 : (ps.length : Int) - fs.length = is.length := by omega
  unfold rdG dvG
  rw [e1, e2]
  by_cases m : i ∈ fs
  · have : i ∉ is := fun x => (List.nodup_append.1 hn).2.2 _ m _ x rfl
    rw [if_pos m, if_neg this]
  · have : i ∈ is := (List.mem_append.1 hm).resolve_left m
    rw [if_neg m, if_pos this]
def g1F (k : Nat) (j : Nat) : Int := if j < k then 2 else 0
def g2F (fs : List Nat) (k : Nat) (j : Nat) : Int := if j ∈ fs.take k then 0 else 2
def g3F (v : Nat → Int) (fs : List Nat) (k : Nat) (j : Nat) : Int := if j ∈ fs then 0 else (if j < k then v j else 2)
theorem g1_step {k : Nat} (j : Nat) : (if j = k then 2 else g1F k j) = g1F (k + 1) j := by
  unfold g1F
  by_cases e : j = k
  · subst e; rw [if_pos rfl, if_pos (by omega)]
  · rw [if_neg e]
    by_cases x : j < k
    · rw [if_pos x, if_pos (by omega)]
    · rw [if_neg x, if_neg (by omega)]
theorem g2_step {fs : List Nat} {k : Nat} (h : k < fs.length) (j : Nat) : (if j = fs[k] then 0 else g2F fs k j) = g2F fs (k + 1) j := by
  unfold g2F
  rw [List.take_succ_eq_append_getElem h]
  by_cases e : j = fs[k]
  · rw [if_pos e, if_pos (List.mem_append_right _ (List.mem_singleton.2 e))]
  · rw [if_neg e]
    by_cases m : j ∈ fs.take k
    · rw [if_pos m, if_pos (List.mem_append_left _ m)]
    · rw [if_neg m, if_neg (fun x => (List.mem_append.1 x).elim m (fun y => e (List.mem_singleton.1 y)))]
theorem g3_step {v : Nat → Int} {fs : List Nat} {k : Nat} (h : k ∉ fs) (j : Nat) : (if j = k then v k else g3F v fs k j) = g3F v fs (k + 1) j := by
  unfold g3F
  by_cases e : j = k
  · subst e; rw [if_pos rfl, if_neg h, if_pos (by omega)]
  · rw [if_neg e]
    by_cases m : j ∈ fs
    · rw [if_pos m, if_pos m]
    · rw [if_neg m, if_neg m]
      by_cases x : j < k
      · rw [if_pos x, if_pos (by omega)]
      · rw [if_neg x, if_neg (by omega)]
theorem g3_keep {v : Nat → Int} {fs : List Nat} {k : Nat} (h : k ∈ fs ∨ v k = 2) (j : Nat) : g3F v fs k j = g3F v fs (k + 1) j := by
  unfold g3F
  by_cases m : j ∈ fs
  · rw [if_pos m, if_pos m]
  · rw [if_neg m, if_neg m]
    by_cases x : j < k
    · rw [if_pos x, if_pos (by omega)]
    · rw [if_neg x]
      by_cases y : j < k + 1
      · obtain rfl : j = k := by omega
        rw [if_pos y]
        rcases h with h | h
        · exact absurd h m
        · exact h.symm
      · rw [if_neg y]
theorem gL_at {n : Nat} {F : Nat → Int} {W : World} {G : Nat} (h : Bx W G (gL n F)) {i : Nat} (hi : i < n) : W.cell? ⟨G, i, none⟩ = some (.int .i64 (F i)) ∧ W.frozen? ⟨G, i, none⟩ = false := by
  have t := bx_atD h (i := i) (by rw [gL_len]; exact hi)
  simpa [gL] using t
theorem rd_fin {ps : List Gs.Sup} {fs : List Nat} {i : Nat} (hi : i < ps.length) : g3F (fun i => if sY ps (List.range ps.length) - sY ps fs < yA ps i * ((ps.length : Int) - fs.length) then 1 else 2) fs ps.length i = rdG ps fs i := by
  unfold g3F rdG
  by_cases m : i ∈ fs
  · rw [if_pos m, if_pos m]
  · rw [if_neg m, if_neg m, if_pos hi]
set_option maxRecDepth 100000 in
set_option maxHeartbeats 8000000 in
theorem r_Division (A : Option Addr) (ps : List Gs.Sup) (cap : Nat) (B : Option Addr) (is : List Nat) (capB : Nat) (w : World) (h : Sups w A ps) (hI : Ints w B (ixs is)) (ho : Gs.okA ps = true) (hn : ps.length ≤ 48) (hm : is.length ≤ ps.length) (hs : ∀ i ∈ is, i < ps.length) :
    Calls Try.prog 26 #[.slice A ps.length cap, .slice B is.length capB] w fun e w' => ∃ g : Nat, e = .returned (.slice (some ⟨g, 0, none⟩) ps.length ps.length) ∧ Bx w' g (gL ps.length (rdG ps is)) ∧ w.heap.size ≤ g ∧ Up w w' := by
  have HA := hide h
  have HI := hide hI
  have HY := hide (fun k (hk : k < is.length) => (⟨hs is[k] (List.getElem_mem hk), yA_bd ho (hs is[k] (List.getElem_mem hk)), sY_take ps hk⟩ : _ ∧ _ ∧ _))
  have HB := hide (fun k => sY_bd ho (is.take k) (fun i hi => hs i (List.mem_of_mem_take hi)))
  have HR0 := hide (fun k (hk : k < ps.length) => (⟨yA_bd ho hk, by have t := sY_take ps (is := List.range ps.length) (k := k) (by simp; exact hk); simp only [List.getElem_range] at t; exact t⟩ : (-131072 ≤ yA ps k ∧ yA ps k ≤ 131072) ∧ sY ps ((List.range ps.length).take (k + 1)) = sY ps ((List.range ps.length).take k) + yA ps k))
  have HRB := hide (fun k => sY_bd ho ((List.range ps.length).take k) (fun i hi => by have := List.mem_of_mem_take hi; simpa using this))
  have HD := hide (fun i hi => rd_fin (ps := ps) (fs := is) (i := i) hi)
  clear h hI hs
  have hmk : ∀ (n : Nat), n ≤ 48 → ∀ W : World, (Instr.makeSlice 26 (.int .i64 (n : Int)) (.int .i64 (n : Int))).run Try.prog W = .ok (.slice (some ⟨W.heap.size, 0, none⟩) n n) (W.alloc (.cells (gL n fun _ => 0).toArray 3)) := fun n hn W => by
    rw [← made_gL]
    exact run_make_row' 26 3 (.int .i64 0) 8 Try.underlying26 info_intD rfl .i64 .i64 n (by omega) (by omega) W
  have HMk := hide (hmk ps.length hn)
  clear hmk
  obtain ⟨RG, hRG⟩ : ∃ RG, List.range ps.length = RG := ⟨_, rfl⟩
  have hRl : RG.length = ps.length := by rw [← hRG]; simp
  rw [hRG] at HR0 HRB HD
  clear hRG
  obtain ⟨n, hN⟩ : ∃ n, ps.length = n := ⟨_, rfl⟩
  obtain ⟨m, hM⟩ : ∃ m, is.length = m := ⟨_, rfl⟩
  rw [hN] at hn hm HMk HR0 HD hRl ⊢
  rw [hM] at hm HD ⊢
  have HN := hide hN
  have HM := hide hM
  have HRl := hide hRl
  clear hN hM hRl
  have hmk := unhide HMk
  have w0 : IntKind.i64.wrap ((n : Int) - (m : Int)) = (n : Int) - (m : Int) := IntWalk.i64_in _ ⟨by omega, by omega⟩
  go_enter Try.func26, Try.ntmps26
  go_upto_region 2 with fail
  refine at_wp (fun W1 hW1 => ?_)
  have U1 : Up w W1 := by rw [hW1]; exact (by repeat' (first | (with_reducible exact up_refl _) | (with_reducible assumption) | (with_reducible refine up_alloc ?_ _) | (with_reducible refine up_drewN ?_ _) | (with_reducible refine up_drew ?_) | (with_reducible refine up_set ?_ (by first | (simp; done) | (simp; omega) | omega) _) | (refine up_trans ?_ (by with_reducible assumption))))
  have R1 : Bx W1 w.heap.size (gL n fun _ => 0) := by rw [hW1]; exact bx_new w _ 3
  clear hW1 hmk HMk
  obtain ⟨G, hG⟩ : ∃ G, w.heap.size = G := ⟨_, rfl⟩
  have zg : w.heap.size ≤ G := by omega
  rw [hG] at R1 ⊢
  have HGG := hide hG
  clear hG
  have R2 : Bx W1 G (gL n (g1F 0)) := by
    rw [gL_congr (H := fun _ => 0) (fun i _ => by simp [g1F])]; exact R1
  clear R1
  go_wp2_with fail
  clear w0
  obtain ⟨c, hc⟩ : ∃ c : Int, (n : Int) - (m : Int) = c := ⟨_, rfl⟩
  have hcb : 0 ≤ c ∧ c ≤ 48 := by omega
  rw [hc] at HD ⊢
  clear hc
  go_loopw [6, 8] (fun s6 s8 wr => ∃ k : Nat, k ≤ n ∧ s8 = .int .i64 k ∧ s6 = .int .i64 (sY ps (RG.take k)) ∧ Up w wr ∧ Bx wr G (gL n (g1F k))) (fun _ s8 _ => n - (intOf s8).toNat)
  case atStart => exact ⟨0, by omega, rfl, rfl, U1, R2⟩
  case round =>
    obtain ⟨k, hk, rfl, rfl, hu, hR⟩ := hrel
    by_cases hlt : k < n
    · obtain ⟨hyb, hst⟩ := unhide HR0 k hlt
      have hb1 := unhide HRB k
      rw [List.length_take, Nat.min_eq_left (by rw [unhide HRl]; omega)] at hb1
      have hin : k < ps.length := by rw [unhide HN]; exact hlt
      rcases sups_up (unhide HA) hu with hnil | ⟨b, off, rfl, hc⟩
      · rw [hnil] at hin; simp at hin
      obtain ⟨d0, d1, d2, d3, d4, d5⟩ := hc k hin
      rw [← yA_at hin] at d1
      clear hc d0 d2 d3 d4 d5
      obtain ⟨rc1, rc2⟩ := gL_at hR hlt
      have HR := hide hR
      have HS := hide hst
      generalize g1F k k = vo at rc1
      generalize yA ps k = y at *
      generalize sY ps (RG.take k) = S at *
      have hwk : IntKind.i64.wrap ((k : Int) + 1) = (k : Int) + 1 := IntWalk.i64_in _ ⟨by omega, by omega⟩
      have hws : IntKind.i64.wrap (S + y) = S + y := IntWalk.i64_in _ ⟨by omega, by omega⟩
      clear hst hyb hb1 hR
      go_wp2_with fail
      go_roundw
      case rel =>
        refine ⟨k + 1, by omega, by first | rfl | trivial | go_num, by rw [unhide HS], up_set hu zg _, ?_⟩
        have t := bx_set (unhide HR) k (.int .i64 2)
        rw [gL_set, gL_congr (fun i' _ => g1_step i')] at t
        exact t
      case measure => simp [intOf]; omega
    · obtain rfl : k = n := by omega
      have hT : RG.take k = RG := List.take_of_length_le (by rw [unhide HRl]; omega)
      have hb1 := unhide HRB k
      rw [hT] at hb1 ⊢
      rw [unhide HRl] at hb1
      clear hT HR0 HRB
      generalize sY ps RG = SR at *
      have R3 : Bx wr G (gL k (g2F is 0)) := by
        rw [gL_congr (H := g1F k) (fun i hi => by simp [g1F, g2F, hi])]; exact hR
      clear hR R2 U1
      go_wp2_with fail
      go_loopw [6, 9] (fun s6 s9 wr => ∃ j : Nat, j ≤ m ∧ s9 = .int .i64 j ∧ s6 = .int .i64 (SR - sY ps (is.take j)) ∧ Up w wr ∧ Bx wr G (gL k (g2F is j))) (fun _ s9 _ => m - (intOf s9).toNat)
      case atStart => exact ⟨0, by omega, rfl, by simp [sY], hu, R3⟩
      case round =>
        clear R3 hu
        obtain ⟨j, hj, rfl, rfl, hu, hR⟩ := hrel
        by_cases hlt2 : j < m
        · have hl : j < is.length := by rw [unhide HM]; exact hlt2
          obtain ⟨hin, hyb, hst⟩ := unhide HY j hl
          have hb2 := unhide HB j
          rw [List.length_take, Nat.min_eq_left (by omega)] at hb2
          rcases (unhide HI) with hnil | ⟨bi, oi, rfl, hci⟩
          · have t := ixs_len is; rw [hnil] at t; simp at t; omega
          have ci0 := hci j (by rw [ixs_len]; exact hl)
          rw [ixs_at hl] at ci0
          rcases (unhide HA) with hnil | ⟨b, off, rfl, hc⟩
          · rw [hnil] at hin; simp at hin
          obtain ⟨d0, d1', d2, d3, d4, d5⟩ := hc is[j] hin
          rw [← yA_at hin] at d1'
          have lb1 : bi < w.heap.size := World.block_lt_of_cell? _ _ ci0
          have lb2 : b < w.heap.size := World.block_lt_of_cell? _ _ d1'
          have lb3 : bi < G := by omega
          have lb4 : b < G := by omega
          have lb5 : ¬ bi = G := by omega
          have lb6 : ¬ b = G := by omega
          have ci := up_cell hu ci0
          have d1 := up_cell hu d1'
          clear hc hci d0 d2 d3 d4 d5 ci0 d1' lb1 lb2
          have HSt := hide (fun i' => g2_step hl i')
          obtain ⟨i, hi⟩ : ∃ i, is[j] = i := ⟨_, rfl⟩
          rw [hi] at hin hyb hst ci d1 HSt
          have hin2 : i < k := by rw [← unhide HN]; exact hin
          obtain ⟨rc1, rc2⟩ := gL_at hR hin2
          have HR := hide hR
          have HS := hide hst
          generalize g2F is j i = vo at rc1
          generalize yA ps i = y at *
          generalize sY ps (is.take j) = S at *
          have hwk : IntKind.i64.wrap ((j : Int) + 1) = (j : Int) + 1 := IntWalk.i64_in _ ⟨by omega, by omega⟩
          have hws : IntKind.i64.wrap (SR - S - y) = SR - S - y := IntWalk.i64_in _ ⟨by omega, by omega⟩
          have hws2 : SR - (S + y) = SR - S - y := by omega
          have HW2 := hide hws2
          have g1 : (0 : Int) ≤ i := by omega
          have g2 : (i : Int) < k := by omega
          clear hst hi hyb hb2 hR hws2 hb1
          obtain ⟨D, hD⟩ : ∃ D, SR - S = D := ⟨_, rfl⟩
          rw [hD] at hws HW2 ⊢
          clear hD
          go_wp2_with fail
          go_roundw
          case rel =>
            refine ⟨j + 1, by omega, by first | rfl | trivial | go_num, by rw [unhide HS, unhide HW2], up_set hu zg _, ?_⟩
            have t := bx_set (unhide HR) i (.int .i64 0)
            rw [gL_set, gL_congr (fun i' _ => unhide HSt i')] at t
            exact t
          case measure => simp [intOf]; omega
        · obtain rfl : j = m := by omega
          have hT : is.take j = is := List.take_of_length_le (by rw [unhide HM]; omega)
          have hb2 := unhide HB j
          rw [hT] at hb2 ⊢
          rw [unhide HM] at hb2
          clear HY HB
          obtain ⟨S, hS⟩ : ∃ S, SR - sY ps is = S := ⟨_, rfl⟩
          rw [hS] at HD ⊢
          have hSb : -12582912 ≤ S ∧ S ≤ 12582912 := by omega
          clear hb1 hb2 hS
          have R4 : Bx wr G (gL k (g3F (fun i => if S < yA ps i * c then 1 else 2) is 0)) := by
            rw [gL_congr (H := g2F is j) (fun i hi => by unfold g2F g3F; rw [hT]; simp)]; exact hR
          clear hR hT
          go_wp2_with fail
          go_loopw [10] (fun s10 wr => ∃ i : Nat, i ≤ k ∧ s10 = .int .i64 i ∧ Up w wr ∧ Bx wr G (gL k (g3F (fun i => if S < yA ps i * c then 1 else 2) is i))) (fun s10 _ => k - (intOf s10).toNat)
          case atStart => exact ⟨0, by omega, rfl, hu, R4⟩
          case round =>
            clear R4 hu
            obtain ⟨i, hi, rfl, hu, hR⟩ := hrel
            by_cases hlt3 : i < k
            · have hin : i < ps.length := by rw [unhide HN]; exact hlt3
              rcases sups_up (unhide HA) hu with hnil | ⟨b, off, rfl, hc⟩
              · rw [hnil] at hin; simp at hin
              obtain ⟨d0, d1, d2, d3, d4, d5⟩ := hc i hin
              rw [← yA_at hin] at d1
              have hyb := yA_bd ho hin
              clear hc d0 d2 d3 d4 d5
              obtain ⟨rc1, rc2⟩ := gL_at hR hlt3
              have hv : g3F (fun i => if S < yA ps i * c then 1 else 2) is i i = if i ∈ is then 0 else 2 := by unfold g3F; simp
              rw [hv] at rc1
              have HR := hide hR
              obtain ⟨y, hy⟩ : ∃ y, yA ps i = y := ⟨_, rfl⟩
              rw [hy] at hyb d1
              have hm1 : -6291456 ≤ y * c ∧ y * c ≤ 6291456 := by
                have a := Int.mul_le_mul_of_nonneg_right hyb.2 hcb.1
                have b := Int.mul_le_mul_of_nonneg_right hyb.1 hcb.1
                omega
              have hwk : IntKind.i64.wrap ((i : Int) + 1) = (i : Int) + 1 := IntWalk.i64_in _ ⟨by omega, by omega⟩
              have hwm : IntKind.i64.wrap (y * c) = y * c := IntWalk.i64_in _ ⟨by omega, by omega⟩
              have HYy := hide hy
              clear hy hyb hm1 hR hv
              by_cases m1 : i ∈ is
              · rw [if_pos m1] at rc1
                have HV := hide (fun j' => g3_keep (v := fun i => if S < yA ps i * c then 1 else 2) (fs := is) (k := i) (.inl m1) j')
                clear m1
                go_wp2_with fail
                go_roundw
                case rel => exact ⟨i + 1, by omega, by first | rfl | trivial | go_num, hu, by rw [← gL_congr (fun j' _ => unhide HV j')]; exact unhide HR⟩
                case measure => simp [intOf]; omega
              · rw [if_neg m1] at rc1
                have M1 := hide m1
                clear m1
                by_cases cc : S < y * c
                · have HV := hide (fun j' => (g3_step (v := fun i => if S < yA ps i * c then 1 else 2) (fs := is) (k := i) (unhide M1) j'))
                  go_wp2_with fail
                  go_roundw
                  case rel =>
                    refine ⟨i + 1, by omega, by first | rfl | trivial | go_num, up_set hu zg _, ?_⟩
                    have t := bx_set (unhide HR) i (.int .i64 1)
                    rw [gL_set, gL_congr (fun j' _ => (by have t := unhide HV j'; simp only [unhide HYy, if_pos cc] at t; exact t))] at t
                    exact t
                  case measure => simp [intOf]; omega
                · have hd : decide (S < y * c) = false := decide_eq_false cc
                  have HV := hide (fun j' => g3_keep (v := fun i => if S < yA ps i * c then 1 else 2) (fs := is) (k := i) (.inr (by simp only [unhide HYy, if_neg cc])) j')
                  go_wp2_with fail
                  go_roundw
                  case rel => exact ⟨i + 1, by omega, by first | rfl | trivial | go_num, hu, by rw [← gL_congr (fun j' _ => unhide HV j')]; exact unhide HR⟩
                  case measure => simp [intOf]; omega
            · obtain rfl : i = k := by omega
              have HF := hide (show Bx wr G (gL i (rdG ps is)) by rw [← gL_congr (fun j' hj' => unhide HD j' hj')]; exact hR)
              clear hR
              go_wp2_with fail
              go_ret
              exact ⟨G, rfl, unhide HF, zg, hu⟩
end Go.Proofs.Ytepblnnebeglbaa
