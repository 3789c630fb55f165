/- The sum of two hulls, as the program makes it: the walk. -/
import Derived.Test.YtihckoenfklhpaaSums
namespace Go.Proofs.Ytihckoenfklhpaa
open Go.RowKit Go.Proofs.Gn
theorem own_slLen {W : World} {B e n : Nat} {v : Value} {ps : Pl} (h : W.ownsRow B e 2 v n (cellsPl ps)) (h0 : 0 < n) : slLen v = n := by
  obtain ⟨g, cap, rfl, _⟩ := own_some h h0
  rfl
set_option maxRecDepth 100000 in
set_option maxHeartbeats 8000000 in
theorem p_sums (ba oa bb ob : Nat) (a b : Pl) (ca cb : Nat) (w : World)
    (hca : ∀ k (h : k < a.length), w.cell? ⟨ba, oa + k * 2, none⟩ = some (.int .i64 a[k].1) ∧ w.cell? ⟨ba, oa + k * 2 + 1, none⟩ = some (.int .i64 a[k].2))
    (hcb : ∀ k (h : k < b.length), w.cell? ⟨bb, ob + k * 2, none⟩ = some (.int .i64 b[k].1) ∧ w.cell? ⟨bb, ob + k * 2 + 1, none⟩ = some (.int .i64 b[k].2))
    (a0 : 0 < a.length) (b0 : 0 < b.length) (la : a.length ≤ 1000) (lb : b.length ≤ 1000) (hba : BdL a) (hbb : BdL b) (K : Nat) (hw : Gx.Walk a b K) :
    Calls Try.prog 45 #[.slice (some ⟨ba, oa, none⟩) a.length ca, .slice (some ⟨bb, ob, none⟩) b.length cb] w fun e w' => ∃ v, e = .returned v ∧ w'.ownsRow w.heap.size 24 2 v (max 1 K) (cellsPl (Gx.spL a b (max 1 K))) ∧ Up w w' := by
  have nsa : Gx.ns a ≤ a.length := by unfold Gx.ns; split <;> omega
  have nsb : Gx.ns b ≤ b.length := by unfold Gx.ns; split <;> omega
  have hK := hw.most
  have PA : ∀ W, Calls Try.prog 75 #[.slice (some ⟨ba, oa, none⟩) a.length ca] W fun e w' => e = .returned (.int .i64 (Gx.ns a : Nat)) ∧ W = w' := fun W => p_sidesP _ a ca (by omega) W
  have PB : ∀ W, Calls Try.prog 75 #[.slice (some ⟨bb, ob, none⟩) b.length cb] W fun e w' => e = .returned (.int .i64 (Gx.ns b : Nat)) ∧ W = w' := fun W => p_sidesP _ b cb (by omega) W
  have SA : ∀ (i : Nat) (W : World), Up w W → i ≤ 200000 → Calls Try.prog 77 #[.slice (some ⟨ba, oa, none⟩) a.length ca, .int .i64 i] W fun e w' => e = .returned (pt (Gx.sd a i).1 (Gx.sd a i).2) ∧ Up W w' := fun i W hu hi => p_side ba oa a ca i W (fun k h => ⟨up_cell hu (hca k h).1, up_cell hu (hca k h).2⟩) a0 (by omega) hba hi
  have SB : ∀ (i : Nat) (W : World), Up w W → i ≤ 200000 → Calls Try.prog 77 #[.slice (some ⟨bb, ob, none⟩) b.length cb, .int .i64 i] W fun e w' => e = .returned (pt (Gx.sd b i).1 (Gx.sd b i).2) ∧ Up W w' := fun i W hu hi => p_side bb ob b cb i W (fun k h => ⟨up_cell hu (hcb k h).1, up_cell hu (hcb k h).2⟩) b0 (by omega) hbb hi
  obtain ⟨x0, x1⟩ := pts_g hca a0
  obtain ⟨y0, y1⟩ := pts_g hcb b0
  have bx := bdL_get hba a0
  have b_y := bdL_get hbb b0
  have e0 : Gx.sp a b 0 = ((Gx.g a 0).1 + (Gx.g b 0).1, (Gx.g a 0).2 + (Gx.g b 0).2) := by
    show Gx.ad (Gx.gc a 0) (Gx.gc b 0) = _
    rw [Gx.gc_lt a0, Gx.gc_lt b0]
    rfl
  have HCA := hide hca
  have HCB := hide hcb
  have HBA := hide hba
  have HBB := hide hbb
  have HPA := hide PA
  have HPB := hide PB
  have HSA := hide SA
  have HSB := hide SB
  have HW := hide hw
  clear hca hcb PA PB SA SB hba hbb hw
  obtain ⟨p, hp⟩ : ∃ p, a.length = p := ⟨_, rfl⟩
  obtain ⟨q, hq⟩ : ∃ p, b.length = p := ⟨_, rfl⟩
  obtain ⟨n, hn⟩ : ∃ p, Gx.ns a = p := ⟨_, rfl⟩
  obtain ⟨m, hm⟩ : ∃ p, Gx.ns b = p := ⟨_, rfl⟩
  rw [hp] at a0 la nsa HPA HSA ⊢
  rw [hq] at b0 lb nsb HPB HSB ⊢
  rw [hn] at nsa hK HPA
  rw [hm] at nsb hK HPB
  have HP := hide hp
  have HQ := hide hq
  have HN := hide hn
  have HM := hide hm
  clear hp hq hn hm
  obtain ⟨X, hX⟩ : ∃ X, Gx.g a 0 = X := ⟨_, rfl⟩
  obtain ⟨Y, hY⟩ : ∃ X, Gx.g b 0 = X := ⟨_, rfl⟩
  rw [hX] at x0 x1 bx e0
  rw [hY] at y0 y1 b_y e0
  obtain ⟨p1, p2⟩ := X
  obtain ⟨q1, q2⟩ := Y
  simp only [Nat.zero_mul, Nat.add_zero] at x0 x1 y0 y1 bx b_y e0
  have HE0 := hide e0
  obtain ⟨i0, hi, hz0, hz1, hz2⟩ := info_parts info_pt
  have HI := hide hi
  clear hX hY e0 hi
  have PP : ∀ W : World, Calls Try.prog 76 #[pt p1 p2, pt q1 q2] W fun e w' => e = .returned (pt (p1 + q1) (p2 + q2)) ∧ Up W w' := fun W => by
    unfold Bd at bx b_y
    exact p_plus p1 p2 q1 q2 W (by omega) (by omega) (by omega) (by omega)
  have HPP := hide PP
  have FU : ∀ wx : World, Up w wx → wx.cell? ⟨ba, oa, none⟩ = some (.int .i64 p1) ∧ wx.cell? ⟨ba, oa + 1, none⟩ = some (.int .i64 p2) ∧ wx.cell? ⟨bb, ob, none⟩ = some (.int .i64 q1) ∧ wx.cell? ⟨bb, ob + 1, none⟩ = some (.int .i64 q2) ∧ Up w wx := fun wx h => ⟨up_cell h x0, up_cell h x1, up_cell h y0, up_cell h y1, h⟩
  have HFU := hide FU
  clear PP FU bx b_y x0 x1 y0 y1
  have k1 : IntKind.i64.wrap ((n : Int) + (m : Int)) = (n : Int) + (m : Int) := IntWalk.i64_in _ ⟨by omega, by omega⟩
  have k2 : IntKind.i64.wrap ((n : Int) + (m : Int) + 1) = (n : Int) + (m : Int) + 1 := IntWalk.i64_in _ ⟨by omega, by omega⟩
  have k3 : (0 : Int) < (p : Int) := by omega
  have k4 : (0 : Int) < (q : Int) := by omega
  obtain ⟨M, hM⟩ : ∃ M, max 1 K = M := ⟨_, rfl⟩
  rw [hM]
  have HMM := hide hM
  clear hM
  go_enter Try.func45, Try.ntmps45
  go_wp2_with (first
    | (go_at_call 75; (with_reducible refine (unhide HPA _).mono ?_); rintro e w1 ⟨rfl, rfl⟩)
    | (go_at_call 75; (with_reducible refine (unhide HPB _).mono ?_); rintro e w1 ⟨rfl, rfl⟩)
    | (at_make; refine wpList_make_at _ rfl _ _ 22 rfl w.heap.size 24 i0 _ 2 Try.underlying22 (unhide HI) hz0 hz1 .i64 .i64 1 _ 1 (n + m + 1) rfl rfl rfl (by omega) (by omega) (by rw [hz2]; omega) (by unfold maxLen; omega) (Nat.le_refl _) ?_; intro w1 xs hown hgrow))
  obtain ⟨u, v, hbx⟩ := own_cell2 hown
  have HO := hide hown
  have HX := hide hbx
  have hu1 : Up w w1 := (Below.refl _ _).grown hgrow (Nat.le_refl _) (fun k e => by cases e)
  clear hown hbx hgrow
  go_cut [] (fun wx => wx.ownsRow w.heap.size 24 2 (.slice (some ⟨w.heap.size, 0, none⟩) 1 (n + m + 1)) 1 (cellsPl [(p1 + q1, p2 + q2)]) ∧ Up w wx)
  case first => as_aux_lemma =>
    go_region_held3 (fun wx => wx.cell? ⟨ba, oa, none⟩ = some (.int .i64 p1) ∧ wx.cell? ⟨ba, oa + 1, none⟩ = some (.int .i64 p2) ∧ wx.cell? ⟨bb, ob, none⟩ = some (.int .i64 q1) ∧ wx.cell? ⟨bb, ob + 1, none⟩ = some (.int .i64 q2) ∧ Up w wx)
      (exact unhide HFU _ (by repeat' (first | (with_reducible exact up_refl _) | (with_reducible assumption) | (with_reducible refine up_alloc ?_ _) | (with_reducible refine up_drewN ?_ _) | (with_reducible refine up_drew ?_) | (with_reducible refine up_set ?_ (by first | (simp; done) | (simp; omega) | omega) _) | (refine up_trans ?_ (by with_reducible assumption))))) ((go_at_call 76; (with_reducible refine (unhide HPP _).mono ?_); rintro e w2 ⟨rfl, hb2⟩; have B := bx_up (bx_drew (unhide HX)) hb2; have d0 := (bx2 B).1; have d1 := (bx2 B).2; have d2 := (bxf2 B).1; have d3 := (bxf2 B).2; clear B))
    go_wp2_with fail
    go_meet
    exact ⟨own_stored2 (own_up (unhide HO) (show Up w1 w2 from (by repeat' (first | (with_reducible exact up_refl _) | (with_reducible assumption) | (with_reducible refine up_alloc ?_ _) | (with_reducible refine up_drewN ?_ _) | (with_reducible refine up_drew ?_) | (with_reducible refine up_set ?_ (by first | (simp; done) | (simp; omega) | omega) _) | (refine up_trans ?_ (by with_reducible assumption)))))), (by repeat' (first | (with_reducible exact up_refl _) | (with_reducible assumption) | (with_reducible refine up_alloc ?_ _) | (with_reducible refine up_drewN ?_ _) | (with_reducible refine up_drew ?_) | (with_reducible refine up_set ?_ (by first | (simp; done) | (simp; omega) | omega) _) | (refine up_trans ?_ (by with_reducible assumption))))⟩
  case rest =>
  obtain ⟨hown, hu⟩ := hcut
  have hown0 : wc.ownsRow w.heap.size 24 2 (.slice (some ⟨w.heap.size, 0, none⟩) 1 (n + m + 1)) (0 + 1) (cellsPl (Gx.spL a b (0 + 1))) := by
    have e : Gx.spL a b (0 + 1) = [(p1 + q1, p2 + q2)] := by show [Gx.sp a b 0] = _; rw [unhide HE0]
    rw [e]
    exact hown
  have HO0 := hide hown0
  clear hown hown0 HO HX HPP HFU HE0 hu1
  obtain ⟨V, hV⟩ : ∃ V, wc = V := ⟨_, rfl⟩
  rw [hV] at HO0 hu ⊢
  clear hV
  go_wp2_with fail
  go_loopw [7, 8, 9] (fun s7 s8 s9 wr => ∃ k : Nat, k ≤ K ∧ s8 = .int .i64 (Gx.st a b k).1 ∧ s9 = .int .i64 (Gx.st a b k).2 ∧ slLen s7 = k + 1 ∧ wr.ownsRow w.heap.size 24 2 s7 (k + 1) (cellsPl (Gx.spL a b (k + 1))) ∧ Up w wr) (fun s7 _ _ _ => K + 1 - slLen s7)
  case atStart => exact ⟨0, Nat.zero_le _, rfl, rfl, rfl, unhide HO0, hu⟩
  case round =>
    clear HO0 hu
    obtain ⟨k, hk, rfl, rfl, hsl, hown, hu⟩ := hrel
    have hst := Gx.st_le a b k
    obtain ⟨g, cp, rfl, hg, hcp, hcp2⟩ := own_some hown (Nat.succ_pos _)
    have HO := hide hown
    clear hown hsl
    by_cases hlt : k < K
    · have hmore := sums_more (unhide HW) hlt
      rw [unhide HN, unhide HM] at hmore
      have hnx := st_next a b k rfl rfl
      have hsp : Gx.sp a b (k + 1) = Gx.ad (Gx.gc a (Gx.st a b (k + 1)).1) (Gx.gc b (Gx.st a b (k + 1)).2) := rfl
      rw [hnx] at hsp
      obtain ⟨i, hi⟩ : ∃ i, (Gx.st a b k).1 = i := ⟨_, rfl⟩
      obtain ⟨j, hj⟩ : ∃ i, (Gx.st a b k).2 = i := ⟨_, rfl⟩
      rw [hi, hj] at hst hmore hnx hsp ⊢
      have HNX := hide hnx
      have bs := sd_bd (unhide HBA) i
      have bt := sd_bd (unhide HBB) j
      have hcr : (0 ≤ Gx.crs (Gx.sd a i) (Gx.sd b j) ∧ Gx.crs (Gx.sd a i) (Gx.sd b j) ≤ 0 ∧ Gx.stp a b (i, j) = (i + 1, j + 1)) ∨ (0 < Gx.crs (Gx.sd a i) (Gx.sd b j) ∧ Gx.stp a b (i, j) = (i + 1, j)) ∨ (Gx.crs (Gx.sd a i) (Gx.sd b j) < 0 ∧ Gx.stp a b (i, j) = (i, j + 1)) := by
        unfold Gx.stp
        simp only
        rcases Int.lt_trichotomy (Gx.crs (Gx.sd a i) (Gx.sd b j)) 0 with c | c | c
        · right; right
          rw [if_neg (by omega), if_pos (by omega)]
          exact ⟨c, rfl⟩
        · left
          rw [if_pos (by omega), if_pos (by omega)]
          exact ⟨by omega, by omega, rfl⟩
        · right; left
          rw [if_pos (by omega), if_neg (by omega)]
          exact ⟨c, rfl⟩
      have PA : ∀ W : World, Up w W → Calls Try.prog 77 #[.slice (some ⟨ba, oa, none⟩) p ca, .int .i64 i] W fun e w' => e = .returned (pt (Gx.sd a i).1 (Gx.sd a i).2) ∧ Up W w' := fun W hW => unhide HSA i W hW (by omega)
      have PB : ∀ W : World, Up w W → Calls Try.prog 77 #[.slice (some ⟨bb, ob, none⟩) q cb, .int .i64 j] W fun e w' => e = .returned (pt (Gx.sd b j).1 (Gx.sd b j).2) ∧ Up W w' := fun W hW => unhide HSB j W hW (by omega)
      have bc := crs_bd bs.1 bs.2 bt.1 bt.2
      have PC : ∀ W : World, Calls Try.prog 44 #[pt (Gx.sd a i).1 (Gx.sd a i).2, pt (Gx.sd b j).1 (Gx.sd b j).2] W fun e w' => e = .returned (.int .i64 (Gx.crs (Gx.sd a i) (Gx.sd b j))) ∧ Up W w' := fun W =>
        p_cross (Gx.sd a i).1 (Gx.sd a i).2 (Gx.sd b j).1 (Gx.sd b j).2 W (by omega) (by omega) (by omega) (by omega)
      obtain ⟨C, hC⟩ : ∃ C, Gx.crs (Gx.sd a i) (Gx.sd b j) = C := ⟨_, rfl⟩
      rw [hC] at hcr PC
      obtain ⟨s1, hs1⟩ : ∃ s, (Gx.sd a i).1 = s := ⟨_, rfl⟩
      obtain ⟨s2, hs2⟩ : ∃ s, (Gx.sd a i).2 = s := ⟨_, rfl⟩
      obtain ⟨t1, ht1⟩ : ∃ s, (Gx.sd b j).1 = s := ⟨_, rfl⟩
      obtain ⟨t2, ht2⟩ : ∃ s, (Gx.sd b j).2 = s := ⟨_, rfl⟩
      rw [hs1, hs2] at PA PC
      rw [ht1, ht2] at PB PC
      have HPA' := hide PA
      have HPB' := hide PB
      have HPC' := hide PC
      clear hi hj hnx bs bt bc PA PB PC hC hs1 hs2 ht1 ht2
      -- the next corner
      obtain ⟨i', j', hij, hcs⟩ : ∃ i' j' : Nat, Gx.stp a b (i, j) = (i', j') ∧ ((0 ≤ C ∧ C ≤ 0 ∧ i' = i + 1 ∧ j' = j + 1) ∨ (0 < C ∧ i' = i + 1 ∧ j = j') ∨ (C < 0 ∧ i = i' ∧ j' = j + 1)) := by
        rcases hcr with ⟨c1, c2, e⟩ | ⟨c1, e⟩ | ⟨c1, e⟩
        · exact ⟨_, _, e, .inl ⟨c1, c2, rfl, rfl⟩⟩
        · exact ⟨_, _, e, .inr (.inl ⟨c1, rfl, rfl⟩)⟩
        · exact ⟨_, _, e, .inr (.inr ⟨c1, rfl, rfl⟩)⟩
      rw [hij] at hsp
      have hnx2 : Gx.st a b (k + 1) = (i', j') := (unhide HNX).trans hij
      have HNX2 := hide hnx2
      clear hcr HNX hij hnx2
      have l1 : i' % p < a.length := by rw [unhide HP]; exact Nat.mod_lt _ a0
      have l2 : j' % q < b.length := by rw [unhide HQ]; exact Nat.mod_lt _ b0
      obtain ⟨x0, x1⟩ := pts_g (unhide HCA) l1
      obtain ⟨y0, y1⟩ := pts_g (unhide HCB) l2
      have bx := bdL_get (unhide HBA) l1
      have b_y := bdL_get (unhide HBB) l2
      have e1 : Gx.gc a i' = Gx.g a (i' % p) := by unfold Gx.gc; rw [unhide HP]
      have e2 : Gx.gc b j' = Gx.g b (j' % q) := by unfold Gx.gc; rw [unhide HQ]
      rw [e1, e2] at hsp
      obtain ⟨X, hX⟩ : ∃ X, Gx.g a (i' % p) = X := ⟨_, rfl⟩
      obtain ⟨Y, hY⟩ : ∃ X, Gx.g b (j' % q) = X := ⟨_, rfl⟩
      rw [hX] at x0 x1 bx hsp
      rw [hY] at y0 y1 b_y hsp
      obtain ⟨u1, u2⟩ := X
      obtain ⟨v1, v2⟩ := Y
      have hsp2 : Gx.sp a b (k + 1) = (u1 + v1, u2 + v2) := hsp
      have HSP := hide hsp2
      simp only at x0 x1 y0 y1 bx b_y
      obtain ⟨L, hM⟩ : ∃ M, i' % p = M := ⟨_, rfl⟩
      obtain ⟨N, hN'⟩ : ∃ M, j' % q = M := ⟨_, rfl⟩
      rw [hM] at x0 x1 l1
      rw [hN'] at y0 y1 l2
      rw [unhide HP] at l1
      rw [unhide HQ] at l2
      have PP : ∀ W : World, Calls Try.prog 76 #[pt u1 u2, pt v1 v2] W fun e w' => e = .returned (pt (u1 + v1) (u2 + v2)) ∧ Up W w' := fun W => by
        unfold Bd at bx b_y
        exact p_plus u1 u2 v1 v2 W (by omega) (by omega) (by omega) (by omega)
      have HPP := hide PP
      have FU : ∀ wx : World, Up w wx → wx.cell? ⟨ba, oa + L * 2, none⟩ = some (.int .i64 u1) ∧ wx.cell? ⟨ba, oa + L * 2 + 1, none⟩ = some (.int .i64 u2) ∧ wx.cell? ⟨bb, ob + N * 2, none⟩ = some (.int .i64 v1) ∧ wx.cell? ⟨bb, ob + N * 2 + 1, none⟩ = some (.int .i64 v2) ∧ Up w wx := fun wx h => ⟨up_cell h x0, up_cell h x1, up_cell h y0, up_cell h y1, h⟩
      have HFU := hide FU
      have t1' : (i' : Int).tmod (p : Int) = (L : Int) := by rw [← hM]; rfl
      have t2' : (j' : Int).tmod (q : Int) = (N : Int) := by rw [← hN']; rfl
      have T1 := hide t1'
      have T2 := hide t2'
      have k5 : (L : Int) < (p : Int) := by omega
      have k6 : (N : Int) < (q : Int) := by omega
      have k7 : ¬ p = 0 := by omega
      have k8 : ¬ q = 0 := by omega
      have w1' : IntKind.i64.wrap ((i : Int) + 1) = (i : Int) + 1 := IntWalk.i64_in _ ⟨by omega, by omega⟩
      have w2' : IntKind.i64.wrap ((j : Int) + 1) = (j : Int) + 1 := IntWalk.i64_in _ ⟨by omega, by omega⟩
      have hkn : k + 1 + 1 ≤ 4000 := by omega
      clear hsp hsp2 e1 e2 hX hY hM hN' PP FU bx b_y x0 x1 y0 y1 t1' t2'
      go_upto_region 5 with fail
      go_cut [36] (fun s wx => s = .bool true ∧ wx = wr)
      case first => as_aux_lemma =>
        rcases Nat.lt_or_ge i n with hi' | hi'
        · have h1 : (i : Int) < (n : Int) := by omega
          go_wp2_with fail
          go_meet
          exact ⟨rfl, rfl⟩
        · have h1 : decide (i < n) = false := by simp; omega
          have h2 : (j : Int) < (m : Int) := by omega
          go_wp2_with fail
          go_meet
          exact ⟨rfl, rfl⟩
      case rest =>
      obtain ⟨rfl, hwc⟩ := hcut
      rw [hwc]
      clear hwc
      go_upto_if 45 with (first
        | (go_at_call 77; (with_reducible refine (unhide HPA' _ (by repeat' (first | (with_reducible exact up_refl _) | (with_reducible assumption) | (with_reducible refine up_alloc ?_ _) | (with_reducible refine up_drewN ?_ _) | (with_reducible refine up_drew ?_) | (with_reducible refine up_set ?_ (by first | (simp; done) | (simp; omega) | omega) _) | (refine up_trans ?_ (by with_reducible assumption))))).mono ?_); rintro e w1 ⟨rfl, hb1⟩)
        | (go_at_call 77; (with_reducible refine (unhide HPB' _ (by repeat' (first | (with_reducible exact up_refl _) | (with_reducible assumption) | (with_reducible refine up_alloc ?_ _) | (with_reducible refine up_drewN ?_ _) | (with_reducible refine up_drew ?_) | (with_reducible refine up_set ?_ (by first | (simp; done) | (simp; omega) | omega) _) | (refine up_trans ?_ (by with_reducible assumption))))).mono ?_); rintro e w2 ⟨rfl, hb2⟩)
        | (go_at_call 44; (with_reducible refine (unhide HPC' _).mono ?_); rintro e w3 ⟨rfl, hb3⟩))
      have hr3 : Up wr w3 := (by repeat' (first | (with_reducible exact up_refl _) | (with_reducible assumption) | (with_reducible refine up_alloc ?_ _) | (with_reducible refine up_drewN ?_ _) | (with_reducible refine up_drew ?_) | (with_reducible refine up_set ?_ (by first | (simp; done) | (simp; omega) | omega) _) | (refine up_trans ?_ (by with_reducible assumption))))
      have hw3 : Up w w3 := (by repeat' (first | (with_reducible exact up_refl _) | (with_reducible assumption) | (with_reducible refine up_alloc ?_ _) | (with_reducible refine up_drewN ?_ _) | (with_reducible refine up_drew ?_) | (with_reducible refine up_set ?_ (by first | (simp; done) | (simp; omega) | omega) _) | (refine up_trans ?_ (by with_reducible assumption))))
      clear hb1 hb2 hb3
      go_cut [8] (fun s wx => s = .int .i64 i' ∧ wx = w3)
      case first => as_aux_lemma =>
        rcases hcs with ⟨c1, c2, rfl, rfl⟩ | ⟨c1, rfl, rfl⟩ | ⟨c1, rfl, rfl⟩
        · go_wp2_with fail
          go_meet
          exact ⟨by go_num, rfl⟩
        · have g1 : (0 : Int) ≤ C := by omega
          go_wp2_with fail
          go_meet
          exact ⟨by go_num, rfl⟩
        · have g1 : decide (0 ≤ C) = false := decide_eq_false (by omega)
          go_wp2_with fail
          go_meet
          exact ⟨rfl, rfl⟩
      case rest =>
      obtain ⟨rfl, hwc⟩ := hcut
      rw [hwc]
      clear hwc
      go_upto_if 49 with fail
      go_cut [9] (fun s wx => s = .int .i64 j' ∧ wx = w3)
      case first => as_aux_lemma =>
        rcases hcs with ⟨c1, c2, rfl, rfl⟩ | ⟨c1, rfl, rfl⟩ | ⟨c1, rfl, rfl⟩
        · go_wp2_with fail
          go_meet
          exact ⟨by go_num, rfl⟩
        · have g1 : decide (C ≤ 0) = false := decide_eq_false (by omega)
          go_wp2_with fail
          go_meet
          exact ⟨rfl, rfl⟩
        · have g1 : C ≤ (0 : Int) := by omega
          go_wp2_with fail
          go_meet
          exact ⟨by go_num, rfl⟩
      case rest =>
      obtain ⟨rfl, hwc⟩ := hcut
      rw [hwc]
      clear hwc
      go_wp2_with fail
      have t1' := unhide T1
      have t2' := unhide T2
      clear hmore hcs HPA' HPB' HPC' T1 T2
      go_region_held3 (fun wx => wx.cell? ⟨ba, oa + L * 2, none⟩ = some (.int .i64 u1) ∧ wx.cell? ⟨ba, oa + L * 2 + 1, none⟩ = some (.int .i64 u2) ∧ wx.cell? ⟨bb, ob + N * 2, none⟩ = some (.int .i64 v1) ∧ wx.cell? ⟨bb, ob + N * 2 + 1, none⟩ = some (.int .i64 v2) ∧ Up w wx)
        (exact unhide HFU _ (by repeat' (first | (with_reducible exact up_refl _) | (with_reducible assumption) | (with_reducible refine up_alloc ?_ _) | (with_reducible refine up_drewN ?_ _) | (with_reducible refine up_drew ?_) | (with_reducible refine up_set ?_ (by first | (simp; done) | (simp; omega) | omega) _) | (refine up_trans ?_ (by with_reducible assumption))))) (first
          | (go_at_call 76; (with_reducible refine (unhide HPP _).mono ?_); rintro e w4 ⟨rfl, hb4⟩)
          | ((refine step_append_mine _ (by rfl) (.tmp 52) (.tmp 68) 22 (by rfl) w.heap.size 24 i0 _ 2 16 Try.underlying22 (unhide HI) hz0 hz1 hz2 rfl (Nat.zero_lt_succ _) _ (k + 1) (cellsPl (Gx.spL a b (k + 1))) (by rfl) ((own_up (unhide HO) (show Up wr w4 from (by repeat' (first | (with_reducible exact up_refl _) | (with_reducible assumption) | (with_reducible refine up_alloc ?_ _) | (with_reducible refine up_drewN ?_ _) | (with_reducible refine up_drew ?_) | (with_reducible refine up_set ?_ (by first | (simp; done) | (simp; omega) | omega) _) | (refine up_trans ?_ (by with_reducible assumption)))))).alloc _) ⟨w4.heap.size, 0, none⟩ 1 1 [.int .i64 (u1 + v1), .int .i64 (u2 + v2)] (by rfl) rfl (two_new _ _ _ _) (by intro u hu; simp at hu; rcases hu with rfl | rfl <;> rfl) (by unfold maxLen; omega) (by omega) (by have := (show Up w w4 from (by repeat' (first | (with_reducible exact up_refl _) | (with_reducible assumption) | (with_reducible refine up_alloc ?_ _) | (with_reducible refine up_drewN ?_ _) | (with_reducible refine up_drew ?_) | (with_reducible refine up_set ?_ (by first | (simp; done) | (simp; omega) | omega) _) | (refine up_trans ?_ (by with_reducible assumption))))).size; simp; omega) ?_; intro v' w5 hown' hgrow; have hU5 : Up w w5 := own_grow ((own_up (unhide HO) (show Up wr w4 from (by repeat' (first | (with_reducible exact up_refl _) | (with_reducible assumption) | (with_reducible refine up_alloc ?_ _) | (with_reducible refine up_drewN ?_ _) | (with_reducible refine up_drew ?_) | (with_reducible refine up_set ?_ (by first | (simp; done) | (simp; omega) | omega) _) | (refine up_trans ?_ (by with_reducible assumption)))))).alloc (.cells #[.int .i64 (u1 + v1), .int .i64 (u2 + v2)] 24)) (Nat.le_refl _) (show Up w _ from (by repeat' (first | (with_reducible exact up_refl _) | (with_reducible assumption) | (with_reducible refine up_alloc ?_ _) | (with_reducible refine up_drewN ?_ _) | (with_reducible refine up_drew ?_) | (with_reducible refine up_set ?_ (by first | (simp; done) | (simp; omega) | omega) _) | (refine up_trans ?_ (by with_reducible assumption))))) hgrow)))
      have R1 := spL_own (unhide HSP) hown'
      have R2 := own_slLen R1 (Nat.succ_pos _)
      have HR1 := hide R1
      have HR2 := hide R2
      clear R1 R2 hown' hgrow
      go_wp2_with fail
      go_roundw
      case rel => exact ⟨k + 1, by omega, by rw [unhide HNX2], by rw [unhide HNX2], unhide HR2, unhide HR1, hU5⟩
      case measure => rw [unhide HR2]; simp only [slLen]; omega
    · obtain rfl : k = K := by omega
      have hov := (unhide HW).over
      unfold Gx.Over at hov
      rw [unhide HN, unhide HM] at hov
      obtain ⟨i, hi⟩ : ∃ i, (Gx.st a b k).1 = i := ⟨_, rfl⟩
      obtain ⟨j, hj⟩ : ∃ i, (Gx.st a b k).2 = i := ⟨_, rfl⟩
      rw [hi, hj] at hst hov ⊢
      have hM := unhide HMM
      have hMk : M ≤ k + 1 := by omega
      have hown := own_prefix (unhide HO) hMk
      rw [cellsPl_take, spL_take hMk] at hown
      have HO2 := hide hown
      have h1 : decide (i < n) = false := by simp; omega
      have h2 : decide (j < m) = false := by simp; omega
      have w1' : IntKind.i64.wrap (((k + 1 : Nat) : Int) - 1) = (k : Int) := by rw [IntWalk.i64_in _ ⟨by omega, by omega⟩]; omega
      have r1 := fun (ts : Array TypeId) (t : TypeId) (W : World) => (show (Builtin.max_ ts t #[.int .i64 1, .int .i64 (k : Int)]).run Try.prog W = .ok (.int .i64 (M : Int)) W by
        rw [run_max_int2]
        have : (if (k : Int) > 1 then (k : Int) else 1) = (M : Int) := by split <;> omega
        rw [this])
      have h3 : (M : Int) ≤ (cp : Int) := by omega
      have h4 : (0 : Int) ≤ (M : Int) := by omega
      clear hown hi hj hM hov hst HO HCA HCB HBA HBB HSA HSB HPA HPB HW HP HQ
      go_wp2_with fail
      go_ret
      exact ⟨_, rfl, unhide HO2, hu⟩
end Go.Proofs.Ytihckoenfklhpaa
