/- Whether a piece stands: load.stands. -/
import Derived.Test.YtdehnokcjnbjoaaGreatStd
import Derived.Test.YtdehnokcjnbjoaaGreatLdG
namespace Go.Proofs.YtdehnokcjnbjoaaGreat
open Go.RowKit Go.Proofs.Gn
attribute [local go_sem] Oper.semAt_some
set_option linter.unusedVariables false
set_option maxRecDepth 100000 in
set_option maxHeartbeats 16000000 in
theorem p_stands (A : Option Addr) (ps : List Pce) (cA i : Nat) (w : World) (hA : Pcs w A ps) (hok : okPs ps = true) (hi : i < ps.length) (hn : ps.length ≤ 32) (hms : mas ps ≤ 16777216) :
    Calls Tryz.prog 74 #[.slice A ps.length cA, .int .i64 i] w fun e w' => e = .returned (.bool (stB ps i)) ∧ Up w w' := by
  have HBe := hide (fun W (hW : Up w W) => p_below A ps cA i W (pcs_up hA hW) hok hi (by omega))
  have HHe := hide (fun W (hW : Up w W) => p_heaped A ps cA i W (pcs_up hA hW) hok hi hn)
  have HOu := hide (fun W A' c' (hp : Pcs W A' (ctL ps i)) => p_outlineW A' (ctL ps i) c' W hp (ctL_wd hok hi) (by unfold ctL; rw [List.length_map]; have := rsL_len ps i; omega))
  have HBa := hide (fun W A' c' B' d' (h1 : Pts W A' (hlL (cnA (ctL ps i)))) (h2 : Pcs W B' (hpL ps i)) => p_balances A' (hlL (cnA (ctL ps i))) c' B' (hpL ps i) d' W h1 h2 (hpL_ok hok hi) (by have := hpL_len i (show 1 ≤ ps.length by omega); omega) (by
      have q := hullF_len (cnA (ctL ps i))
      rw [cnA_len] at q
      have : (ctL ps i).length ≤ 32 := by unfold ctL; rw [List.length_map]; have := rsL_len ps i; omega
      unfold hlL
      split
      · simp
      · omega) (fun q hq => by
      unfold hlL at hq
      split at hq
      · simp at hq
      · rename_i hne
        exact ctL_nr hok hi q ((Gx.hullF_poly hne).2.2 q hq)) (hpL_mas hok hms i))
  have HSt := hide (show stB ps i = if (ps.getD i pc0).z = 0 then true else if cnA (ctL ps i) = [] then false else blB (hlL (cnA (ctL ps i))) (mo fX (hpL ps i)) (mo fY (hpL ps i)) (2 * mas (hpL ps i)) from rfl)
  have HRl := hide (fun k (h : k < (rsL ps i).length) => rsL_at h)
  have HGi := hide (show ps.getD i pc0 = ps[i] by rw [List.getD_eq_getElem?_getD, List.getElem?_eq_getElem hi]; rfl)
  have HCt := hide (fun k (hk : k < ps.length) W => p_contact ps[i] ps[k] ((okP_iff _).1 (okPs_get hok hi)) ((okP_iff _).1 (okPs_get hok hk)) W)
  have HT := hide (fun k (hk : k < (rsL ps i).length) => map_take (fun k => ctP (ps.getD i pc0) (ps.getD k.toNat pc0)) (rsL ps i) hk)
  have HG := hide (fun k (hk : k < ps.length) => (show ps.getD k pc0 = ps[k] by rw [List.getD_eq_getElem?_getD, List.getElem?_eq_getElem hk]; rfl))
  have HE := hide (show ((rsL ps i).take (rsL ps i).length).map (fun k => ctP (ps.getD i pc0) (ps.getD k.toNat pc0)) = ctL ps i by rw [List.take_length]; rfl)
  have HLn := hide (show (ctL ps i).length = (rsL ps i).length by unfold ctL; rw [List.length_map])
  have HN32 := hide (show (rsL ps i).length ≤ 32 by have := rsL_len ps i; omega)
  have HX : Hid (∀ W b v (ho : W.ownsRow b 75 7 v (ctL ps i).length (cellsPc (ctL ps i))), ∃ A' c', v = .slice A' (ctL ps i).length c' ∧ Pcs W A' (ctL ps i)) := hide (fun W b v ho => own_pcs ho)
  obtain ⟨b, off, rfl, hc⟩ := hA.resolve_left (by intro e; rw [e] at hi; simp at hi)
  have HCk := hide hc
  have HCi := hide (hc i hi)
  have HGz := hide (show (ps.getD i pc0).z = ps[i].z by rw [unhide HGi])
  obtain ⟨n, hnn⟩ : ∃ n, ps.length = n := ⟨_, rfl⟩
  have HNN := hide hnn
  rw [hnn] at hi hn HBe HHe ⊢
  generalize stB ps i = V at *
  obtain ⟨i0', hinf, hz0, hz1, hz2⟩ := info_parts info_pc
  have HI := hide hinf
  clear hc hok hnn hinf hA hms
  have j0 : (0 : Int) ≤ (i : Int) := by omega
  have j1 : (i : Int) < (n : Int) := by omega
  have j3 : (i : Int).toNat = i := by omega
  obtain ⟨a0, a1, a2, a3, a4, a5, a6⟩ := unhide HCi
  generalize hz : ps[i].z = z at *
  by_cases t1 : z = 0
  · have t2 : (z == 0) = true := by simp [t1]
    have hV := unhide HSt
    rw [unhide HGz, if_pos t1] at hV
    clear t1
    go_enter Tryz.func74, Tryz.ntmps74
    have hu0 := up_refl w
    go_wp2_with fail
    go_ret
    exact ⟨by first | rfl | (rw [hV]; rfl), (by repeat' (first | (with_reducible exact up_refl _) | (with_reducible assumption) | (with_reducible refine up_alloc ?_ _) | (with_reducible refine up_drewN ?_ _) | (with_reducible refine up_drew ?_) | (with_reducible refine up_set ?_ (by first | (simp; done) | (simp; omega) | omega) _) | (refine up_trans ?_ (by with_reducible assumption))))⟩
  · have t2 : (z == 0) = false := by simp [t1]
    have hV := unhide HSt
    rw [unhide HGz, if_neg t1] at hV
    have HV := hide hV
    have HZ := hide hz
    clear t1 hV hz HSt HGz
    go_enter Tryz.func74, Tryz.ntmps74
    have hu0 := up_refl w
    go_upto_region 4 with fail
    clear a0 a1 a2 a3 a4 a5 a6
    go_upto_region 5 with (go_at_call 70; (with_reducible refine (unhide HBe _ hu0).mono ?_); rintro e w1 ⟨⟨v, rfl, ho⟩, v1⟩; obtain ⟨gR, cR, rfl, hpR⟩ := own_nms ho; have HPn := hide hpR; clear ho hpR)
    generalize hrl : rsL ps i = RL at *
    generalize hctl : ctL ps i = CL at *
    generalize hhp : hpL ps i = HP at *
    obtain ⟨m, hmm⟩ : ∃ m, RL.length = m := ⟨_, rfl⟩
    have HMM := hide hmm
    have hm32 := unhide HN32
    rw [hmm] at hm32 ⊢
    clear hmm HBe hrl hctl hhp hu0
    have ow0 : w1.ownsRow w1.heap.size 75 7 (.slice none 0 0) 0 (cellsPc ((RL.take 0).map fun k => ctP (ps.getD i pc0) (ps.getD k.toNat pc0))) := World.ownsRow_nil _ _ _ _
    go_loopw [5, 20] (fun s5 s20 wr => ∃ (k : Nat) (G : Option Addr) (c : Nat), k ≤ m ∧ s20 = .int .i64 k ∧ s5 = .slice G k c ∧ wr.ownsRow w1.heap.size 75 7 s5 k (cellsPc ((RL.take k).map fun k => ctP (ps.getD i pc0) (ps.getD k.toNat pc0))) ∧ Up w1 wr) (fun _ s20 _ => m - (intOf s20).toNat)
    case atStart => exact ⟨0, none, 0, by omega, rfl, rfl, ow0, up_refl _⟩
    case round =>
      clear ow0
      obtain ⟨k, G, c, hk, rfl, rfl, ow, hu⟩ := hrel
      by_cases hlt : k < m
      · have hl : k < RL.length := by rw [unhide HMM]; exact hlt
        have hst := unhide HT k hl
        obtain ⟨v, hvl, hve⟩ := unhide HRl k hl
        have hvn : v < n := by rw [← unhide HNN]; exact hvl
        have hG := unhide HG _ hvl
        obtain ⟨g2, off2, rfl, hcn⟩ := (unhide HPn).resolve_left (by intro e; rw [e] at hl; simp at hl)
        have d0 := up_cell hu (hcn k hl)
        rw [hve] at d0 hst
        rw [show ctP (ps.getD i pc0) (ps.getD (v : Int).toNat pc0) = ctP ps[i] ps[v] by rw [show (v : Int).toNat = v by omega, hG, unhide HGi]] at hst
        have HRk := hide (unhide HCt v hvl)
        have HPv := hide (unhide HCk v hvl)
        have i0 : (0 : Int) ≤ (k : Int) := by omega
        have i1 : (k : Int) < (m : Int) := by omega
        have i3 : (k : Int).toNat = k := by omega
        have v0 : (0 : Int) ≤ (v : Int) := by omega
        have v2 : (v : Int) < (n : Int) := by omega
        have v3 : (v : Int).toNat = v := by omega
        have hwk : IntKind.i64.wrap ((k : Int) + 1) = (k : Int) + 1 := IntWalk.i64_in _ ⟨by omega, by omega⟩
        go_upto_region 7 with fail
        have OW := hide ow
        have hb4 : w1.heap.size ≤ wr.heap.size := hu.size
        have U6 := hide hu
        obtain ⟨a0, a1, a2, a3, a4, a5, a6⟩ := pceAt_up (unhide HCi) (up_trans v1 hu)
        obtain ⟨b0, b1, b2, b3, b4, b5, b6⟩ := pceAt_up (unhide HPv) (up_trans v1 hu)
        generalize ps[i] = o at *
        generalize ps[v] = p at *
        have HST := hide hst
        clear ow hst hcn d0 hu
        go_region_law (first
          | (refine step_append_atL _ rfl (.tmp 24) (.tmp 34) 22 rfl w1.heap.size 75 i0' _ 7 56 Tryz.underlying22 (unhide HI) hz0 hz1 hz2 rfl (Nat.zero_lt_succ _) _ k (cellsPc ((RL.take k).map fun k => ctP (ps.getD i pc0) (ps.getD k.toNat pc0))) rfl ((own_upN (unhide OW) (by repeat' (first | (with_reducible exact up_refl _) | (with_reducible assumption) | (with_reducible refine up_alloc ?_ _) | (with_reducible refine up_drewN ?_ _) | (with_reducible refine up_drew ?_) | (with_reducible refine up_set ?_ (by first | (simp; done) | (simp; omega) | omega) _) | (refine up_trans ?_ (by with_reducible assumption))))).alloc _) ⟨w7.heap.size, 0, none⟩ 1 1 [.int .i64 (ctP o p).x, .int .i64 (ctP o p).y, .int .i64 (ctP o p).z, .int .i64 (ctP o p).l, .int .i64 (ctP o p).w, .int .i64 (ctP o p).h, .int .i64 (ctP o p).m] rfl rfl (news_pt _ _ _) (by intro u hu; simp at hu; rcases hu with rfl | rfl | rfl | rfl | rfl | rfl | rfl <;> rfl) (by unfold maxLen; omega) (by omega) (by have := (unhide U6).size; have := u7.size; simp at this ⊢; omega) ?_; intro v' w8 hown' hgrow hat)
          | (refine step_callL _ rfl 114 #[pceV o, pceV p] (by first | (go_simp; done) | kernel_rfl) ?_; refine (unhide HRk _).mono ?_; rintro e w7 ⟨rfl, u7⟩; refine ⟨_, rfl, ?_⟩))
        all_goals
          have U7 : Up w1 w7 := up_trans (unhide U6) (up_trans (by repeat' (first | (with_reducible exact up_refl _) | (with_reducible assumption) | (with_reducible refine up_alloc ?_ _) | (with_reducible refine up_drewN ?_ _) | (with_reducible refine up_drew ?_) | (with_reducible refine up_set ?_ (by first | (simp; done) | (simp; omega) | omega) _) | (refine up_trans ?_ (by with_reducible assumption)))) u7)
          have R1 := hide (show w8.ownsRow w1.heap.size 75 7 v' (k + 1) (cellsPc ((RL.take (k + 1)).map fun k => ctP (ps.getD i pc0) (ps.getD k.toNat pc0))) by rw [unhide HST, cellsPc_snocA]; exact hown')
          have R2 := hide (show Up w1 w8 from (up_alloc U7 _).grown hgrow (up_alloc U7 _).size fun g hg => (unhide OW).lt g hg |>.1)
          obtain ⟨G5, c5', rfl⟩ : ∃ B5 c5, v' = .slice B5 (k + 1) c5 := by
            rcases hown'.2 with ⟨_, h2⟩ | ⟨g', c', cur, h1, _⟩
            · omega
            · exact ⟨_, _, h1⟩
          clear hown' hgrow hat
          go_wp2_with fail
          go_roundw
          case rel => exact ⟨k + 1, G5, c5', by omega, by first | rfl | trivial | go_num, rfl, unhide R1, unhide R2⟩
          case measure => first | (simp [intOf]; done) | (simp [intOf]; omega)
      · obtain rfl : k = m := by omega
        have i1 : ¬ (k : Int) < (k : Int) := by omega
        have hE := unhide HE
        rw [unhide HMM] at hE
        rw [hE] at ow
        have hLn := unhide HLn
        rw [unhide HMM] at hLn
        rw [← hLn] at ow
        obtain ⟨A', c', hv, hp9⟩ := unhide HX wr _ _ ow
        obtain ⟨rfl, hkc, rfl⟩ : G = A' ∧ CL.length = CL.length ∧ c = c' := by injection hv with a b c; exact ⟨a, rfl, c⟩
        rw [hLn] at HOu
        have U9 := up_trans v1 hu
        clear ow hv hE hkc
        have HH9 := hide (fun W (hW : Up wr W) => unhide HHe W (up_trans U9 hW))
        by_cases hne : cnA CL = []
        · have hV := unhide HV
          rw [if_pos hne] at hV
          rw [if_pos hne] at HOu
          clear HV
          have HVV := hide hV
          clear hV
          go_wp2_with (go_at_call 65; (with_reducible refine (unhide HOu _ _ _ hp9).mono ?_); rintro e w2 ⟨⟨v, rfl, ho⟩, v2⟩; have HO := hide ho; clear ho)
          go_ret
          have hV := unhide HVV
          exact ⟨by first | rfl | (rw [hV]; rfl), up_trans U9 v2⟩
        · have hV := unhide HV
          rw [if_neg hne] at hV
          rw [if_neg hne] at HOu
          clear HV
          have HVV := hide hV
          clear hV
          generalize blB (hlL (cnA CL)) (mo fX HP) (mo fY HP) (2 * mas HP) = VV at *
          generalize hlL (cnA CL) = HL at *
          go_upto_region 10 with (go_at_call 65; (with_reducible refine (unhide HOu _ _ _ hp9).mono ?_); rintro e w2 ⟨⟨v, rfl, ho⟩, v2⟩; obtain ⟨A2, c2, rfl, hpt⟩ := own_pts ho; clear ho)
          go_wp2_with (first
            | (go_at_call 116; (with_reducible refine (unhide HH9 _ v2).mono ?_); rintro e w3 ⟨⟨A3, c3, rfl, hpc⟩, v3⟩; have hpt3 := pts_up hpt v3)
            | (go_at_call 115; (with_reducible refine (unhide HBa _ _ _ _ _ hpt3 hpc).mono ?_); rintro e w4 ⟨rfl, v4⟩))
          go_ret
          have hV := unhide HVV
          exact ⟨by rw [hV]; rfl, up_trans U9 (up_trans v2 (up_trans v3 v4))⟩
end Go.Proofs.YtdehnokcjnbjoaaGreat
