/- The pieces whose centre has to be above what a piece rests on. -/
import Derived.Test.YtdehnokcjnbjoaaGreatCrd
import Derived.Test.YtdehnokcjnbjoaaGreatPkTurn
namespace Go.Proofs.YtdehnokcjnbjoaaGreat
open Go.RowKit Go.Proofs.Gn
attribute [local go_sem] Oper.semAt_some
set_option linter.unusedVariables false
noncomputable def cpL (ps : List Pce) (i : Nat) : List Pce := (cdN ps i).map fun k => ps.getD k pc0
noncomputable def hpL (ps : List Pce) (i : Nat) : List Pce := if mas (cpL ps i) = 0 then [{ ps.getD i pc0 with m := 1 }] else cpL ps i
theorem cpL_ok {ps : List Pce} (ho : okPs ps = true) (i : Nat) : okPs (cpL ps i) = true := by
  refine List.all_eq_true.2 fun q hq => ?_
  unfold cpL at hq
  obtain ⟨k, hk, rfl⟩ := List.mem_map.1 hq
  have h := (cdN_mem.1 hk).1
  have e : ps.getD k pc0 = ps[k] := by rw [List.getD_eq_getElem?_getD, List.getElem?_eq_getElem h]; rfl
  rw [e]
  exact List.all_eq_true.1 (show ps.all okP = true from ho) _ (List.getElem_mem h)
theorem cdN_len (ps : List Pce) (i : Nat) : (cdN ps i).length ≤ ps.length := nodup_lt _ _ ((cdN_pw ps i).imp fun h => by omega) fun u hu => (cdN_mem.1 hu).1
theorem map_take {α β : Type} (f : α → β) (l : List α) {k : Nat} (h : k < l.length) : (l.take (k + 1)).map f = (l.take k).map f ++ [f l[k]] := by
  rw [List.take_succ_eq_append_getElem h, List.map_append]
  rfl
/-- Pieces of the call's own. -/
def PcBack (l : List Pce) (w : World) (e : Ending) (w' : World) : Prop := (∃ A c, e = .returned (.slice A l.length c) ∧ Pcs w' A l) ∧ Up w w'
set_option maxRecDepth 100000 in
set_option maxHeartbeats 16000000 in
theorem p_heaped (A : Option Addr) (ps : List Pce) (cA i : Nat) (w : World) (hA : Pcs w A ps) (hok : okPs ps = true) (hi : i < ps.length) (hn : ps.length ≤ 32) :
    Calls Tryz.prog 116 #[.slice A ps.length cA, .int .i64 i] w fun e w' => PcBack (hpL ps i) w e w' := by
  unfold PcBack hpL
  have HC := hide (p_carried A ps cA i w hA hok hi (by omega))
  have HM := hide (fun W A' c' (hp : Pcs W A' (cpL ps i)) => p_mass A' (cpL ps i) c' W hp (cpL_ok hok i) (by unfold cpL; rw [List.length_map]; have := cdN_len ps i; omega))
  have HLn := hide (show (cpL ps i).length = (cdN ps i).length by unfold cpL; rw [List.length_map])
  have HN32 := hide (show (cdN ps i).length ≤ 32 by have := cdN_len ps i; omega)
  have HT := hide (fun k (hk : k < (cdN ps i).length) => map_take (fun k => ps.getD k pc0) (cdN ps i) hk)
  have HE := hide (show ((cdN ps i).take (cdN ps i).length).map (fun k => ps.getD k pc0) = cpL ps i by rw [List.take_length]; rfl)
  have HX : Hid (∀ W b v (ho : W.ownsRow b 75 7 v (cpL ps i).length (cellsPc (cpL ps i))), ∃ A' c', v = .slice A' (cpL ps i).length c' ∧ Pcs W A' (cpL ps i)) := hide (fun W b v ho => own_pcs ho)
  have HG := hide (fun k (hk : k < ps.length) => (show ps.getD k pc0 = ps[k] by rw [List.getD_eq_getElem?_getD, List.getElem?_eq_getElem hk]; rfl))
  have HLt := hide (fun k (hk : k < (cdN ps i).length) => (cdN_mem.1 (List.getElem_mem hk)).1)
  obtain ⟨b, off, rfl, hc⟩ := hA.resolve_left (by intro e; rw [e] at hi; simp at hi)
  have HCk := hide hc
  obtain ⟨n, hnn⟩ : ∃ n, ps.length = n := ⟨_, rfl⟩
  have HNN := hide hnn
  have HGi := hide (unhide HG i hi)
  rw [hnn] at hi hn HC ⊢
  have HCd : Hid (Calls Tryz.prog 72 #[.slice (some ⟨b, off, none⟩) n cA, .int .i64 i] w fun e w' => (∃ g c, e = .returned (.slice g (cdN ps i).length c) ∧ Nms w' g (inN (cdN ps i))) ∧ Up w w') := hide ((unhide HC).mono fun e w' ⟨⟨v, he, ho⟩, hu⟩ => by
    obtain ⟨g, c, rfl, hp⟩ := own_nms ho
    refine ⟨⟨g, c, ?_, hp⟩, hu⟩
    rw [he]
    unfold cdL inN
    rw [List.length_map])
  generalize hcd : cdN ps i = CD at *
  generalize hcp : cpL ps i = CP at *
  generalize hV : (if mas CP = 0 then [{ ps.getD i pc0 with m := 1 }] else CP) = V
  have HV := hide hV
  obtain ⟨i0', hinf, hz0, hz1, hz2⟩ := info_parts info_pc
  have HI := hide hinf
  clear hc hok hnn hinf hA hcd hcp HC hV
  have j0 : (0 : Int) ≤ (i : Int) := by omega
  have j1 : (i : Int) < (n : Int) := by omega
  have j3 : (i : Int).toNat = i := by omega
  go_enter Tryz.func116, Tryz.ntmps116
  go_upto_region 3 with (go_at_call 72; (with_reducible refine (unhide HCd).mono ?_); rintro e w1 ⟨⟨g, cG, rfl, hp⟩, v1⟩; have HPn := hide hp; clear hp)
  obtain ⟨m, hmm⟩ : ∃ m, CD.length = m := ⟨_, rfl⟩
  have HMM := hide hmm
  have hm32 := unhide HN32
  rw [hmm] at hm32 ⊢
  clear hmm HCd
  have ow0 : w1.ownsRow w1.heap.size 75 7 (.slice none 0 0) 0 (cellsPc ((CD.take 0).map fun k => ps.getD k pc0)) := World.ownsRow_nil _ _ _ _
  go_loopw [5, 13] (fun s5 s13 wr => ∃ (k : Nat) (G : Option Addr) (c : Nat), k ≤ m ∧ s13 = .int .i64 k ∧ s5 = .slice G k c ∧ wr.ownsRow w1.heap.size 75 7 s5 k (cellsPc ((CD.take k).map fun k => ps.getD k pc0)) ∧ Up w1 wr) (fun _ s13 _ => m - (intOf s13).toNat)
  case atStart => exact ⟨0, none, 0, by omega, rfl, rfl, ow0, up_refl _⟩
  case round =>
    clear ow0
    obtain ⟨k, G, c, hk, rfl, rfl, ow, hu⟩ := hrel
    by_cases hlt : k < m
    · have hl : k < CD.length := by rw [unhide HMM]; exact hlt
      have hst := unhide HT k hl
      have hvl := unhide HLt k hl
      have hvn : CD[k] < n := by rw [← unhide HNN]; exact hvl
      have hG := unhide HG _ hvl
      obtain ⟨g2, off2, rfl, hcn⟩ := (unhide HPn).resolve_left (by
        intro e
        have h0 : (inN CD).length = 0 := by rw [e]; rfl
        rw [inN_len] at h0
        omega)
      have d0 := up_cell hu (hcn k (by rw [inN_len]; exact hl))
      have e0 : (inN CD)[k]'(by rw [inN_len]; exact hl) = (CD[k] : Int) := by unfold inN; rw [List.getElem_map]
      rw [e0] at d0
      obtain ⟨a0, a1, a2, a3, a4, a5, a6⟩ := pceAt_up (unhide HCk _ hvl) (up_trans v1 hu)
      rw [hG] at hst
      generalize ps[CD[k]] = p at *
      generalize CD[k] = v at *
      have HST := hide hst
      have i0 : (0 : Int) ≤ (k : Int) := by omega
      have i1 : (k : Int) < (m : Int) := by omega
      have i3 : (k : Int).toNat = k := by omega
      have v0 : (0 : Int) ≤ (v : Int) := by omega
      have v2 : (v : Int) < (n : Int) := by omega
      have v3 : (v : Int).toNat = v := by omega
      have hwk : IntKind.i64.wrap ((k : Int) + 1) = (k : Int) + 1 := IntWalk.i64_in _ ⟨by omega, by omega⟩
      have OW := hide ow
      have hlo : ∀ j, (Value.slice G k c).ownBlock = some j → w1.heap.size ≤ j := fun j e => (ow.lt j e).1
      have hb4 : w1.heap.size ≤ wr.heap.size := hu.size
      clear hst ow hG hcn e0 hvl hl
      go_wp2_with (at_builtin; refine wpList_append_own_at _ rfl _ _ 22 rfl w1.heap.size 75 i0' _ 7 56 Tryz.underlying22 (unhide HI) hz0 hz1 hz2 rfl (by decide) (.slice G k c) k (cellsPc ((CD.take k).map fun k => ps.getD k pc0)) rfl ((unhide OW).alloc _) ⟨wr.heap.size, 0, none⟩ 1 1 [.int .i64 p.x, .int .i64 p.y, .int .i64 p.z, .int .i64 p.l, .int .i64 p.w, .int .i64 p.h, .int .i64 p.m] rfl rfl (news_pt wr _ _) (by intro u hu; simp at hu; rcases hu with rfl | rfl | rfl | rfl | rfl | rfl | rfl <;> rfl) (by unfold maxLen; omega) (by omega) (by simp; omega) ?_; intro v5 W5 hown hgr _ hat)
      have V5 : Up w1 W5 := (up_alloc hu _).grown hgr (up_alloc hu _).size hlo
      obtain ⟨G5, c5', rfl⟩ : ∃ B5 c5, v5 = .slice B5 (k + 1) c5 := by
        rcases hown.2 with ⟨_, h2⟩ | ⟨g', c', cur, h1, _⟩
        · omega
        · exact ⟨_, _, h1⟩
      have HO := hide hown
      clear hgr hat hown OW
      go_roundw
      case rel => exact ⟨k + 1, G5, c5', by omega, by go_num, rfl, by rw [unhide HST, cellsPc_snocA]; exact unhide HO, V5⟩
      case measure => simp [intOf]; omega
    · obtain rfl : k = m := by omega
      have i1 : ¬ (k : Int) < (k : Int) := by omega
      have hE := unhide HE
      rw [unhide HMM] at hE
      rw [hE] at ow
      have hLn := unhide HLn
      rw [unhide HMM] at hLn
      rw [← hLn] at ow
      obtain ⟨A', c', hv, hp9⟩ := unhide HX wr _ _ ow
      obtain ⟨rfl, hkc, rfl⟩ : G = A' ∧ CP.length = CP.length ∧ c = c' := by injection hv with a b c; exact ⟨a, rfl, c⟩
      rw [hLn] at HM
      clear ow hv hE hkc
      have U9 := up_trans v1 hu
      have a9 := pceAt_up (unhide HCk i (by rw [unhide HNN]; exact hi)) U9
      have HLn' := hide hLn
      clear hLn
      by_cases hM : mas CP = 0
      · have t0 : (mas CP == 0) = true := by simp [hM]
        have HMz := hide hM
        clear hM
        generalize mas CP = MS at *
        go_upto_region 8 with (go_at_call 51; (with_reducible refine (unhide HM _ _ _ hp9).mono ?_); rintro e w2 ⟨rfl, v2⟩)
        obtain ⟨a0, a1, a2, a3, a4, a5, a6⟩ := pceAt_up a9 v2
        have hG := unhide HGi
        have hV := unhide HV
        rw [if_pos (unhide HMz), hG] at hV
        generalize ps[i] = p at *
        have HVV := hide hV
        go_upto_region 9 with fail
        refine at_wpC (fun W5 hW5 => ?_)
        have y5 : Up w2 W5 := by rw [hW5]; exact (by repeat' (first | (with_reducible exact up_refl _) | (with_reducible assumption) | (with_reducible refine up_alloc ?_ _) | (with_reducible refine up_drewN ?_ _) | (with_reducible refine up_drew ?_) | (with_reducible refine up_set ?_ (by first | (simp; done) | (simp; omega) | omega) _) | (refine up_trans ?_ (by with_reducible assumption))))
        have b5 : Bx W5 w2.heap.size [.int .i64 p.x, .int .i64 p.y, .int .i64 p.z, .int .i64 p.l, .int .i64 p.w, .int .i64 p.h, .int .i64 p.m] := by rw [hW5]; exact bx_new w2 _ _
        have U5 := up_trans (up_trans U9 v2) y5
        have hz : w.heap.size ≤ w2.heap.size := (up_trans U9 v2).size
        clear hW5 y5 a0 a1 a2 a3 a4 a5 a6 hG hV
        generalize w2.heap.size = g8 at *
        have f6 := (b5 6 _ rfl).2
        have r6 := (b5 6 _ rfl).1
        go_upto_region 10 with fail
        have b6 := bx_set b5 6 (.int .i64 1)
        have U6 := up_set U5 (p := ⟨g8, 6, none⟩) (by simp only; omega) (.int .i64 1)
        generalize W5.setCell ⟨g8, 6, none⟩ (.int .i64 1) = W6 at b6 U6 ⊢
        have r0 := (b6 0 _ rfl).1
        have r1 := (b6 1 _ rfl).1
        have r2 := (b6 2 _ rfl).1
        have r3 := (b6 3 _ rfl).1
        have r4 := (b6 4 _ rfl).1
        have r5 := (b6 5 _ rfl).1
        have r6 := (b6 6 _ rfl).1
        go_wp2_with fail
        go_ret
        have hV := unhide HVV
        subst hV
        exact ⟨⟨_, _, rfl, pcs_bxP (ps := [{ p with m := 1 }]) (bx_new W6 _ _)⟩, up_alloc U6 _⟩
      · have t0 : (mas CP == 0) = false := by simp [hM]
        have HMz := hide hM
        clear hM
        generalize mas CP = MS at *
        go_wp2_with (go_at_call 51; (with_reducible refine (unhide HM _ _ _ hp9).mono ?_); rintro e w2 ⟨rfl, v2⟩)
        go_ret
        have hV := unhide HV
        rw [if_neg (unhide HMz)] at hV
        subst hV
        exact ⟨⟨_, _, by rw [unhide HLn']; rfl, pcs_up hp9 v2⟩, up_trans U9 v2⟩
end Go.Proofs.YtdehnokcjnbjoaaGreat
