/- The divisions, as the program yields them: a contract of the iterator. The division with the least load: what the program's lightest returns. The program's Divide. -/
import Derived.RangeFuncNested
import Derived.RangeFuncLeaves
import Derived.Shelf.Abstract
import Derived.Shelf.RegionOpen
import Derived.OwnWalkIn
import Derived.TacticsInMore
import Derived.LoopNIn
import Derived.LoopIn
import Derived.Sort.CutIn
import Derived.Test.YtepblnnebeglbaaLight
import Derived.Test.YtepblnnebeglbaaInOrd
namespace Go.Proofs.Ytepblnnebeglbaa
open Go.RowKit Go.Proofs.Gn Go.Shelf
attribute [local go_sem] Oper.semAt_some
theorem dv_make (n : Nat) (A : Option Addr) (len cap : Nat) (w : World) :
    CallsIn Fence.wide n Try.prog 33 #[.slice A len cap] w fun e w' => e = .returned (.func (.func 47) #[] #[.pointer (some ⟨w.heap.size, 0, none⟩)]) ∧ w' = w.alloc (.cells #[.slice A len cap] 22) := by
  refine callsIn_of_wp Try.func33 rfl trivial ?_ rfl
  simp only [Try.ntmps33, List.size_toArray, List.length_cons, List.length_nil, Nat.reduceAdd, Nat.reduceSub, Array.replicate_succ, Array.replicate_zero, List.push_toArray, List.append_toArray, List.nil_append, List.cons_append]
  gi_wp2
  go_ret
  exact ⟨rfl, rfl⟩
theorem up_gr {W W' : World} (h : Up W W') : W.grownBy W' none := ⟨h.os, h.tape, h.output, h.size, fun k hk _ => h.block k hk⟩
theorem yield_casesY {e : Ending} {A B : Prop} (h : (e = .returned (.bool true) ∧ A) ∨ (e = .returned (.bool false) ∧ B)) : ∃ bv : Bool, e = .returned (.bool bv) ∧ ((bv = true ∧ A) ∨ (bv = false ∧ B)) := by
  rcases h with ⟨h1, h2⟩ | ⟨h1, h2⟩
  · exact ⟨true, h1, .inl ⟨rfl, h2⟩⟩
  · exact ⟨false, h1, .inr ⟨rfl, h2⟩⟩
/-- Where the supports, their box and their order lie. -/
structure DvW (B Bs b off cap g : Nat) (ps : List Gs.Sup) (l : List Nat) (V : World) : Prop where
  bs : V.cell? ⟨Bs, 0, none⟩ = some (.slice (some ⟨b, off, none⟩) ps.length cap)
  c : SupsO V b off ps
  o : ∀ i (h : i < l.length), V.cell? ⟨g, i, none⟩ = some (.int .i64 (l[i] : Int))
theorem DvW.kept {B Bs b off cap g : Nat} {ps : List Gs.Sup} {l : List Nat} {V V' : World} (h : DvW B Bs b off cap g ps l V) (k : KpB B V V') (h1 : Bs ≠ B) (h2 : b ≠ B) (h3 : g ≠ B) : DvW B Bs b off cap g ps l V' :=
  ⟨kpB_cell k (a := ⟨Bs, 0, none⟩) h1 h.bs, supsO_kpB h.c k h2, fun i hi => kpB_cell k (a := ⟨g, i, none⟩) h3 (h.o i hi)⟩
theorem DvW.up {B Bs b off cap g : Nat} {ps : List Gs.Sup} {l : List Nat} {V V' : World} (h : DvW B Bs b off cap g ps l V) (u : Up V V') (h1 : Bs ≠ B) (h2 : b ≠ B) (h3 : g ≠ B) : DvW B Bs b off cap g ps l V' := h.kept (kpB_up u) h1 h2 h3
/-- The divisions up to here are a beginning of all. -/
theorem dvsK_pre (ps : List Gs.Sup) (l : List Nat) : ∀ m k, ∃ D, dvsK ps l k ++ D = dvsK ps l (k + m)
  | 0, k => ⟨[], by simp⟩
  | m + 1, k => by
    obtain ⟨D, hD⟩ := dvsK_pre ps l m (k + 1)
    rw [dvsK_succ, List.append_assoc] at hD
    exact ⟨_, by rw [hD]; congr 1; omega⟩
set_option maxRecDepth 100000 in
set_option maxHeartbeats 8000000 in
theorem dv_seq (HSO : SortsO) (B Bs b off cap : Nat) (ps : List Gs.Sup) (ho : Gs.okA ps = true) (h0 : 0 < ps.length) (hn : ps.length ≤ 48) (w : World) (hBs : w.cell? ⟨Bs, 0, none⟩ = some (.slice (some ⟨b, off, none⟩) ps.length cap)) (hc : SupsO w b off ps) (hBB : Bs ≠ B) (hbB : b ≠ B) (hBl : B < w.heap.size) (n : Nat) (hn3 : 3 ≤ n) :
    SeqY Fence.wide n Try.prog 47 #[.pointer (some ⟨Bs, 0, none⟩)] (fun x : Nat × List Int => #[slV ps.length x.1]) (KpB B) (fun x W => (Bx W x.1 (cellsI x.2) ∧ x.2.length = ps.length) ∧ w.heap.size ≤ x.1)
      (fun xs => ∃ l, l.Perm (List.range ps.length) ∧ l.Pairwise (ltS ps) ∧ xs.map (·.2) = dvs ps l) (fun xs => ∃ l D, l.Perm (List.range ps.length) ∧ l.Pairwise (ltS ps) ∧ xs.map (·.2) ++ D = dvs ps l) w := by
  intro lp J Jx W hW hJ hJx hJ0 hY
  have hsW := hW.size
  have hBs' : W.cell? ⟨Bs, 0, none⟩ = some (.slice (some ⟨b, off, none⟩) ps.length cap) := (hW.cell (p := ⟨Bs, 0, none⟩) (World.block_lt_of_cell? _ _ hBs)).trans hBs
  have hc' : SupsO W b off ps := supsO_up hc hW
  have HO := hide (fun V (hV : Up W V) => p_inOrder HSO b off cap ps V (supsO_up hc' hV) h0 hn)
  have HD : Hid (∀ (V : World) (A : Option Addr) (is : List Nat) (cB : Nat), Sups V (some ⟨b, off, none⟩) ps → Ints V A (ixs is) → is.length ≤ 48 → (∀ i ∈ is, i < ps.length) → _) := hide (fun V A is cB hp hI hm hs => p_divided (some ⟨b, off, none⟩) ps cap A is cB V hp hI ho hn hm hs)
  have HG := hide (gL_dvI ps)
  have HK := hide (dvsK_succ ps)
  have HV := hide (dvs_K ps)
  have HC := hide hc'
  have HY := hide hY
  have HJ := hide hJ
  have HJ0 := hide hJ0
  have HBs := hide hBs'
  clear HSO ho hc hY hJ hJx hJ0 hBs hBs' hc' hW
  obtain ⟨N, hN⟩ : ∃ N, ps.length = N := ⟨_, rfl⟩
  rw [hN] at h0 hn HO HD HG HK HV HBs HY ⊢
  have HN := hide hN
  clear hN
  have hmx : Try.prog.follows .mixedOrders = true := by kernel_rfl
  have h1 : 1 ≤ n := by omega
  have h2 : 1 ≤ n - 1 := by omega
  refine callsIn_of_wp Try.func47 rfl trivial ?_ rfl
  simp only [Try.ntmps47, List.size_toArray, List.length_cons, List.length_nil, Nat.reduceAdd, Nat.reduceSub, Array.replicate_succ, Array.replicate_zero, List.push_toArray, List.append_toArray, List.nil_append, List.cons_append]
  gi_upto_region 0 with fail
  gi_cut [3, 4] from 5 (fun s3 s4 wx => ∃ (g c : Nat) (l : List Nat), s3 = .slice (some ⟨g, 0, none⟩) N c ∧ s4 = .int .i64 (N : Int) ∧ N ≤ c ∧ c ≤ 9223372036854775807 ∧ Hid (l.Perm (List.range N) ∧ l.Pairwise (ltS ps)) ∧ Hid (∀ i (h : i < l.length), wx.cell? ⟨g, i, none⟩ = some (.int .i64 (l[i] : Int))) ∧ W.heap.size ≤ g ∧ Up W wx)
  case first =>
    have c0 := unhide HBs
    gi_region_with_o (refine ⟨trivial, ?_⟩; gi_at_call 48; (with_reducible refine CallsIn.mono (callsIn_wide.2 (unhide HO _ (by repeat' (first | (with_reducible exact up_refl _) | (with_reducible assumption) | (with_reducible refine up_alloc ?_ _) | (with_reducible refine up_drewN ?_ _) | (with_reducible refine up_drew ?_) | (with_reducible refine up_set ?_ (by first | (simp; done) | (simp; omega) | omega) _) | (refine up_trans ?_ (by with_reducible assumption)))))) ?_); rintro e w2 ⟨g, c, l, rfl, hp, hs, ho, hu⟩; have c2 := up_cell hu c0)
    all_goals
      obtain ⟨g', c', hv, hg, hc1, hc2⟩ := own_someO2 ho h0
      simp only [Value.slice.injEq, Option.some.injEq, Addr.mk.injEq, and_true, true_and] at hv
      obtain ⟨rfl, rfl⟩ := hv
      have HX := hide (ixs_news ho)
      have HP := hide (And.intro hp hs)
      clear ho hp hs
      gi_wp2
      gi_meet
      exact ⟨g, c, l, by with_reducible rfl, by with_reducible rfl, hc1, hc2, HP, HX, by first | (simp at hg; exact hg) | exact hg, (by repeat' (first | (with_reducible exact up_refl _) | (with_reducible assumption) | (with_reducible refine up_alloc ?_ _) | (with_reducible refine up_drewN ?_ _) | (with_reducible refine up_drew ?_) | (with_reducible refine up_set ?_ (by first | (simp; done) | (simp; omega) | omega) _) | (refine up_trans ?_ (by with_reducible assumption))))⟩
  case rest =>
    obtain ⟨g, c, l, rfl, rfl, hc1, hc2, HP, HI, hg, hu⟩ := hcut
    have hJc : J [] wc := unhide HJ _ _ _ _ (unhide HJ0) (up_gr hu) (fun r e => by cases e)
    have hll : l.length = N := by have := (unhide HP).1.length_eq; rwa [List.length_range] at this
    have HLL := hide hll
    have gB : g ≠ B := by omega
    have HDW : Hid (DvW B Bs b off cap g ps l wc) := hide ⟨up_cell hu (by rw [unhide HN]; exact unhide HBs), supsO_up (unhide HC) hu, unhide HI⟩
    have hsz : w.heap.size ≤ wc.heap.size := Nat.le_trans hsW hu.size
    have HJc := hide hJc
    clear hJc hll HI HJ0 HBs HC HO
    obtain ⟨w3, hw3⟩ : ∃ w3, w3 = wc := ⟨_, rfl⟩
    rw [← hw3] at HJc HDW hsz ⊢
    clear hw3 hu hg
    have hw2 : IntKind.i64.wrap ((N : Int) - 2) = (N : Int) - 2 := IntWalk.i64_in _ ⟨by omega, by omega⟩
    gi_wp2
    gi_loopw [5] (fun s5 wr => ∃ (k : Nat) (xs : List (Nat × List Int)), k + 1 ≤ N ∧ (k = 0 ∨ k + 2 ≤ N) ∧ s5 = .int .i64 ((k : Int) + 1) ∧ Hid (xs.map (·.2) = dvsK ps l k) ∧ Hid (J xs wr) ∧ Hid (DvW B Bs b off cap g ps l wr) ∧ w.heap.size ≤ wr.heap.size) (fun s5 _ => N - (intOf s5).toNat)
    case atStart => exact ⟨0, [], by omega, .inl rfl, rfl, hide rfl, HJc, HDW, hsz⟩
    case round =>
      obtain ⟨k, xs, hk, hk2, rfl, HXS, HJs, HW, hsr⟩ := hrel
      clear HJc HDW hsz
      have hwk : IntKind.i64.wrap ((k : Int) + 1 + 1) = (k : Int) + 1 + 1 := IntWalk.i64_in _ ⟨by omega, by omega⟩
      by_cases hlt : k + 1 ≤ N - 2 ∧ 3 ≤ N
      · obtain ⟨d, hd⟩ : ∃ d, N = d + (k + 1) := ⟨N - (k + 1), by omega⟩
        have hin : ∀ i ∈ l, i < N := fun i hi => List.mem_range.1 ((unhide HP).1.mem_iff.1 hi)
        have T1 : (l.drop (k + 1)).length = N - (k + 1) := by rw [List.length_drop, unhide HLL]
        have T2 : (l.take d).length = d := by rw [List.length_take, unhide HLL]; omega
        have G1 := unhide HG (l.drop (k + 1))
        have G2 := unhide HG (l.take d)
        have HD1 := hide (fun (V : World) (hV : DvW B Bs b off cap g ps l V) => unhide HD V (some ⟨g, k + 1, none⟩) (l.drop (k + 1)) (c - (k + 1)) (.inr ⟨b, off, rfl, hV.c⟩) (drop_ints hV.o (k + 1)) (by rw [T1]; omega) (fun i hi => hin i (List.mem_of_mem_drop hi)))
        have HD2 := hide (fun (V : World) (hV : DvW B Bs b off cap g ps l V) => unhide HD V (some ⟨g, 0, none⟩) (l.take d) c (.inr ⟨b, off, rfl, hV.c⟩) (take_ints hV.o d) (by rw [T2]; omega) (fun i hi => hin i (List.mem_of_mem_take hi)))
        rw [T1, G1] at HD1
        rw [T2, G2] at HD2
        have HS := unhide HK l k
        rw [show N - (k + 1) = d by omega] at HS
        have HED := hide HS
        have HXK := HXS
        clear HS G1 G2 T1 T2 hin
        have LD1 : (dvI ps (l.drop (k + 1))).length = N := by unfold dvI; rw [List.length_map, List.length_range]; exact unhide HN
        have LD2 : (dvI ps (l.take d)).length = N := by unfold dvI; rw [List.length_map, List.length_range]; exact unhide HN
        generalize hD1 : dvI ps (l.drop (k + 1)) = D1 at *
        generalize hD2 : dvI ps (l.take d) = D2 at *
        have HLD := hide (And.intro LD1 LD2)
        clear hD1 hD2 LD1 LD2
        have HPre : Hid (∃ D, dvsK ps l (k + 1) ++ D = dvs ps l) := hide (by
          obtain ⟨D, hD⟩ := dvsK_pre ps l (N - 2 - (k + 1)) (k + 1)
          exact ⟨D, by rw [hD, unhide HV]; congr 1; omega⟩)
        have hd1 : N ≤ d + (k + 1) := by omega
        have hd2 : d + (k + 1) ≤ N := by omega
        clear hd
        have j1 : (k : Int) + 1 ≤ (N : Int) - 2 := by omega
        have tk : ((k : Int) + 1).toNat = k + 1 := by omega
        have hwd : IntKind.i64.wrap ((N : Int) - ((k : Int) + 1)) = (d : Int) := by rw [show (N : Int) - ((k : Int) + 1) = (d : Int) by omega]; exact IntWalk.i64_in _ ⟨by omega, by omega⟩
        have o1 : (k : Int) + 1 ≤ (N : Int) := by omega
        have o2 : (0 : Int) ≤ (k : Int) + 1 := by omega
        have o3 : (d : Int) ≤ (N : Int) := by omega
        have o4 : (N : Int) ≤ (c : Int) := by omega
        have o5 : (d : Int) ≤ (c : Int) := by omega
        have n60 : ¬ c = k + 1 := by omega
        have n61 : ¬ k + 1 = c := by omega
        have n62 : ¬ c - (k + 1) = 0 := by omega
        have n65 : ¬ c ≤ k + 1 := by omega
        have c1 : wr.cell? ⟨Bs, 0, none⟩ = some (.slice (some ⟨b, off, none⟩) N cap) := by have t := (unhide HW).bs; rwa [unhide HN] at t
        gi_upto_region 4 with fail
        refine wpIn_region_any hmx ?_
        change wpAnyIn _ _ _ _ _ _ _ _ _ (World.drew _)
        (refine wpAnyIn_take (i := 0) (oi := _) (v := ?_) rfl rfl (by kernel_rfl) (by kernel_rfl) (by kernel_rfl) (fun _ _ _ h => h) ⟨Or.inl ⟨?_, ?_⟩, ?_⟩ ?_; rotate_left; (· first | rfl | (go_simp; done)); (· (intro w; go_simp; (try with_reducible rfl); done)); (· intro w; rfl)); (try simp only [List.getElem_toArray, List.getElem_cons_zero, Act.put, List.setIfInBounds_toArray, List.set_cons_zero, List.set_cons_succ]); (refine wpAnyIn_take (i := 2) (oi := _) (v := ?_) rfl rfl (by kernel_rfl) (by kernel_rfl) (by kernel_rfl) (fun _ _ _ h => h) ⟨Or.inl ⟨?_, ?_⟩, ?_⟩ ?_; rotate_left; (· first | rfl | (go_simp; done)); (· (intro w; go_simp; (try with_reducible rfl); done)); (· intro w; rfl)); (try simp only [List.getElem_toArray, List.getElem_cons_zero, List.getElem_cons_succ, Act.put, List.setIfInBounds_toArray, List.set_cons_zero, List.set_cons_succ]); (refine wpAnyIn_take (i := 3) (oi := _) (v := ?_) rfl rfl (by kernel_rfl) (by kernel_rfl) (by kernel_rfl) (fun _ _ _ h => h) ⟨Or.inl ⟨?_, ?_⟩, ?_⟩ ?_; rotate_left; (· first | rfl | (go_simp; done)); (· (intro w; go_simp; (try with_reducible rfl); done)); (· intro w; rfl)); (try simp only [List.getElem_toArray, List.getElem_cons_zero, List.getElem_cons_succ, Act.put, List.setIfInBounds_toArray, List.set_cons_zero, List.set_cons_succ]); (refine wpAnyIn_take (i := 4) (oi := _) (v := ?_) rfl rfl (by kernel_rfl) (by kernel_rfl) (by kernel_rfl) (fun _ _ _ h => h) ⟨Or.inl ⟨?_, ?_⟩, ?_⟩ ?_; rotate_left; (· first | rfl | (go_simp; done)); (· (intro w; go_simp; (try with_reducible rfl); done)); (· intro w; rfl)); (try simp only [List.getElem_toArray, List.getElem_cons_zero, List.getElem_cons_succ, Act.put, List.setIfInBounds_toArray, List.set_cons_zero, List.set_cons_succ])
        refine wpAnyIn_ready (rs := [1]) (by kernel_rfl) (by simp) ?_; refine AllReadyIn.cons rfl (fun K hK => ?_) AllReadyIn.nil; go_simp
        refine hK _ _ ?_; clear hK K; (try simp only [List.getElem_toArray, List.getElem_cons_zero, List.getElem_cons_succ, Act.put, List.setIfInBounds_toArray, List.set_cons_zero, List.set_cons_succ])
        refine wpAnyIn_ready (rs := [5]) (by kernel_rfl) (by simp) ?_; refine AllReadyIn.cons rfl (fun K hK => ?_) AllReadyIn.nil; go_simp
        refine ⟨trivial, ?_⟩
        refine CallsIn.mono (callsIn_wide.2 (unhide HD1 _ ((unhide HW).up (up_drew (up_refl _)) hBB hbB gB))) ?_
        rintro e V1 ⟨g1, rfl, hB1, hg1, hu1⟩
        have hu1' : Up wr V1 := up_trans (up_drew (up_refl _)) hu1
        have HW1 := hide ((unhide HW).up hu1' hBB hbB gB)
        have hJ1 : J xs V1 := unhide HJ _ _ _ _ (unhide HJs) (up_gr hu1') (fun r e => by cases e)
        obtain ⟨fn1, tm1, as1, bo1, hy1, hR1⟩ := unhide HY xs (g1, D1) V1 hJ1 ⟨⟨hB1, (unhide HLD).1⟩, Nat.le_trans hsr hg1⟩
        unfold slV at hy1
        have hs1 : w.heap.size ≤ V1.heap.size := Nat.le_trans hsr hu1'.size
        have HR1 := hide hR1
        clear hR1 hJ1 HW HJs hB1 hu1 hg1 hu1' c1
        dsimp only
        refine hK _ _ ?_; clear hK K; (try simp only [List.getElem_toArray, List.getElem_cons_zero, List.getElem_cons_succ, Act.put, List.setIfInBounds_toArray, List.set_cons_zero, List.set_cons_succ])
        refine wpAnyIn_ready (rs := [6]) (by kernel_rfl) (by simp) ?_; refine AllReadyIn.cons rfl (fun K hK => ?_) AllReadyIn.nil; go_simp
        refine (unhide HR1).mono ?_
        rintro e V2 hR
        obtain ⟨bv, rfl, h3⟩ := yield_casesY hR
        clear hR HR1 hy1
        dsimp only
        rcases h3 with ⟨rfl, hJ2, hk2'⟩ | ⟨rfl, hJx2⟩
        · have HJ2 := hide hJ2
          have hs2 : w.heap.size ≤ V2.heap.size := Nat.le_trans hs1 hk2'.1
          have HW2 := hide ((unhide HW1).kept hk2' hBB hbB gB)
          have c2 : V2.cell? ⟨Bs, 0, none⟩ = some (.slice (some ⟨b, off, none⟩) N cap) := by have t := (unhide HW2).bs; rwa [unhide HN] at t
          clear hJ2 hk2' HW1
          refine hK _ _ ?_; clear hK K; (try simp only [List.getElem_toArray, List.getElem_cons_zero, List.getElem_cons_succ, Act.put, List.setIfInBounds_toArray, List.set_cons_zero, List.set_cons_succ])
          (refine wpAnyIn_take (i := 7) (oi := _) (v := ?_) rfl rfl (by kernel_rfl) (by kernel_rfl) (by kernel_rfl) (fun _ _ _ h => h) ⟨Or.inl ⟨?_, ?_⟩, ?_⟩ ?_; rotate_left; (· first | rfl | (go_simp; done)); (· (intro w; go_simp; (try with_reducible rfl); done)); (· intro w; rfl)); (try simp only [List.getElem_toArray, List.getElem_cons_zero, List.getElem_cons_succ, Act.put, List.setIfInBounds_toArray, List.set_cons_zero, List.set_cons_succ]); (refine wpAnyIn_take (i := 8) (oi := _) (v := ?_) rfl rfl (by kernel_rfl) (by kernel_rfl) (by kernel_rfl) (fun _ _ _ h => h) ⟨Or.inl ⟨?_, ?_⟩, ?_⟩ ?_; rotate_left; (· first | rfl | (go_simp; done)); (· (intro w; go_simp; (try with_reducible rfl); done)); (· intro w; rfl)); (try simp only [List.getElem_toArray, List.getElem_cons_zero, List.getElem_cons_succ, Act.put, List.setIfInBounds_toArray, List.set_cons_zero, List.set_cons_succ]); (refine wpAnyIn_take (i := 9) (oi := _) (v := ?_) rfl rfl (by kernel_rfl) (by kernel_rfl) (by kernel_rfl) (fun _ _ _ h => h) ⟨Or.inl ⟨?_, ?_⟩, ?_⟩ ?_; rotate_left; (· first | rfl | (go_simp; done)); (· (intro w; go_simp; (try with_reducible rfl); done)); (· intro w; rfl)); (try simp only [List.getElem_toArray, List.getElem_cons_zero, List.getElem_cons_succ, Act.put, List.setIfInBounds_toArray, List.set_cons_zero, List.set_cons_succ]); (refine wpAnyIn_take (i := 11) (oi := _) (v := ?_) rfl rfl (by kernel_rfl) (by kernel_rfl) (by kernel_rfl) (fun _ _ _ h => h) ⟨Or.inl ⟨?_, ?_⟩, ?_⟩ ?_; rotate_left; (· first | rfl | (go_simp; done)); (· (intro w; go_simp; (try with_reducible rfl); done)); (· intro w; rfl)); (try simp only [List.getElem_toArray, List.getElem_cons_zero, List.getElem_cons_succ, Act.put, List.setIfInBounds_toArray, List.set_cons_zero, List.set_cons_succ]); (refine wpAnyIn_take (i := 12) (oi := _) (v := ?_) rfl rfl (by kernel_rfl) (by kernel_rfl) (by kernel_rfl) (fun _ _ _ h => h) ⟨Or.inl ⟨?_, ?_⟩, ?_⟩ ?_; rotate_left; (· first | rfl | (go_simp; done)); (· (intro w; go_simp; (try with_reducible rfl); done)); (· intro w; rfl)); (try simp only [List.getElem_toArray, List.getElem_cons_zero, List.getElem_cons_succ, Act.put, List.setIfInBounds_toArray, List.set_cons_zero, List.set_cons_succ]); (refine wpAnyIn_take (i := 13) (oi := _) (v := ?_) rfl rfl (by kernel_rfl) (by kernel_rfl) (by kernel_rfl) (fun _ _ _ h => h) ⟨Or.inl ⟨?_, ?_⟩, ?_⟩ ?_; rotate_left; (· first | rfl | (go_simp; done)); (· (intro w; go_simp; (try with_reducible rfl); done)); (· intro w; rfl)); (try simp only [List.getElem_toArray, List.getElem_cons_zero, List.getElem_cons_succ, Act.put, List.setIfInBounds_toArray, List.set_cons_zero, List.set_cons_succ]); (refine wpAnyIn_take (i := 14) (oi := _) (v := ?_) rfl rfl (by kernel_rfl) (by kernel_rfl) (by kernel_rfl) (fun _ _ _ h => h) ⟨Or.inl ⟨?_, ?_⟩, ?_⟩ ?_; rotate_left; (· first | rfl | (go_simp; done)); (· (intro w; go_simp; (try with_reducible rfl); done)); (· intro w; rfl)); (try simp only [List.getElem_toArray, List.getElem_cons_zero, List.getElem_cons_succ, Act.put, List.setIfInBounds_toArray, List.set_cons_zero, List.set_cons_succ]); (refine wpAnyIn_take (i := 15) (oi := _) (v := ?_) rfl rfl (by kernel_rfl) (by kernel_rfl) (by kernel_rfl) (fun _ _ _ h => h) ⟨Or.inl ⟨?_, ?_⟩, ?_⟩ ?_; rotate_left; (· first | rfl | (go_simp; done)); (· (intro w; go_simp; (try with_reducible rfl); done)); (· intro w; rfl)); (try simp only [List.getElem_toArray, List.getElem_cons_zero, List.getElem_cons_succ, Act.put, List.setIfInBounds_toArray, List.set_cons_zero, List.set_cons_succ])
          refine wpAnyIn_ready (rs := [10]) (by kernel_rfl) (by simp) ?_; refine AllReadyIn.cons rfl (fun K hK => ?_) AllReadyIn.nil; go_simp
          refine hK _ _ ?_; clear hK K; (try simp only [List.getElem_toArray, List.getElem_cons_zero, List.getElem_cons_succ, Act.put, List.setIfInBounds_toArray, List.set_cons_zero, List.set_cons_succ])
          refine wpAnyIn_ready (rs := [16]) (by kernel_rfl) (by simp) ?_; refine AllReadyIn.cons rfl (fun K hK => ?_) AllReadyIn.nil; go_simp
          refine ⟨trivial, ?_⟩
          refine CallsIn.mono (callsIn_wide.2 (unhide HD2 _ (unhide HW2))) ?_
          rintro e V3 ⟨g2, rfl, hB2, hg2, hu2⟩
          have HW3 := hide ((unhide HW2).up hu2 hBB hbB gB)
          have hJ3 : J (xs ++ [(g1, D1)]) V3 := unhide HJ _ _ _ _ (unhide HJ2) (up_gr hu2) (fun r e => by cases e)
          obtain ⟨fn2, tm2, as2, bo2, hy2, hR2⟩ := unhide HY (xs ++ [(g1, D1)]) (g2, D2) V3 hJ3 ⟨⟨hB2, (unhide HLD).2⟩, Nat.le_trans hs2 hg2⟩
          unfold slV at hy2
          have hs3 : w.heap.size ≤ V3.heap.size := Nat.le_trans hs2 hu2.size
          have HR2 := hide hR2
          clear hR2 hJ3 HW2 HJ2 hB2 hu2 hg2 c2
          dsimp only
          refine hK _ _ ?_; clear hK K; (try simp only [List.getElem_toArray, List.getElem_cons_zero, List.getElem_cons_succ, Act.put, List.setIfInBounds_toArray, List.set_cons_zero, List.set_cons_succ])
          refine wpAnyIn_ready (rs := [17]) (by kernel_rfl) (by simp) ?_; refine AllReadyIn.cons rfl (fun K hK => ?_) AllReadyIn.nil; go_simp
          refine (unhide HR2).mono ?_
          rintro e V4 hR
          obtain ⟨bv, rfl, h3⟩ := yield_casesY hR
          clear hR HR2 hy2
          dsimp only
          refine hK _ _ ?_; clear hK K; (try simp only [List.getElem_toArray, List.getElem_cons_zero, List.getElem_cons_succ, Act.put, List.setIfInBounds_toArray, List.set_cons_zero, List.set_cons_succ])
          (refine wpAnyIn_take (i := 18) (oi := _) (v := ?_) rfl rfl (by kernel_rfl) (by kernel_rfl) (by kernel_rfl) (fun _ _ _ h => h) ⟨Or.inl ⟨?_, ?_⟩, ?_⟩ ?_; rotate_left; (· first | rfl | (go_simp; done)); (· (intro w; go_simp; (try with_reducible rfl); done)); (· intro w; rfl)); (try simp only [List.getElem_toArray, List.getElem_cons_zero, List.getElem_cons_succ, Act.put, List.setIfInBounds_toArray, List.set_cons_zero, List.set_cons_succ]); (refine wpAnyIn_take (i := 19) (oi := _) (v := ?_) rfl rfl (by kernel_rfl) (by kernel_rfl) (by kernel_rfl) (fun _ _ _ h => h) ⟨Or.inl ⟨?_, ?_⟩, ?_⟩ ?_; rotate_left; (· first | rfl | (go_simp; done)); (· (intro w; go_simp; (try with_reducible rfl); done)); (· intro w; rfl)); (try simp only [List.getElem_toArray, List.getElem_cons_zero, List.getElem_cons_succ, Act.put, List.setIfInBounds_toArray, List.set_cons_zero, List.set_cons_succ])
          refine wpAnyIn_done (by kernel_rfl) ?_ _
          rcases h3 with ⟨rfl, hJ4, hk4⟩ | ⟨rfl, hJx4⟩
          · have HJ4 := hide hJ4
            have HW4 := hide ((unhide HW3).kept hk4 hBB hbB gB)
            have hs4 : w.heap.size ≤ V4.heap.size := Nat.le_trans hs3 hk4.1
            clear hJ4 hk4 HW3
            gi_wp2
            go_roundw
            case rel => exact ⟨k + 1, xs ++ [(g1, D1)] ++ [(g2, D2)], by omega, .inr (by omega), by go_num, hide (by rw [unhide HED, ← unhide HXK]; simp), HJ4, HW4, hs4⟩
            case measure => simp [intOf]; omega
          · gi_wp2
            refine bodyPost_ret (results_none rfl _ _ _) rfl ?_
            obtain ⟨D, hD⟩ := unhide HPre
            exact ⟨⟨_, rfl⟩, .inr ⟨xs ++ [(g1, D1)] ++ [(g2, D2)], ⟨l, D, (unhide HP).1, (unhide HP).2, by rw [← hD, unhide HED, ← unhide HXK]; simp⟩, hJx4⟩⟩
        · refine hK _ _ ?_; clear hK K; (try simp only [List.getElem_toArray, List.getElem_cons_zero, List.getElem_cons_succ, Act.put, List.setIfInBounds_toArray, List.set_cons_zero, List.set_cons_succ])
          (refine wpAnyIn_take (i := 7) (oi := _) (v := ?_) rfl rfl (by kernel_rfl) (by kernel_rfl) (by kernel_rfl) (fun _ _ _ h => h) ⟨Or.inl ⟨?_, ?_⟩, ?_⟩ ?_; rotate_left; (· first | rfl | (go_simp; done)); (· (intro w; go_simp; (try with_reducible rfl); done)); (· intro w; rfl)); (try simp only [List.getElem_toArray, List.getElem_cons_zero, List.getElem_cons_succ, Act.put, List.setIfInBounds_toArray, List.set_cons_zero, List.set_cons_succ]); (refine wpAnyIn_take (i := 8) (oi := _) (v := ?_) rfl rfl (by kernel_rfl) (by kernel_rfl) (by kernel_rfl) (fun _ _ _ h => h) ⟨Or.inl ⟨?_, ?_⟩, ?_⟩ ?_; rotate_left; (· first | rfl | (go_simp; done)); (· (intro w; go_simp; (try with_reducible rfl); done)); (· intro w; rfl)); (try simp only [List.getElem_toArray, List.getElem_cons_zero, List.getElem_cons_succ, Act.put, List.setIfInBounds_toArray, List.set_cons_zero, List.set_cons_succ])
          (refine wpAnyIn_take (i := 9) (oi := _) (v := undef) rfl rfl (by kernel_rfl) (by kernel_rfl) (by kernel_rfl) (fun _ _ _ h => h) ⟨Or.inr ⟨?_, rfl⟩, ?_⟩ ?_; (· first | (go_simp; done) | rfl); (· intro w; rfl)); (try simp only [List.getElem_toArray, List.getElem_cons_zero, List.getElem_cons_succ, Act.put, List.setIfInBounds_toArray, List.set_cons_zero, List.set_cons_succ]); (refine wpAnyIn_take (i := 10) (oi := _) (v := undef) rfl rfl (by kernel_rfl) (by kernel_rfl) (by kernel_rfl) (fun _ _ _ h => h) ⟨Or.inr ⟨?_, rfl⟩, ?_⟩ ?_; (· first | (go_simp; done) | rfl); (· intro w; rfl)); (try simp only [List.getElem_toArray, List.getElem_cons_zero, List.getElem_cons_succ, Act.put, List.setIfInBounds_toArray, List.set_cons_zero, List.set_cons_succ]); (refine wpAnyIn_take (i := 11) (oi := _) (v := undef) rfl rfl (by kernel_rfl) (by kernel_rfl) (by kernel_rfl) (fun _ _ _ h => h) ⟨Or.inr ⟨?_, rfl⟩, ?_⟩ ?_; (· first | (go_simp; done) | rfl); (· intro w; rfl)); (try simp only [List.getElem_toArray, List.getElem_cons_zero, List.getElem_cons_succ, Act.put, List.setIfInBounds_toArray, List.set_cons_zero, List.set_cons_succ]); (refine wpAnyIn_take (i := 12) (oi := _) (v := undef) rfl rfl (by kernel_rfl) (by kernel_rfl) (by kernel_rfl) (fun _ _ _ h => h) ⟨Or.inr ⟨?_, rfl⟩, ?_⟩ ?_; (· first | (go_simp; done) | rfl); (· intro w; rfl)); (try simp only [List.getElem_toArray, List.getElem_cons_zero, List.getElem_cons_succ, Act.put, List.setIfInBounds_toArray, List.set_cons_zero, List.set_cons_succ]); (refine wpAnyIn_take (i := 13) (oi := _) (v := undef) rfl rfl (by kernel_rfl) (by kernel_rfl) (by kernel_rfl) (fun _ _ _ h => h) ⟨Or.inr ⟨?_, rfl⟩, ?_⟩ ?_; (· first | (go_simp; done) | rfl); (· intro w; rfl)); (try simp only [List.getElem_toArray, List.getElem_cons_zero, List.getElem_cons_succ, Act.put, List.setIfInBounds_toArray, List.set_cons_zero, List.set_cons_succ]); (refine wpAnyIn_take (i := 14) (oi := _) (v := undef) rfl rfl (by kernel_rfl) (by kernel_rfl) (by kernel_rfl) (fun _ _ _ h => h) ⟨Or.inr ⟨?_, rfl⟩, ?_⟩ ?_; (· first | (go_simp; done) | rfl); (· intro w; rfl)); (try simp only [List.getElem_toArray, List.getElem_cons_zero, List.getElem_cons_succ, Act.put, List.setIfInBounds_toArray, List.set_cons_zero, List.set_cons_succ]); (refine wpAnyIn_take (i := 15) (oi := _) (v := undef) rfl rfl (by kernel_rfl) (by kernel_rfl) (by kernel_rfl) (fun _ _ _ h => h) ⟨Or.inr ⟨?_, rfl⟩, ?_⟩ ?_; (· first | (go_simp; done) | rfl); (· intro w; rfl)); (try simp only [List.getElem_toArray, List.getElem_cons_zero, List.getElem_cons_succ, Act.put, List.setIfInBounds_toArray, List.set_cons_zero, List.set_cons_succ])
          refine wpAnyIn_ready (rs := [16]) (by kernel_rfl) (by simp) ?_; refine AllReadyIn.cons rfl (fun K hK => ?_) AllReadyIn.nil; go_simp
          (first | refine ⟨trivial, ?_⟩ | refine ⟨fun _ _ => trivial, ?_⟩)
          refine hK _ _ ?_; clear hK K; (try simp only [List.getElem_toArray, List.getElem_cons_zero, List.getElem_cons_succ, Act.put, List.setIfInBounds_toArray, List.set_cons_zero, List.set_cons_succ])
          refine wpAnyIn_ready (rs := [17]) (by kernel_rfl) (by simp) ?_; refine AllReadyIn.cons rfl (fun K hK => ?_) AllReadyIn.nil; go_simp
          (first | refine ⟨trivial, ?_⟩ | refine ⟨fun _ _ => trivial, ?_⟩)
          refine hK _ _ ?_; clear hK K; (try simp only [List.getElem_toArray, List.getElem_cons_zero, List.getElem_cons_succ, Act.put, List.setIfInBounds_toArray, List.set_cons_zero, List.set_cons_succ])
          (refine wpAnyIn_take (i := 18) (oi := _) (v := undef) rfl rfl (by kernel_rfl) (by kernel_rfl) (by kernel_rfl) (fun _ _ _ h => h) ⟨Or.inr ⟨?_, rfl⟩, ?_⟩ ?_; (· first | (go_simp; done) | rfl); (· intro w; rfl)); (try simp only [List.getElem_toArray, List.getElem_cons_zero, List.getElem_cons_succ, Act.put, List.setIfInBounds_toArray, List.set_cons_zero, List.set_cons_succ])
          (refine wpAnyIn_take (i := 19) (oi := _) (v := ?_) rfl rfl (by kernel_rfl) (by kernel_rfl) (by kernel_rfl) (fun _ _ _ h => h) ⟨Or.inl ⟨?_, ?_⟩, ?_⟩ ?_; rotate_left; (· first | rfl | (go_simp; done)); (· (intro w; go_simp; (try with_reducible rfl); done)); (· intro w; rfl)); (try simp only [List.getElem_toArray, List.getElem_cons_zero, List.getElem_cons_succ, Act.put, List.setIfInBounds_toArray, List.set_cons_zero, List.set_cons_succ])
          refine wpAnyIn_done (by kernel_rfl) ?_ _
          gi_wp2
          refine bodyPost_ret (results_none rfl _ _ _) rfl ?_
          obtain ⟨D, hD⟩ := unhide HPre
          exact ⟨⟨_, rfl⟩, .inr ⟨xs ++ [(g1, D1)], ⟨l, D2 :: D, (unhide HP).1, (unhide HP).2, by rw [← hD, unhide HED, ← unhide HXK]; simp⟩, hJx2⟩⟩
      · have j1 : ¬ (k : Int) + 1 ≤ (N : Int) - 2 := by omega
        have hkn : k = N - 2 := by omega
        have HF := hide (show xs.map (·.2) = dvs ps l by rw [unhide HV, ← hkn]; exact unhide HXS)
        gi_wp2
        go_end0
        exact ⟨⟨_, rfl⟩, .inl ⟨xs, ⟨l, (unhide HP).1, (unhide HP).2, unhide HF⟩, unhide HJs⟩⟩
end Go.Proofs.Ytepblnnebeglbaa
namespace Go.Proofs.Ytepblnnebeglbaa
open Go.RowKit Go.Proofs.Gn Go.Shelf
attribute [local go_sem] Oper.semAt_some
theorem nilG (a : Addr) (n c : Nat) (w : World) : (binOp BinOp.eql 26 (.slice (some a) n c) (.slice none 0 0)).run Try.prog w = .ok (.bool false) w := by
  first | (kernel_rfl) | (simp [binOp, go_sem]; done) | (simp [binOp, Op.equalIn, run_underlying Try.underlying26, go_sem])
theorem nilG0 (w : World) : (binOp BinOp.eql 26 (.slice none 0 0) (.slice none 0 0)).run Try.prog w = .ok (.bool true) w := by
  first | (kernel_rfl) | (simp [binOp, go_sem]; done) | (simp [binOp, Op.equalIn, run_underlying Try.underlying26, go_sem])
/-- What a round of the search keeps. -/
structure LiI (n Bb : Nat) (ok : List Int → Bool) (vl : List Int → Int) (L : Int) (w W0 : World) (xs : List (Nat × List Int)) (V : World) : Prop where
  be : BeAt n Bb (bA ok vl xs none) V
  lt : ∀ c, bA ok vl xs none = some c → L < c.2.2
  kp : KpB Bb W0 V
  up : Below w.heap.size w V
/-- What it leaves where it stops early. -/
structure LiX (n Bb : Nat) (ok : List Int → Bool) (vl : List Int → Int) (L : Int) (w W0 : World) (xs : List (Nat × List Int)) (V : World) : Prop where
  ex : ∃ ys g d, xs = ys ++ [(g, d)] ∧ (∀ c, bA ok vl ys none = some c → L < c.2.2) ∧ ok d = true ∧ vl d = L ∧ BeAt n Bb (some (g, d, L)) V
  kp : KpB Bb W0 V
  up : Below w.heap.size w V
theorem liI_own {n Bb B : Nat} {ok : List Int → Bool} {vl : List Int → Int} {L : Int} {w W0 : World} (hB : w.heap.size ≤ B) : OwnFrom B (LiI n Bb ok vl L w W0) := fun _ V V' row hs hg hr =>
  ⟨beAt_own n Bb _ hs.be hg (fun r e => (hr r e).2), hs.lt, kpB_own hs.kp hg (fun r e => (hr r e).2), ownFrom_below (β := Unit) (Nat.le_refl _) hB () V V' row hs.up hg hr⟩
theorem liX_own {n Bb B : Nat} {ok : List Int → Bool} {vl : List Int → Int} {L : Int} {w W0 : World} (hB : w.heap.size ≤ B) : OwnFrom B (LiX n Bb ok vl L w W0) := fun _ V V' row hs hg hr => by
  obtain ⟨⟨ys, g, d, e1, e2, e3, e4, e5⟩, h2, h3⟩ := hs
  exact ⟨⟨ys, g, d, e1, e2, e3, e4, beAt_own n Bb _ e5 hg (fun r e => (hr r e).2)⟩, kpB_own h2 hg (fun r e => (hr r e).2), ownFrom_below (β := Unit) (Nat.le_refl _) hB () V V' row h3 hg hr⟩
set_option maxRecDepth 100000 in
set_option maxHeartbeats 8000000 in
theorem p_lightest (HSO : SortsO) (b off cap : Nat) (ps : List Gs.Sup) (m X Y : Int) (w : World) (hc : SupsO w b off ps) (hE : boE ps m X Y = 0) :
    Calls Try.prog 16 #[.slice (some ⟨b, off, none⟩) ps.length cap, .int .i64 m, pt X Y] w fun e w' => ∃ (l : List Nat) (be : BestA), l.Perm (List.range ps.length) ∧ l.Pairwise (ltS ps) ∧ be.map (·.2) = bestD ps m X Y l ∧ e = .returned (beA ps.length be) ∧ (∀ g d v, be = some (g, d, v) → Bx w' g (cellsI d)) ∧ Up w w' := by
  obtain ⟨hat, hm1, hm2⟩ := boE_ok hE
  obtain ⟨ho, hn, h3, _⟩ := chE_ok (atE_ok hat).1
  have h0 : 0 < ps.length := by omega
  refine (callsIn_wide (n := 9)).1 ?_
  have hh : ∀ (V : World) (g : Nat) (d : List Int), SupsO V b off ps → Bx V g (cellsI d) → d.length = ps.length → Calls Try.prog 34 #[.slice (some ⟨b, off, none⟩) ps.length cap, .slice (some ⟨g, 0, none⟩) d.length d.length, .int .i64 m, pt X Y] V fun e w' => e = .returned (.tuple #[.int .i64 (hvV ps m X Y d), .bool (hvB ps m X Y d)]) ∧ Up V w' :=
    fun V g d hV hd hl => p_heaviest (some ⟨b, off, none⟩) ps cap (some ⟨g, 0, none⟩) d d.length m X Y hl h0 hn V (.inr ⟨b, off, rfl, hV⟩) (bx_intsG hd)
  have HH := hide hh
  clear hh
  have HLe := hide (fun (d : List Int) (hd : d.length = ps.length) (h : hvB ps m X Y d = true) => hv_least hd h)
  have HSq := hide (fun (B Bs : Nat) (W : World) (h : W.cell? ⟨Bs, 0, none⟩ = _) (hS : SupsO W b off ps) (h1 : Bs ≠ B) (h2 : b ≠ B) (h3 : B < W.heap.size) => dv_seq HSO B Bs b off cap ps ho h0 hn W h hS h1 h2 h3 8 (by omega))
  have hamt : amt m * amt 1 < (ps.length : Int) * 4611686018427387904 := by
    have a : amt m = m := by unfold amt; split <;> omega
    have b : amt 1 = 1 := by decide
    rw [a, b]; omega
  have HU := hide (fun (V : World) => p_up m (ps.length : Int) 1 V (by omega) (by omega) (by omega) hamt)
  clear hamt
  have HDL := hide (fun (l : List Nat) => dvs_len (ps := ps) (l := l))
  have HC := hide hc
  have hbw : b < w.heap.size := World.block_lt_of_cell? _ _ (hc 0 h0).1
  unfold bestD
  obtain ⟨ok, hok⟩ : ∃ ok, hvB ps m X Y = ok := ⟨_, rfl⟩
  obtain ⟨vl, hvl⟩ : ∃ vl, hvV ps m X Y = vl := ⟨_, rfl⟩
  obtain ⟨L, hL⟩ : ∃ L, up m (ps.length : Int) 1 = L := ⟨_, rfl⟩
  rw [hok, hvl] at HH ⊢
  rw [hok, hvl, hL] at HLe
  rw [hL] at HU
  clear hc hE hat ho hok hvl hL
  obtain ⟨n, hN⟩ : ∃ n, ps.length = n := ⟨_, rfl⟩
  have HN := hide hN
  rw [hN] at h0 hn h3 HH HLe HSq HU HDL ⊢
  clear hN
  have h1 : 1 ≤ 9 := by omega
  have rO : Fence.wide.round = none := rfl
  have hmx : Try.prog.follows .mixedOrders = true := by kernel_rfl
  refine callsIn_of_wp_marks Try.func16 rfl trivial ?_ rfl
  simp only [Try.ntmps16, List.size_toArray, List.length_cons, List.length_nil, Nat.reduceAdd, Nat.reduceSub, Array.replicate_succ, Array.replicate_zero, List.push_toArray, List.append_toArray, List.nil_append, List.cons_append]
  gi_wp2
  refine wpIn_wide.2 (wp_scope_straight ((wpIn_wide (n := 9)).1 ?_))
  gi_upto_region 3 with ((try refine ⟨trivial, ?_⟩); gi_at_call 24; (with_reducible refine CallsIn.mono (callsIn_wide.2 (unhide HU _)) ?_); rintro e w1 ⟨rfl, hb1⟩)
  refine at_wpIn (fun Wa hWa => ?_)
  have hz1 : w.heap.size + 1 + 1 + 1 + 1 < w1.heap.size := by have t := up_size hb1; simp only [World.size_alloc] at t; omega
  have hza : Wa.heap.size = w1.heap.size + 1 := by rw [hWa]; simp
  have UA : Up w Wa := by rw [hWa]; exact (by repeat' (first | (with_reducible exact up_refl _) | (with_reducible assumption) | (with_reducible refine up_alloc ?_ _) | (with_reducible refine up_drewN ?_ _) | (with_reducible refine up_drew ?_) | (with_reducible refine up_set ?_ (by first | (simp; done) | (simp; omega) | omega) _) | (refine up_trans ?_ (by with_reducible assumption))))
  have t0 := bx_new w [.slice (some ⟨b, off, none⟩) n cap] 22
  have t1 := bx_new (w.alloc (.cells #[.slice (some ⟨b, off, none⟩) n cap] 22)) [.int .i64 m] 2
  have t2 := bx_new ((w.alloc (.cells #[.slice (some ⟨b, off, none⟩) n cap] 22)).alloc (.cells #[.int .i64 m] 2)) [.int .i64 X, .int .i64 Y] 24
  have t3 := bx_new (((w.alloc (.cells #[.slice (some ⟨b, off, none⟩) n cap] 22)).alloc (.cells #[.int .i64 m] 2)).alloc (.cells #[.int .i64 X, .int .i64 Y] 24)) [.slice none 0 0, .int .i64 0] 28
  have t4 := bx_new ((((w.alloc (.cells #[.slice (some ⟨b, off, none⟩) n cap] 22)).alloc (.cells #[.int .i64 m] 2)).alloc (.cells #[.int .i64 X, .int .i64 Y] 24)).alloc (.cells #[.slice none 0 0, .int .i64 0] 28)) [.slice none 0 0, .int .i64 0] 28
  have a0 := bx_alloc (bx_up t0 (show Up _ w1 from (by repeat' (first | (with_reducible exact up_refl _) | (with_reducible assumption) | (with_reducible refine up_alloc ?_ _) | (with_reducible refine up_drewN ?_ _) | (with_reducible refine up_drew ?_) | (with_reducible refine up_set ?_ (by first | (simp; done) | (simp; omega) | omega) _) | (refine up_trans ?_ (by with_reducible assumption)))))) (.cells #[.int .i64 L] 2)
  have a1 := bx_alloc (bx_up t1 (show Up _ w1 from (by repeat' (first | (with_reducible exact up_refl _) | (with_reducible assumption) | (with_reducible refine up_alloc ?_ _) | (with_reducible refine up_drewN ?_ _) | (with_reducible refine up_drew ?_) | (with_reducible refine up_set ?_ (by first | (simp; done) | (simp; omega) | omega) _) | (refine up_trans ?_ (by with_reducible assumption)))))) (.cells #[.int .i64 L] 2)
  have a2 := bx_alloc (bx_up t2 (show Up _ w1 from (by repeat' (first | (with_reducible exact up_refl _) | (with_reducible assumption) | (with_reducible refine up_alloc ?_ _) | (with_reducible refine up_drewN ?_ _) | (with_reducible refine up_drew ?_) | (with_reducible refine up_set ?_ (by first | (simp; done) | (simp; omega) | omega) _) | (refine up_trans ?_ (by with_reducible assumption)))))) (.cells #[.int .i64 L] 2)
  have a3 := bx_alloc (bx_up t3 (show Up _ w1 from (by repeat' (first | (with_reducible exact up_refl _) | (with_reducible assumption) | (with_reducible refine up_alloc ?_ _) | (with_reducible refine up_drewN ?_ _) | (with_reducible refine up_drew ?_) | (with_reducible refine up_set ?_ (by first | (simp; done) | (simp; omega) | omega) _) | (refine up_trans ?_ (by with_reducible assumption)))))) (.cells #[.int .i64 L] 2)
  have a4 := bx_alloc (bx_up t4 hb1) (.cells #[.int .i64 L] 2)
  have a5 : Bx Wa w1.heap.size [.int .i64 L] := by rw [hWa]; exact bx_new w1 _ _
  rw [← hWa] at a0 a1 a2 a3 a4
  simp only [World.size_alloc] at a1 a2 a3 a4
  clear t0 t1 t2 t3 t4 hWa hb1
  have c0 := bx1 a0
  apply wpIn_label
  gi_wp2_with ((try refine ⟨trivial, ?_⟩); gi_at_call 33; (with_reducible refine CallsIn.mono (dv_make _ _ _ _ _) ?_); rintro e w2 ⟨rfl, rfl⟩)
  refine at_wpIn (fun W0 hW0 => ?_)
  have U0 : Up w W0 := by rw [hW0]; exact (by repeat' (first | (with_reducible exact up_refl _) | (with_reducible assumption) | (with_reducible refine up_alloc ?_ _) | (with_reducible refine up_drewN ?_ _) | (with_reducible refine up_drew ?_) | (with_reducible refine up_set ?_ (by first | (simp; done) | (simp; omega) | omega) _) | (refine up_trans ?_ (by with_reducible assumption))))
  have b0 := bx_alloc a0 (.cells #[.slice (some ⟨b, off, none⟩) n cap] 22)
  have b1 := bx_alloc a1 (.cells #[.slice (some ⟨b, off, none⟩) n cap] 22)
  have b2 := bx_alloc a2 (.cells #[.slice (some ⟨b, off, none⟩) n cap] 22)
  have b3 := bx_alloc a3 (.cells #[.slice (some ⟨b, off, none⟩) n cap] 22)
  have b4 := bx_alloc a4 (.cells #[.slice (some ⟨b, off, none⟩) n cap] 22)
  have b5 := bx_alloc a5 (.cells #[.slice (some ⟨b, off, none⟩) n cap] 22)
  have b6 := bx_new Wa [.slice (some ⟨b, off, none⟩) n cap] 22
  rw [← hW0] at b0 b1 b2 b3 b4 b5 b6
  rw [hza] at b6
  have hz0 : W0.heap.size = w1.heap.size + 1 + 1 := by rw [hW0, ← hza]; simp
  have hsq := unhide HSq (w.heap.size + 1 + 1 + 1 + 1) (w1.heap.size + 1) W0 (bx1 b6) (supsO_up (unhide HC) U0) (by omega) (by omega) (by omega)
  clear a0 a1 a2 a3 a4 a5 hW0 c0 UA
  have HB := hide (⟨b0, b1, b2, b3, b5⟩ : Bx W0 _ _ ∧ Bx W0 _ _ ∧ Bx W0 _ _ ∧ Bx W0 _ _ ∧ Bx W0 _ _)
  have HU0 := hide U0
  clear b0 b1 b2 b3 b5 b6 HU HSq U0
  refine wpIn_rangeFunc_ownY rO h1 (gf := 47) (lb := #[.pointer (some ⟨w1.heap.size + 1, 0, none⟩)]) rfl trivial (enters_of Try.func47 (by kernel_rfl) rfl)
      hsq (Below.refl _ _) kpB_trans (fun V j o o' _ h hc _ => kpB_put _ V j o o' h hc) (fun _ => rfl)
      (LiI n (w.heap.size + 1 + 1 + 1 + 1) ok vl L w W0) (fun c xs V => c = .exit 0 ∧ LiX n (w.heap.size + 1 + 1 + 1 + 1) ok vl L w W0 xs V) (liI_own (by omega)) (fun c => OwnFrom.and (ownFrom_pure _ (fun _ => c = .exit 0)) (liX_own (by omega)))
      ⟨⟨b4, (fun _ _ _ e => nomatch e)⟩, (fun _ e => nomatch e), kpB_refl _ _, unhide HU0⟩
      (fun _ x a' V => (Bx V x.1 (cellsI x.2) ∧ x.2.length = n ∧ x.1 ≠ w.heap.size + 1 + 1 + 1 + 1) ∧ a' = { tmps := #[.slice (some ⟨b, off, none⟩) n cap, .int .i64 m, pt X Y, .pointer (some ⟨w.heap.size, 0, none⟩), .pointer (some ⟨w.heap.size + 1, 0, none⟩), .pointer (some ⟨w.heap.size + 1 + 1, 0, none⟩), .pointer (some ⟨w.heap.size + 1 + 1 + 1, 0, none⟩), .pointer (some ⟨w.heap.size + 1 + 1 + 1 + 1, 0, none⟩), .pointer (some ⟨w1.heap.size, 0, none⟩), .slice (some ⟨x.1, 0, none⟩) n n, undef, undef, .int .i64 m, .slice (some ⟨b, off, none⟩) n cap, .int .i64 (n : Int), .agg #[.int .i64 m, .int .i64 (n : Int)], .int .i64 L, .slice (some ⟨b, off, none⟩) n cap, .func (.func 47) #[] #[.pointer (some ⟨w1.heap.size + 1, 0, none⟩)], .slice (some ⟨x.1, 0, none⟩) n n, undef, undef, undef, undef, undef, undef, undef, undef, undef, undef, undef, undef, undef, undef, undef, undef, undef, undef, undef, undef, undef, undef, undef, undef, undef, undef, undef, undef, undef, undef, undef, undef], defers := [] })
      (fun _ x a' _ X Y row hs hg hr => ⟨⟨bx_own hs.1.1 hg (fun r e => (hr r e).2), hs.1.2⟩, hs.2⟩)
      ?assign ?body ?done ?stop
  case assign =>
    rintro lp xs x V K hI ⟨⟨hB, hl⟩, hg⟩ hK
    gi_wp2
    exact hK _ _ (KeepsFrom.refl _ _) (kpB_refl _ _) hI ⟨⟨hB, hl, by omega⟩, rfl⟩
  case body =>
    rintro lp xs ⟨g, d⟩ a' V hlo hrec hI ⟨⟨hB, hld, hgB⟩, rfl⟩
    dsimp only at hB hld hgB ⊢
    obtain ⟨b0, b1, b2, b3, b5⟩ := unhide HB
    have c0 := bx1 (bx_kpB b0 hI.kp (by omega))
    have c1 := bx1 (bx_kpB b1 hI.kp (by omega))
    obtain ⟨c2, c3⟩ := bx2 (bx_kpB b2 hI.kp (by omega))
    have c5 := bx1 (bx_kpB b5 hI.kp (by omega))
    clear b0 b1 b2 b3 b5 hrec
    have HHd := hide (fun V' (hV : Up V V') => unhide HH V' g d (supsO_up (unhide HC) (up_trans hI.up hV)) (bx_up hB hV) hld)
    rw [hld] at HHd
    have hlv := fun (h : ok d = true) => unhide HLe d hld h
    have hsn := bA_snoc ok vl (g, d) xs none
    obtain ⟨hat, hlt, hkp, hup⟩ := hI
    obtain ⟨be, hbe⟩ : ∃ be, bA ok vl xs none = be := ⟨_, rfl⟩
    rw [hbe] at hat hlt hsn
    obtain ⟨v, hv⟩ : ∃ v, vl d = v := ⟨_, rfl⟩
    rw [hv] at HHd hlv
    simp only [hv] at hsn
    obtain ⟨o, hok⟩ : ∃ o, ok d = o := ⟨_, rfl⟩
    rw [hok] at HHd hlv hsn
    have HAT := hide hat
    have HLT := hide hlt
    have HKP := hide hkp
    have HUP := hide hup
    have HBx := hide hB
    have HSN := hide hsn
    have HBE := hide hbe
    have HV := hide hv
    have HOK := hide hok
    have hnil := fun a c W => nilG a n c W
    clear hat hlt hkp hup hB hsn hbe hv hok HH HLe HB HU0 HDL HC
    rcases (show o = false ∨ o = true by cases o <;> simp) with ho | ho
    · have HX : Hid (bA ok vl (xs ++ [(g, d)]) none = be) := hide (by rw [unhide HSN]; exact if_neg (by rw [ho]; rintro ⟨h, _⟩; cases h))
      clear HSN hlv
      subst ho
      gi_wp2_with ((try refine ⟨trivial, ?_⟩); gi_at_call 34; (with_reducible refine CallsIn.mono (CallsIn.inRound lp (callsIn_wide.2 (unhide HHd _ (by repeat' (first | (with_reducible exact up_refl _) | (with_reducible assumption) | (with_reducible refine up_alloc ?_ _) | (with_reducible refine up_drewN ?_ _) | (with_reducible refine up_drew ?_) | (with_reducible refine up_set ?_ (by first | (simp; done) | (simp; omega) | omega) _) | (refine up_trans ?_ (by with_reducible assumption))))))) ?_); rintro e V1 ⟨rfl, hu⟩; have d5 := up_cell hu c5)
      refine ⟨up_kf hu, kpB_up hu, ⟨?_, ?_, kpB_trans (unhide HKP) (kpB_up hu), up_trans (unhide HUP) hu⟩⟩
      · rw [unhide HX]; exact beAt_up (unhide HAT) hu
      · rw [unhide HX]; exact unhide HLT
    · have hL := hlv ho
      have hsn : (be = none ∨ ∀ c, be = some c → v < c.2.2) → bA ok vl (xs ++ [(g, d)]) none = some (g, d, v) := fun h => by rw [unhide HSN]; exact if_pos ⟨ho, h⟩
      have hsm : ¬ (be = none ∨ ∀ c, be = some c → v < c.2.2) → bA ok vl (xs ++ [(g, d)]) none = be := fun h => by rw [unhide HSN]; exact if_neg (fun k => h k.2)
      clear HSN hlv
      subst ho
      by_cases e1 : v = L
      · subst e1
        obtain ⟨p, q, hpq⟩ : ∃ p q, beV n be = [p, q] := by cases be <;> exact ⟨_, _, rfl⟩
        have HQ : Hid (Bx V (w.heap.size + 1 + 1 + 1 + 1) [p, q]) := hide (hpq ▸ (unhide HAT).1)
        clear hpq hL hsn hsm
        gi_wp2_with ((try refine ⟨trivial, ?_⟩); gi_at_call 34; (with_reducible refine CallsIn.mono (CallsIn.inRound lp (callsIn_wide.2 (unhide HHd _ (by repeat' (first | (with_reducible exact up_refl _) | (with_reducible assumption) | (with_reducible refine up_alloc ?_ _) | (with_reducible refine up_drewN ?_ _) | (with_reducible refine up_drew ?_) | (with_reducible refine up_set ?_ (by first | (simp; done) | (simp; omega) | omega) _) | (refine up_trans ?_ (by with_reducible assumption))))))) ?_); rintro e V1 ⟨rfl, hu⟩; have d5 := up_cell hu c5; have HQ1 := bx_up (unhide HQ) hu; obtain ⟨p0, p1⟩ := bx2 HQ1; obtain ⟨f0, f1⟩ := bxf2 HQ1)
        refine ⟨((up_kf hu).trans ((KeepsOthers.setCell _ _ _).from _)).trans ((KeepsOthers.setCell _ _ _).from _), rfl, ⟨⟨xs, g, d, rfl, fun c hc => unhide HLT c ((unhide HBE).symm.trans hc), unhide HOK, unhide HV, beAt_set (beAt_up (unhide HAT) hu) (bx_up (unhide HBx) hu) hgB _⟩, kpB_trans (unhide HKP) (kpB_trans (kpB_up hu) (kpB_trans (kpB_set _ _ _ _) (kpB_set _ _ _ _))), up_set (up_set (up_trans (unhide HUP) hu) (by simp only; omega) _) (by simp only; omega) _⟩⟩
      · have e2 : (v == L) = false := beq_false_of_ne e1
        have hgt : L < v := by omega
        clear hL e1
        have hnil0 := fun W => nilG0 W
        rcases be with _ | ⟨g0, d0, v0⟩
        · have HQ : Hid (Bx V (w.heap.size + 1 + 1 + 1 + 1) [.slice none 0 0, .int .i64 0]) := hide (unhide HAT).1
          have HX := hide (hsn (.inl rfl))
          clear hsn hsm
          gi_wp2_with ((try refine ⟨trivial, ?_⟩); gi_at_call 34; (with_reducible refine CallsIn.mono (CallsIn.inRound lp (callsIn_wide.2 (unhide HHd _ (by repeat' (first | (with_reducible exact up_refl _) | (with_reducible assumption) | (with_reducible refine up_alloc ?_ _) | (with_reducible refine up_drewN ?_ _) | (with_reducible refine up_drew ?_) | (with_reducible refine up_set ?_ (by first | (simp; done) | (simp; omega) | omega) _) | (refine up_trans ?_ (by with_reducible assumption))))))) ?_); rintro e V1 ⟨rfl, hu⟩; have d5 := up_cell hu c5; have HQ1 := bx_up (unhide HQ) hu; obtain ⟨p0, p1⟩ := bx2 HQ1; obtain ⟨f0, f1⟩ := bxf2 HQ1)
          refine ⟨((up_kf hu).trans ((KeepsOthers.setCell _ _ _).from _)).trans ((KeepsOthers.setCell _ _ _).from _), kpB_trans (kpB_up hu) (kpB_trans (kpB_set _ _ _ _) (kpB_set _ _ _ _)), ⟨?_, ?_, kpB_trans (unhide HKP) (kpB_trans (kpB_up hu) (kpB_trans (kpB_set _ _ _ _) (kpB_set _ _ _ _))), up_set (up_set (up_trans (unhide HUP) hu) (by simp only; omega) _) (by simp only; omega) _⟩⟩
          · rw [unhide HX]; exact beAt_set (beAt_up (unhide HAT) hu) (bx_up (unhide HBx) hu) hgB _
          · rw [unhide HX]; rintro c hc; cases hc; exact hgt
        have HQ : Hid (Bx V (w.heap.size + 1 + 1 + 1 + 1) [.slice (some ⟨g0, 0, none⟩) n n, .int .i64 v0]) := hide (unhide HAT).1
        by_cases e3 : v < v0
        · have HX := hide (hsn (.inr (fun c hc => by cases hc; exact e3)))
          clear hsn hsm
          gi_wp2_with ((try refine ⟨trivial, ?_⟩); gi_at_call 34; (with_reducible refine CallsIn.mono (CallsIn.inRound lp (callsIn_wide.2 (unhide HHd _ (by repeat' (first | (with_reducible exact up_refl _) | (with_reducible assumption) | (with_reducible refine up_alloc ?_ _) | (with_reducible refine up_drewN ?_ _) | (with_reducible refine up_drew ?_) | (with_reducible refine up_set ?_ (by first | (simp; done) | (simp; omega) | omega) _) | (refine up_trans ?_ (by with_reducible assumption))))))) ?_); rintro e V1 ⟨rfl, hu⟩; have d5 := up_cell hu c5; have HQ1 := bx_up (unhide HQ) hu; obtain ⟨p0, p1⟩ := bx2 HQ1; obtain ⟨f0, f1⟩ := bxf2 HQ1)
          refine ⟨((up_kf hu).trans ((KeepsOthers.setCell _ _ _).from _)).trans ((KeepsOthers.setCell _ _ _).from _), kpB_trans (kpB_up hu) (kpB_trans (kpB_set _ _ _ _) (kpB_set _ _ _ _)), ⟨?_, ?_, kpB_trans (unhide HKP) (kpB_trans (kpB_up hu) (kpB_trans (kpB_set _ _ _ _) (kpB_set _ _ _ _))), up_set (up_set (up_trans (unhide HUP) hu) (by simp only; omega) _) (by simp only; omega) _⟩⟩
          · rw [unhide HX]; exact beAt_set (beAt_up (unhide HAT) hu) (bx_up (unhide HBx) hu) hgB _
          · rw [unhide HX]; rintro c hc; cases hc; exact hgt
        · have HX := hide (hsm (fun h => h.elim (fun k => by cases k) (fun k => e3 (k _ rfl))))
          have e4 : decide (v < v0) = false := decide_eq_false e3
          clear hsn hsm
          gi_wp2_with ((try refine ⟨trivial, ?_⟩); gi_at_call 34; (with_reducible refine CallsIn.mono (CallsIn.inRound lp (callsIn_wide.2 (unhide HHd _ (by repeat' (first | (with_reducible exact up_refl _) | (with_reducible assumption) | (with_reducible refine up_alloc ?_ _) | (with_reducible refine up_drewN ?_ _) | (with_reducible refine up_drew ?_) | (with_reducible refine up_set ?_ (by first | (simp; done) | (simp; omega) | omega) _) | (refine up_trans ?_ (by with_reducible assumption))))))) ?_); rintro e V1 ⟨rfl, hu⟩; have d5 := up_cell hu c5; have HQ1 := bx_up (unhide HQ) hu; obtain ⟨p0, p1⟩ := bx2 HQ1; obtain ⟨f0, f1⟩ := bxf2 HQ1)
          refine ⟨up_kf hu, kpB_up hu, ⟨?_, ?_, kpB_trans (unhide HKP) (kpB_up hu), up_trans (unhide HUP) hu⟩⟩
          · rw [unhide HX]; exact beAt_up (unhide HAT) hu
          · rw [unhide HX]; exact unhide HLT
  case done =>
    rintro D xs V hD ⟨l, hp, hs, hx⟩ ⟨hat, _, hkp, hup⟩ hK
    have hbe : (bA ok vl xs none).map (·.2) = bAll ok vl none (dvs ps l) := by rw [bA_all, hx]; rfl
    obtain ⟨be, hb⟩ : ∃ be, bA ok vl xs none = be := ⟨_, rfl⟩
    rw [hb] at hat hbe
    have hlen := best_len hbe (unhide HDL l) h0
    clear hb hx
    obtain ⟨b0, b1, b2, b3, b5⟩ := unhide HB
    have r3 := bx_kpB b3 hkp (by omega)
    obtain ⟨z0, z1⟩ := bx2 r3
    obtain ⟨y0, y1⟩ := bxf2 r3
    clear b0 b1 b2 b3 b5
    rcases be with _ | ⟨g1, d1, v1⟩
    · have hb1 : Bx V _ [.slice none 0 0, .int .i64 0] := hat.1
      obtain ⟨p0, p1⟩ := bx2 hb1
      have hK1 := (KeepsOthers.setCell (V.setCell ⟨w.heap.size + 1 + 1 + 1, 0, none⟩ (.slice none 0 0)) ⟨w.heap.size + 1 + 1 + 1, 1, none⟩ (.int .i64 0)).same D _ ((KeepsOthers.setCell V ⟨w.heap.size + 1 + 1 + 1, 0, none⟩ (.slice none 0 0)).same D _ hK rfl) rfl
      have R9 := bx_own (bx_set2 (v0 := .slice none 0 0) (v1 := .int .i64 0) r3) (grownBy_putObj' _ D (.deferred none)) (fun r e => by cases e; exact ⟨_, hK1, rfl⟩)
      obtain ⟨q0, q1⟩ := bx2 R9
      have HQ := hide (fun g d v (e : (none : BestA) = some (g, d, v)) => bx_own (bx_far (bx_far (hat.2 g d v e).1 (p := ⟨w.heap.size + 1 + 1 + 1, 0, none⟩) (fun e' => bx_neS (hat.2 g d v e).1 (hlen g d v e) r3 (fun _ k => by cases k) e'.symm) (.slice none 0 0)) (p := ⟨w.heap.size + 1 + 1 + 1, 1, none⟩) (fun e' => bx_neS (hat.2 g d v e).1 (hlen g d v e) r3 (fun _ k => by cases k) e'.symm) (.int .i64 0)) (grownBy_putObj' _ D (.deferred none)) (fun r e => by cases e; exact ⟨_, hK1, rfl⟩))
      have HUp : Hid (Up w (((V.setCell ⟨w.heap.size + 1 + 1 + 1, 0, none⟩ (.slice none 0 0)).setCell ⟨w.heap.size + 1 + 1 + 1, 1, none⟩ (.int .i64 0)).putObj D (.deferred none))) := hide (Below.trans (up_set (up_set hup (by simp only; omega) (.slice none 0 0)) (by simp only; omega) (.int .i64 0)) (belowK_b (w := w) (Nat.le_refl _) _ D _ _ (by omega) hK1 rfl rfl))
      have HBE := hide hbe
      clear R9 hat hb1 hbe hkp hup hlen r3
      gi_wp2
      refine ⟨by simp, .inl ⟨_, _, rfl, run_takeDeferred hK1, ?_⟩⟩
      refine ⟨beA n (none : BestA), ?_, ⟨l, (none : BestA), hp, hs, unhide HBE, rfl, unhide HQ, unhide HUp⟩⟩
      simp [results, Try.f16, go_sem, q0, q1, beA]
    · have hb1 : Bx V _ [.slice (some ⟨g1, 0, none⟩) n n, .int .i64 v1] := hat.1
      obtain ⟨p0, p1⟩ := bx2 hb1
      have hK1 := (KeepsOthers.setCell (V.setCell ⟨w.heap.size + 1 + 1 + 1, 0, none⟩ (.slice (some ⟨g1, 0, none⟩) n n)) ⟨w.heap.size + 1 + 1 + 1, 1, none⟩ (.int .i64 v1)).same D _ ((KeepsOthers.setCell V ⟨w.heap.size + 1 + 1 + 1, 0, none⟩ (.slice (some ⟨g1, 0, none⟩) n n)).same D _ hK rfl) rfl
      have R9 := bx_own (bx_set2 (v0 := .slice (some ⟨g1, 0, none⟩) n n) (v1 := .int .i64 v1) r3) (grownBy_putObj' _ D (.deferred none)) (fun r e => by cases e; exact ⟨_, hK1, rfl⟩)
      obtain ⟨q0, q1⟩ := bx2 R9
      have HQ := hide (fun g d v (e : (some (g1, d1, v1) : BestA) = some (g, d, v)) => bx_own (bx_far (bx_far (hat.2 g d v e).1 (p := ⟨w.heap.size + 1 + 1 + 1, 0, none⟩) (fun e' => bx_neS (hat.2 g d v e).1 (hlen g d v e) r3 (fun _ k => by cases k) e'.symm) (.slice (some ⟨g1, 0, none⟩) n n)) (p := ⟨w.heap.size + 1 + 1 + 1, 1, none⟩) (fun e' => bx_neS (hat.2 g d v e).1 (hlen g d v e) r3 (fun _ k => by cases k) e'.symm) (.int .i64 v1)) (grownBy_putObj' _ D (.deferred none)) (fun r e => by cases e; exact ⟨_, hK1, rfl⟩))
      have HUp : Hid (Up w (((V.setCell ⟨w.heap.size + 1 + 1 + 1, 0, none⟩ (.slice (some ⟨g1, 0, none⟩) n n)).setCell ⟨w.heap.size + 1 + 1 + 1, 1, none⟩ (.int .i64 v1)).putObj D (.deferred none))) := hide (Below.trans (up_set (up_set hup (by simp only; omega) (.slice (some ⟨g1, 0, none⟩) n n)) (by simp only; omega) (.int .i64 v1)) (belowK_b (w := w) (Nat.le_refl _) _ D _ _ (by omega) hK1 rfl rfl))
      have HBE := hide hbe
      clear R9 hat hb1 hbe hkp hup hlen r3
      gi_wp2
      refine ⟨by simp, .inl ⟨_, _, rfl, run_takeDeferred hK1, ?_⟩⟩
      refine ⟨beA n (some (g1, d1, v1) : BestA), ?_, ⟨l, (some (g1, d1, v1) : BestA), hp, hs, unhide HBE, rfl, unhide HQ, unhide HUp⟩⟩
      simp [results, Try.f16, go_sem, q0, q1, beA, slV]
  case stop =>
    rintro D c xs V hD ⟨l, Dr, hp, hs, hx⟩ ⟨rfl, ⟨⟨ys, g, d, rfl, hlt, hok, hvl, hat⟩, hkp, hup⟩⟩ hK
    have hbe : (some (g, d, L) : BestA).map (·.2) = bAll ok vl none (dvs ps l) := (best_stop hx hlt hok hvl (fun x hx hk => unhide HLe x (unhide HDL l x hx) hk)).symm
    obtain ⟨be, hb⟩ : ∃ be, (some (g, d, L) : BestA) = be := ⟨_, rfl⟩
    rw [hb] at hat hbe
    have hlen := best_len hbe (unhide HDL l) h0
    clear hb hx hlt hok hvl
    obtain ⟨b0, b1, b2, b3, b5⟩ := unhide HB
    have r3 := bx_kpB b3 hkp (by omega)
    obtain ⟨z0, z1⟩ := bx2 r3
    obtain ⟨y0, y1⟩ := bxf2 r3
    clear b0 b1 b2 b3 b5
    rcases be with _ | ⟨g1, d1, v1⟩
    · have hb1 : Bx V _ [.slice none 0 0, .int .i64 0] := hat.1
      obtain ⟨p0, p1⟩ := bx2 hb1
      have hK1 := (KeepsOthers.setCell (V.setCell ⟨w.heap.size + 1 + 1 + 1, 0, none⟩ (.slice none 0 0)) ⟨w.heap.size + 1 + 1 + 1, 1, none⟩ (.int .i64 0)).same D _ ((KeepsOthers.setCell V ⟨w.heap.size + 1 + 1 + 1, 0, none⟩ (.slice none 0 0)).same D _ hK rfl) rfl
      have R9 := bx_own (bx_set2 (v0 := .slice none 0 0) (v1 := .int .i64 0) r3) (grownBy_putObj' _ D (.deferred none)) (fun r e => by cases e; exact ⟨_, hK1, rfl⟩)
      obtain ⟨q0, q1⟩ := bx2 R9
      have HQ := hide (fun g d v (e : (none : BestA) = some (g, d, v)) => bx_own (bx_far (bx_far (hat.2 g d v e).1 (p := ⟨w.heap.size + 1 + 1 + 1, 0, none⟩) (fun e' => bx_neS (hat.2 g d v e).1 (hlen g d v e) r3 (fun _ k => by cases k) e'.symm) (.slice none 0 0)) (p := ⟨w.heap.size + 1 + 1 + 1, 1, none⟩) (fun e' => bx_neS (hat.2 g d v e).1 (hlen g d v e) r3 (fun _ k => by cases k) e'.symm) (.int .i64 0)) (grownBy_putObj' _ D (.deferred none)) (fun r e => by cases e; exact ⟨_, hK1, rfl⟩))
      have HUp : Hid (Up w (((V.setCell ⟨w.heap.size + 1 + 1 + 1, 0, none⟩ (.slice none 0 0)).setCell ⟨w.heap.size + 1 + 1 + 1, 1, none⟩ (.int .i64 0)).putObj D (.deferred none))) := hide (Below.trans (up_set (up_set hup (by simp only; omega) (.slice none 0 0)) (by simp only; omega) (.int .i64 0)) (belowK_b (w := w) (Nat.le_refl _) _ D _ _ (by omega) hK1 rfl rfl))
      have HBE := hide hbe
      clear R9 hat hb1 hbe hkp hup hlen r3
      gi_wp2
      refine ⟨by simp, .inl ⟨_, _, rfl, run_takeDeferred hK1, ?_⟩⟩
      refine ⟨beA n (none : BestA), ?_, ⟨l, (none : BestA), hp, hs, unhide HBE, rfl, unhide HQ, unhide HUp⟩⟩
      simp [results, Try.f16, go_sem, q0, q1, beA]
    · have hb1 : Bx V _ [.slice (some ⟨g1, 0, none⟩) n n, .int .i64 v1] := hat.1
      obtain ⟨p0, p1⟩ := bx2 hb1
      have hK1 := (KeepsOthers.setCell (V.setCell ⟨w.heap.size + 1 + 1 + 1, 0, none⟩ (.slice (some ⟨g1, 0, none⟩) n n)) ⟨w.heap.size + 1 + 1 + 1, 1, none⟩ (.int .i64 v1)).same D _ ((KeepsOthers.setCell V ⟨w.heap.size + 1 + 1 + 1, 0, none⟩ (.slice (some ⟨g1, 0, none⟩) n n)).same D _ hK rfl) rfl
      have R9 := bx_own (bx_set2 (v0 := .slice (some ⟨g1, 0, none⟩) n n) (v1 := .int .i64 v1) r3) (grownBy_putObj' _ D (.deferred none)) (fun r e => by cases e; exact ⟨_, hK1, rfl⟩)
      obtain ⟨q0, q1⟩ := bx2 R9
      have HQ := hide (fun g d v (e : (some (g1, d1, v1) : BestA) = some (g, d, v)) => bx_own (bx_far (bx_far (hat.2 g d v e).1 (p := ⟨w.heap.size + 1 + 1 + 1, 0, none⟩) (fun e' => bx_neS (hat.2 g d v e).1 (hlen g d v e) r3 (fun _ k => by cases k) e'.symm) (.slice (some ⟨g1, 0, none⟩) n n)) (p := ⟨w.heap.size + 1 + 1 + 1, 1, none⟩) (fun e' => bx_neS (hat.2 g d v e).1 (hlen g d v e) r3 (fun _ k => by cases k) e'.symm) (.int .i64 v1)) (grownBy_putObj' _ D (.deferred none)) (fun r e => by cases e; exact ⟨_, hK1, rfl⟩))
      have HUp : Hid (Up w (((V.setCell ⟨w.heap.size + 1 + 1 + 1, 0, none⟩ (.slice (some ⟨g1, 0, none⟩) n n)).setCell ⟨w.heap.size + 1 + 1 + 1, 1, none⟩ (.int .i64 v1)).putObj D (.deferred none))) := hide (Below.trans (up_set (up_set hup (by simp only; omega) (.slice (some ⟨g1, 0, none⟩) n n)) (by simp only; omega) (.int .i64 v1)) (belowK_b (w := w) (Nat.le_refl _) _ D _ _ (by omega) hK1 rfl rfl))
      have HBE := hide hbe
      clear R9 hat hb1 hbe hkp hup hlen r3
      gi_wp2
      refine ⟨by simp, .inl ⟨_, _, rfl, run_takeDeferred hK1, ?_⟩⟩
      refine ⟨beA n (some (g1, d1, v1) : BestA), ?_, ⟨l, (some (g1, d1, v1) : BestA), hp, hs, unhide HBE, rfl, unhide HQ, unhide HUp⟩⟩
      simp [results, Try.f16, go_sem, q0, q1, beA, slV]
end Go.Proofs.Ytepblnnebeglbaa
namespace Go.Proofs.Ytepblnnebeglbaa
open Go.RowKit Go.Proofs.Gn
set_option maxRecDepth 100000 in
set_option maxHeartbeats 8000000 in
theorem p_Divide (HSO : SortsO) (A : Option Addr) (ps : List Gs.Sup) (cap : Nat) (m X Y : Int) (w : World) (h : Sups w A ps) (hn : ps.length ≤ 9223372036854775807) :
    Calls Try.prog 6 #[.slice A ps.length cap, .int .i64 m, pt X Y] w fun e w' => ∃ be : BestA, DvPost ps m X Y be w' ∧ e = .returned (.tuple #[beA ps.length be, .int .i64 (dvE ps m X Y be)]) ∧ Up w w' := by
  have HB := hide (fun W (hW : Up w W) => p_checkBorne A ps cap m X Y hn W (sups_up h hW))
  by_cases hE : boE ps m X Y = 0
  · obtain ⟨hat, _, _⟩ := boE_ok hE
    obtain ⟨_, _, h3, _⟩ := chE_ok (atE_ok hat).1
    rcases h with hx | ⟨b, off, rfl, hc⟩
    · rw [hx] at h3; simp at h3
    have HL := hide (fun W (hW : Up w W) => p_lightest HSO b off cap ps m X Y W (supsO_up hc hW) hE)
    have hdp : ∀ (be : BestA) (W : World) (l : List Nat), l.Perm (List.range ps.length) → l.Pairwise (ltS ps) → be.map (·.2) = bestD ps m X Y l → (∀ g d v, be = some (g, d, v) → Bx W g (cellsI d)) → DvPost ps m X Y be W := fun be W l h1 h2 h3 h4 => ⟨fun e => absurd hE e, fun _ => ⟨l, h1, h2, h3⟩, h4⟩
    have HDP := hide hdp
    have HDL := hide (fun (l : List Nat) => dvs_len (ps := ps) (l := l))
    clear hdp
    rw [hE] at HB
    unfold dvE
    rw [hE]
    simp only [if_pos]
    have h0 : 0 < ps.length := by omega
    clear hE hat hc HSO h3 hn
    obtain ⟨n, hN⟩ : ∃ n, ps.length = n := ⟨_, rfl⟩
    rw [hN] at HB HL HDP HDL h0 ⊢
    clear hN
    have hnil := fun a c W => nilG a n c W
    go_enter Try.func6, Try.ntmps6
    go_wp2_with (go_at_call 15; (with_reducible refine (unhide HB _ (by repeat' (first | (with_reducible exact up_refl _) | (with_reducible assumption) | (with_reducible refine up_alloc ?_ _) | (with_reducible refine up_drewN ?_ _) | (with_reducible refine up_drew ?_) | (with_reducible refine up_set ?_ (by first | (simp; done) | (simp; omega) | omega) _) | (refine up_trans ?_ (by with_reducible assumption))))).mono ?_); rintro e w1 ⟨rfl, hb1⟩; have p0 : w1.cell? ⟨w.heap.size, 0, none⟩ = some (.int .i64 X) := up_cell hb1 (by go_cell); have p1 : w1.cell? ⟨w.heap.size, 1, none⟩ = some (.int .i64 Y) := up_cell hb1 (by go_cell); have t2 := bxA2 w [.int .i64 X, .int .i64 Y] [.slice none 0 0, .int .i64 0] 24 28; have BR := bx_up t2.2 hb1)
    refine (unhide HL _ (by exact (by repeat' (first | (with_reducible exact up_refl _) | (with_reducible assumption) | (with_reducible refine up_alloc ?_ _) | (with_reducible refine up_drewN ?_ _) | (with_reducible refine up_drew ?_) | (with_reducible refine up_set ?_ (by first | (simp; done) | (simp; omega) | omega) _) | (refine up_trans ?_ (by with_reducible assumption)))))).mono ?_
    rintro e w2 ⟨l, be, hp, hs, hbe, rfl, hbx, hb2⟩
    have hlen := best_len hbe (unhide HDL l) h0
    have BR2 := bx_up BR hb2
    have hU2 : Up w w2 := (by repeat' (first | (with_reducible exact up_refl _) | (with_reducible assumption) | (with_reducible refine up_alloc ?_ _) | (with_reducible refine up_drewN ?_ _) | (with_reducible refine up_drew ?_) | (with_reducible refine up_set ?_ (by first | (simp; done) | (simp; omega) | omega) _) | (refine up_trans ?_ (by with_reducible assumption))))
    have hnil0 := fun W => nilG0 W
    clear p0 p1 hb1 hb2
    rcases be with _ | ⟨g1, d1, v1⟩
    · have BR3 := bx_alloc BR2 (.cells #[.slice none 0 0, .int .i64 0] 28)
      obtain ⟨z0, z1⟩ := bx2 BR3
      obtain ⟨f0, f1⟩ := bxf2 BR3
      obtain ⟨q0, q1⟩ := bx2 (bx_set2 (v0 := .slice none 0 0) (v1 := .int .i64 0) BR3)
      have HQ : Hid (DvPost ps m X Y (none : BestA) (((w2.alloc (.cells #[.slice none 0 0, .int .i64 0] 28)).setCell ⟨w.heap.size + 1, 0, none⟩ (.slice none 0 0)).setCell ⟨w.heap.size + 1, 1, none⟩ (.int .i64 0))) := hide (unhide HDP _ _ l hp hs hbe (fun g d v e => bx_far (bx_far (bx_alloc (hbx g d v e) _) (p := ⟨w.heap.size + 1, 0, none⟩) (fun e' => bx_neS (hbx g d v e) (hlen g d v e) BR2 (fun _ k => by cases k) e'.symm) (.slice none 0 0)) (p := ⟨w.heap.size + 1, 1, none⟩) (fun e' => bx_neS (hbx g d v e) (hlen g d v e) BR2 (fun _ k => by cases k) e'.symm) (.int .i64 0)))
      have HUp : Hid (Up w (((w2.alloc (.cells #[.slice none 0 0, .int .i64 0] 28)).setCell ⟨w.heap.size + 1, 0, none⟩ (.slice none 0 0)).setCell ⟨w.heap.size + 1, 1, none⟩ (.int .i64 0))) := hide (up_set (up_set (up_alloc hU2 _) (by simp only; omega) (.slice none 0 0)) (by simp only; omega) (.int .i64 0))
      clear hp hs hbe hbx HDP HL HB hlen BR2 BR3 BR t2 hU2
      simp only [beA]
      go_wp2_with fail
      exact bodyPost_ret (v := .tuple #[.agg #[.slice none 0 0, .int .i64 0], .int .i64 15]) (by simp [results, Try.results6, go_sem, q0, q1]) rfl ⟨(none : BestA), unhide HQ, rfl, unhide HUp⟩
    · have BR3 := bx_alloc BR2 (.cells #[.slice (some ⟨g1, 0, none⟩) n n, .int .i64 v1] 28)
      obtain ⟨z0, z1⟩ := bx2 BR3
      obtain ⟨f0, f1⟩ := bxf2 BR3
      obtain ⟨q0, q1⟩ := bx2 (bx_set2 (v0 := .slice (some ⟨g1, 0, none⟩) n n) (v1 := .int .i64 v1) BR3)
      have HQ : Hid (DvPost ps m X Y (some (g1, d1, v1) : BestA) (((w2.alloc (.cells #[.slice (some ⟨g1, 0, none⟩) n n, .int .i64 v1] 28)).setCell ⟨w.heap.size + 1, 0, none⟩ (.slice (some ⟨g1, 0, none⟩) n n)).setCell ⟨w.heap.size + 1, 1, none⟩ (.int .i64 v1))) := hide (unhide HDP _ _ l hp hs hbe (fun g d v e => bx_far (bx_far (bx_alloc (hbx g d v e) _) (p := ⟨w.heap.size + 1, 0, none⟩) (fun e' => bx_neS (hbx g d v e) (hlen g d v e) BR2 (fun _ k => by cases k) e'.symm) (.slice (some ⟨g1, 0, none⟩) n n)) (p := ⟨w.heap.size + 1, 1, none⟩) (fun e' => bx_neS (hbx g d v e) (hlen g d v e) BR2 (fun _ k => by cases k) e'.symm) (.int .i64 v1)))
      have HUp : Hid (Up w (((w2.alloc (.cells #[.slice (some ⟨g1, 0, none⟩) n n, .int .i64 v1] 28)).setCell ⟨w.heap.size + 1, 0, none⟩ (.slice (some ⟨g1, 0, none⟩) n n)).setCell ⟨w.heap.size + 1, 1, none⟩ (.int .i64 v1))) := hide (up_set (up_set (up_alloc hU2 _) (by simp only; omega) (.slice (some ⟨g1, 0, none⟩) n n)) (by simp only; omega) (.int .i64 v1))
      clear hp hs hbe hbx HDP HL HB hlen BR2 BR3 BR t2 hU2
      simp only [beA, slV]
      go_wp2_with fail
      exact bodyPost_ret (v := .tuple #[.agg #[.slice (some ⟨g1, 0, none⟩) n n, .int .i64 v1], .int .i64 0]) (by simp [results, Try.results6, go_sem, q0, q1]) rfl ⟨(some (g1, d1, v1) : BestA), unhide HQ, rfl, unhide HUp⟩
  · have e1 : (boE ps m X Y == 0) = false := beq_false_of_ne hE
    have hdp : ∀ (W : World), DvPost ps m X Y none W := fun W => ⟨fun _ => rfl, fun e => absurd e hE, fun _ _ _ e => nomatch e⟩
    have HDP := hide hdp
    unfold dvE
    simp only [if_neg hE]
    clear hdp hE h
    generalize boE ps m X Y = E at *
    generalize ps.length = n at *
    go_enter Try.func6, Try.ntmps6
    go_wp2_with (go_at_call 15; (with_reducible refine (unhide HB _ (by repeat' (first | (with_reducible exact up_refl _) | (with_reducible assumption) | (with_reducible refine up_alloc ?_ _) | (with_reducible refine up_drewN ?_ _) | (with_reducible refine up_drew ?_) | (with_reducible refine up_set ?_ (by first | (simp; done) | (simp; omega) | omega) _) | (refine up_trans ?_ (by with_reducible assumption))))).mono ?_); rintro e w1 ⟨rfl, hb1⟩; have p0 : w1.cell? ⟨w.heap.size, 0, none⟩ = some (.int .i64 X) := up_cell hb1 (by go_cell); have p1 : w1.cell? ⟨w.heap.size, 1, none⟩ = some (.int .i64 Y) := up_cell hb1 (by go_cell); have t2 := bxA2 w [.int .i64 X, .int .i64 Y] [.slice none 0 0, .int .i64 0] 24 28; have BR := bx_up t2.2 hb1; obtain ⟨z0, z1⟩ := bx2 BR; obtain ⟨f0, f1⟩ := bxf2 BR)
    obtain ⟨q0, q1⟩ := bx2 (bx_set2 (v0 := .slice none 0 0) (v1 := .int .i64 0) BR)
    exact bodyPost_ret (v := .tuple #[.agg #[.slice none 0 0, .int .i64 0], .int .i64 E]) (by simp [results, Try.results6, go_sem, q0, q1]) rfl ⟨none, unhide HDP _, rfl, (by repeat' (first | (with_reducible exact up_refl _) | (with_reducible assumption) | (with_reducible refine up_alloc ?_ _) | (with_reducible refine up_drewN ?_ _) | (with_reducible refine up_drew ?_) | (with_reducible refine up_set ?_ (by first | (simp; done) | (simp; omega) | omega) _) | (refine up_trans ?_ (by with_reducible assumption))))⟩
end Go.Proofs.Ytepblnnebeglbaa
