/- All divisions: the document's Divisions, walked. -/
import Derived.Test.YtepblnnebeglbaaRefDvs
namespace Go.Proofs.Ytepblnnebeglbaa
open Go.RowKit Go.Proofs.Gn
theorem two_newS (W : World) (x y : Value) (t : TypeId) : ∀ j u, [x, y][j]? = some u → (W.alloc (.cells #[x, y] t)).cell? ((⟨W.heap.size, 0, none⟩ : Addr).add j) = some u := by
  intro j u hj
  have b := bx_new W [x, y] t
  match j, hj with
  | 0, hj => simp at hj; subst hj; exact (bx2 b).1
  | 1, hj => simp at hj; subst hj; exact (bx2 b).2
  | (j + 2), hj => simp at hj
set_option maxRecDepth 100000 in
set_option maxHeartbeats 40000000 in
theorem r_Divisions (b off cap : Nat) (ps : List Gs.Sup) (w : World) (hc : SupsO w b off ps) (ho : Gs.okA ps = true) (h0 : 0 < ps.length) (hn : ps.length ≤ 48) :
    Calls Try.prog 11 #[.slice (some ⟨b, off, none⟩) ps.length cap] w fun e w' => ∃ (l : List Nat) (v : Value) (gs : List Nat), e = .returned v ∧ l.Perm (List.range ps.length) ∧ l.Pairwise (ltS ps) ∧ w'.ownsRow w.heap.size 26 1 v gs.length (gs.map (slV ps.length)) ∧ (gs = [] → v = .slice none 0 0) ∧ InBl w' gs (dvs ps l) ∧ Up w w' := by
  have HR := hide (r_order b off cap ps w hc hn)
  have HC := hide hc
  have HD : Hid (∀ (W : World) (A : Option Addr) (is : List Nat) (c : Nat), Up w W → Ints W A (ixs is) → is.length ≤ ps.length → (∀ i ∈ is, i < ps.length) → _) := hide (fun W A is c hW hI hm hs => r_Division (some ⟨b, off, none⟩) ps cap A is c W (.inr ⟨b, off, rfl, supsO_up hc hW⟩) hI ho hn hm hs)
  have HK := hide (dvsK_succ ps)
  have HNE := hide (dvsK_ne h0)
  have HV := hide (dvs_K ps)
  have HG := hide (gL_rdI ps)
  have HX := hide (fun (fs is : List Nat) (h : (fs ++ is).Perm (List.range ps.length)) => rd_dvI h)
  clear hc ho
  obtain ⟨i0', hi, hz0, hz1, hz2⟩ := info_parts info_slI
  have HI := hide hi
  clear hi
  obtain ⟨n, hN⟩ : ∃ n, ps.length = n := ⟨_, rfl⟩
  rw [hN] at h0 hn HR HD HK HV HG HX ⊢
  have HN := hide hN
  clear hN
  go_enter Try.func11, Try.ntmps11
  go_wp2_with (go_at_call 25; (with_reducible refine (unhide HR).mono ?_); rintro e w1 ⟨v, l, rfl, hp, hs, ho1, hb1⟩)
  obtain ⟨g, cp, hv0, hg, g2, g3⟩ := own_someO2 ho1 h0
  subst hv0
  have HO1 := hide (ixs_news ho1)
  have hll : l.length = n := by have := hp.length_eq; rwa [List.length_range] at this
  have HLL := hide hll
  have HP := hide (And.intro hp hs)
  have hs1 := hb1.size
  clear HR ho1 hll hp hs
  obtain ⟨wo, hwo⟩ : ∃ wo, wo = w1 := ⟨_, rfl⟩
  rw [← hwo] at HO1 hb1 hs1 ⊢
  clear hwo
  have hw2 : IntKind.i64.wrap ((n : Int) - 2) = (n : Int) - 2 := IntWalk.i64_in _ ⟨by omega, by omega⟩
  go_loopw [4, 5] (fun s4 s5 wr => ∃ (k : Nat) (gs : List Nat), k + 1 ≤ n ∧ (k = 0 ∨ k + 2 ≤ n) ∧ s5 = .int .i64 ((k : Int) + 1) ∧ wr.ownsRow wo.heap.size 26 1 s4 gs.length (gs.map (slV n)) ∧ Hid (gs = [] → s4 = .slice none 0 0) ∧ InBl wr gs (dvsK ps l k) ∧ Up wo wr) (fun _ s5 _ => n - (intOf s5).toNat)
  case atStart => exact ⟨0, [], by omega, .inl rfl, rfl, World.ownsRow_nil _ _ _ _, hide (fun _ => rfl), ⟨rfl, fun i h _ => by simp at h⟩, up_refl _⟩
  case round =>
    obtain ⟨k, gs, hk, hk2, rfl, hown, hnil, hbl, hu⟩ := hrel
    have hgl : gs.length ≤ 96 := by have t := hbl.1; rw [dvsK_len] at t; omega
    have HO := hide hown
    have HB := hide hbl
    clear hown hbl
    have hwk : IntKind.i64.wrap ((k : Int) + 1 + 1) = (k : Int) + 1 + 1 := IntWalk.i64_in _ ⟨by omega, by omega⟩
    by_cases hlt : k + 1 ≤ n - 2 ∧ 3 ≤ n
    · obtain ⟨d, hd⟩ : ∃ d, n = d + (k + 1) := ⟨n - (k + 1), by omega⟩
      have j1 : (k : Int) + 1 ≤ (n : Int) - 2 := by omega
      have HOr := hide (fun i hi => up_cell hu (unhide HO1 i hi))
      have HU := hide (up_trans hb1 hu)
      have hin : ∀ i ∈ l, i < n := fun i hi => List.mem_range.1 ((unhide HP).1.mem_iff.1 hi)
      have T1 : (l.take (k + 1)).length = k + 1 := by rw [List.length_take, unhide HLL]; omega
      have T2 : (l.drop d).length = n - d := by rw [List.length_drop, unhide HLL]
      have X1 := unhide HX (l.take (k + 1)) (l.drop (k + 1)) (by rw [List.take_append_drop]; exact (unhide HP).1)
      have X2 := unhide HX (l.drop d) (l.take d) (List.perm_append_comm.trans (by rw [List.take_append_drop]; exact (unhide HP).1))
      have G1 := unhide HG (l.take (k + 1))
      have G2 := unhide HG (l.drop d)
      rw [X1] at G1
      rw [X2] at G2
      have HD1 := hide (fun (W : World) (hW : Up wr W) => unhide HD W (some ⟨g, 0, none⟩) (l.take (k + 1)) cp (up_trans (unhide HU) hW) (take_ints (fun i hi => up_cell hW (unhide HOr i hi)) _) (by rw [T1]; omega) (fun i hi => hin i (List.mem_of_mem_take hi)))
      have HD2 := hide (fun (W : World) (hW : Up wr W) => unhide HD W (some ⟨g, d, none⟩) (l.drop d) (cp - d) (up_trans (unhide HU) hW) (drop_ints (fun i hi => up_cell hW (unhide HOr i hi)) _) (by rw [T2]; omega) (fun i hi => hin i (List.mem_of_mem_drop hi)))
      rw [T1, G1] at HD1
      rw [T2, G2] at HD2
      have HS := unhide HK l k
      rw [show n - (k + 1) = d by omega] at HS
      have HNE' := unhide HNE l (k + 1)
      have ed : dvsK ps l (k + 1) = dvsK ps l k ++ [dvI ps (l.drop (k + 1)), dvI ps (l.take d)] := HS
      rw [ed] at HNE'
      have HNF := hide HNE'
      have HED := hide ed
      clear HS HNE' ed X1 X2 G1 G2 T1 T2 hin
      generalize dvI ps (l.drop (k + 1)) = D1 at *
      generalize dvI ps (l.take d) = D2 at *
      have hd1 : n ≤ d + (k + 1) := by omega
      have hd2 : d + (k + 1) ≤ n := by omega
      clear hd
      have tk : ((k : Int) + 1).toNat = k + 1 := by omega
      have hwd : IntKind.i64.wrap ((n : Int) - ((k : Int) + 1)) = (d : Int) := by rw [show (n : Int) - ((k : Int) + 1) = (d : Int) by omega]; exact IntWalk.i64_in _ ⟨by omega, by omega⟩
      have o1 : (k : Int) + 1 ≤ (cp : Int) := by omega
      have o2 : (0 : Int) ≤ (k : Int) + 1 := by omega
      have o3 : (d : Int) ≤ (n : Int) := by omega
      have o4 : (n : Int) ≤ (cp : Int) := by omega
      have o5 : (d : Int) ≤ (cp : Int) := by omega
      have n60 : ¬ cp = d := by omega
      have n61 : ¬ d = cp := by omega
      have n62 : ¬ cp - d = 0 := by omega
      have n65 : ¬ cp ≤ d := by omega
      clear HOr
      go_upto_region 6 with fail
      go_region_law (first
        | (go_simp; go_at_call 26; (with_reducible refine (unhide HD1 _ (by repeat' (first | (with_reducible exact up_refl _) | (with_reducible assumption) | (with_reducible refine up_alloc ?_ _) | (with_reducible refine up_drewN ?_ _) | (with_reducible refine up_drew ?_) | (with_reducible refine up_set ?_ (by first | (simp; done) | (simp; omega) | omega) _) | (refine up_trans ?_ (by with_reducible assumption))))).mono ?_); rintro e w5 ⟨g1, rfl, hB1, hg1, hu1⟩)
        | (go_simp; go_at_call 26; (with_reducible refine (unhide HD2 _ (by repeat' (first | (with_reducible exact up_refl _) | (with_reducible assumption) | (with_reducible refine up_alloc ?_ _) | (with_reducible refine up_drewN ?_ _) | (with_reducible refine up_drew ?_) | (with_reducible refine up_set ?_ (by first | (simp; done) | (simp; omega) | omega) _) | (refine up_trans ?_ (by with_reducible assumption))))).mono ?_); rintro e w6 ⟨g4, rfl, hB2, hg4, hu2⟩)
        | (refine step_append_mineO _ rfl (.tmp 15) (.tmp 29) 40 rfl wo.heap.size 26 i0' _ 1 24 Try.underlying40 (unhide HI) hz0 hz1 hz2 rfl (Nat.zero_lt_succ _) _ gs.length (gs.map (slV n)) rfl (own_upI (unhide HO) (by repeat' (first | (with_reducible exact up_refl _) | (with_reducible assumption) | (with_reducible refine up_alloc ?_ _) | (with_reducible refine up_drewN ?_ _) | (with_reducible refine up_drew ?_) | (with_reducible refine up_set ?_ (by first | (simp; done) | (simp; omega) | omega) _) | (refine up_trans ?_ (by with_reducible assumption))))) _ 2 2 [slV n g1, slV n g4] rfl rfl (two_newS _ _ _ _) (by intro u hu; simp at hu; rcases hu with rfl | rfl <;> rfl) (by unfold maxLen; omega) (by omega) (Nat.le_trans hu.size (up_size (show Up wr _ from (by repeat' (first | (with_reducible exact up_refl _) | (with_reducible assumption) | (with_reducible refine up_alloc ?_ _) | (with_reducible refine up_drewN ?_ _) | (with_reducible refine up_drew ?_) | (with_reducible refine up_set ?_ (by first | (simp; done) | (simp; omega) | omega) _) | (refine up_trans ?_ (by with_reducible assumption))))))) ?_; intro v' w8 hown' hgrow; have HBL := hide (inBl_grown (own_upI (unhide HO) (by repeat' (first | (with_reducible exact up_refl _) | (with_reducible assumption) | (with_reducible refine up_alloc ?_ _) | (with_reducible refine up_drewN ?_ _) | (with_reducible refine up_drew ?_) | (with_reducible refine up_set ?_ (by first | (simp; done) | (simp; omega) | omega) _) | (refine up_trans ?_ (by with_reducible assumption))))) (unhide hnil) hgrow (inBl_app (inBl_up (unhide HB) (by repeat' (first | (with_reducible exact up_refl _) | (with_reducible assumption) | (with_reducible refine up_alloc ?_ _) | (with_reducible refine up_drewN ?_ _) | (with_reducible refine up_drew ?_) | (with_reducible refine up_set ?_ (by first | (simp; done) | (simp; omega) | omega) _) | (refine up_trans ?_ (by with_reducible assumption))))) (bx_up hB1 (by repeat' (first | (with_reducible exact up_refl _) | (with_reducible assumption) | (with_reducible refine up_alloc ?_ _) | (with_reducible refine up_drewN ?_ _) | (with_reducible refine up_drew ?_) | (with_reducible refine up_set ?_ (by first | (simp; done) | (simp; omega) | omega) _) | (refine up_trans ?_ (by with_reducible assumption))))) (bx_up hB2 (by repeat' (first | (with_reducible exact up_refl _) | (with_reducible assumption) | (with_reducible refine up_alloc ?_ _) | (with_reducible refine up_drewN ?_ _) | (with_reducible refine up_drew ?_) | (with_reducible refine up_set ?_ (by first | (simp; done) | (simp; omega) | omega) _) | (refine up_trans ?_ (by with_reducible assumption)))))) (unhide HNF)); have R1 := own_growO (w := wo) (own_upI (unhide HO) (by repeat' (first | (with_reducible exact up_refl _) | (with_reducible assumption) | (with_reducible refine up_alloc ?_ _) | (with_reducible refine up_drewN ?_ _) | (with_reducible refine up_drew ?_) | (with_reducible refine up_set ?_ (by first | (simp; done) | (simp; omega) | omega) _) | (refine up_trans ?_ (by with_reducible assumption))))) (Nat.le_refl _) (show Up wo _ from up_trans hu (by repeat' (first | (with_reducible exact up_refl _) | (with_reducible assumption) | (with_reducible refine up_alloc ?_ _) | (with_reducible refine up_drewN ?_ _) | (with_reducible refine up_drew ?_) | (with_reducible refine up_set ?_ (by first | (simp; done) | (simp; omega) | omega) _) | (refine up_trans ?_ (by with_reducible assumption))))) hgrow; have R2 := hide hown'; clear hown' hgrow))
      all_goals
        have hlast : InBl w8 (gs ++ [g1, g4]) (dvsK ps l (k + 1)) := by rw [unhide HED]; exact unhide HBL
        have hrow : w8.ownsRow wo.heap.size 26 1 v' (gs ++ [g1, g4]).length ((gs ++ [g1, g4]).map (slV n)) := by
          rw [List.length_append, List.map_append]; exact unhide R2
        have HLs := hide hlast
        have HRw := hide hrow
        clear hlast hrow HBL R2 HO HB HED
        go_wp2_with fail
        go_roundw
        case rel => exact ⟨k + 1, gs ++ [g1, g4], by omega, .inr (by omega), by first | rfl | trivial | go_num, unhide HRw, hide (fun e => by simp at e), unhide HLs, R1⟩
        case measure => simp [intOf]; omega
    · have j1 : ¬ (k : Int) + 1 ≤ (n : Int) - 2 := by omega
      have hkn : k = n - 2 := by omega
      have HF := hide (⟨own_baseO (unhide HO) hs1, by rw [unhide HV, ← hkn]; exact unhide HB⟩ : wr.ownsRow w.heap.size _ 1 _ _ _ ∧ InBl wr gs (dvs ps l))
      clear HO HB
      go_wp2_with fail
      go_ret
      exact ⟨l, _, rfl, (unhide HP).1, (unhide HP).2, gs, (unhide HF).1, unhide hnil, (unhide HF).2, up_trans hb1 hu⟩
end Go.Proofs.Ytepblnnebeglbaa
