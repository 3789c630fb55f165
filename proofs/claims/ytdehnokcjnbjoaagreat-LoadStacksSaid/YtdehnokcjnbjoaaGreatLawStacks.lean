/- LoadStacks: the law's function returns true. -/
import Derived.Test.YtdehnokcjnbjoaaGreatFal
import Derived.Test.YtdehnokcjnbjoaaGreatPkOpenLoad
import Derived.Test.YtdehnokcjnbjoaaGreatLdG
namespace Go.Proofs.YtdehnokcjnbjoaaGreat
open Go.RowKit Go.Proofs.Gn
attribute [local go_sem] Oper.semAt_some
set_option linter.unusedVariables false
theorem rch_on {ps : List Pce} {i r : Nat} (hi : i < ps.length) (hr : rsN ps i r = true) {k : Nat} (h : Rch ps i k) : Rch ps r k := by
  induction h with
  | start => exact .step .start hi hr
  | step _ hu h2 ih => exact .step ih hu h2
theorem rsT_on {ps : List Pce} {i : Nat} : ∀ {k : Nat} {x : Int}, x ∈ rsT ps i k → ∃ j : Nat, j < k ∧ x = j ∧ rsN ps i j = true
  | 0, x, h => by simp [rsT] at h
  | k + 1, x, h => by
    rcases List.mem_append.1 (show x ∈ rsT ps i k ++ _ from h) with h | h
    · obtain ⟨j, hj, e, h2⟩ := rsT_on h
      exact ⟨j, by omega, e, h2⟩
    · split at h
      · rename_i hr
        simp at h
        exact ⟨k, by omega, h, hr⟩
      · simp at h
theorem rsL_on {ps : List Pce} (ho : okPs ps = true) {i : Nat} (hi : i < ps.length) {j : Nat} (hj : j < (rsL ps i).length) : ∃ v : Nat, v < ps.length ∧ (rsL ps i)[j] = (v : Int) ∧ (ps.getD v pc0).z < (ps.getD i pc0).z ∧ ∀ x ∈ cdL ps i, x ∈ cdL ps v := by
  obtain ⟨v, hv, e, hr⟩ := rsT_on (show (rsL ps i)[j] ∈ rsT ps i ps.length from List.getElem_mem hj)
  refine ⟨v, hv, e, ?_, fun x hx => ?_⟩
  · have e2 : ps.getD v pc0 = ps[v] := by rw [List.getD_eq_getElem?_getD, List.getElem?_eq_getElem hv]; rfl
    have q := (okP_iff _).1 (okPs_get ho hv)
    unfold okPp at q
    have h2 : rsP (ps.getD i pc0) (ps.getD v pc0) = true := hr
    unfold rsP at h2
    simp only [Bool.and_eq_true, decide_eq_true_eq] at h2
    rw [e2] at h2 ⊢
    omega
  · unfold cdL inN at hx ⊢
    obtain ⟨k, hk, rfl⟩ := List.mem_map.1 hx
    obtain ⟨h1, h2⟩ := cdN_mem.1 hk
    exact List.mem_map.2 ⟨k, cdN_mem.2 ⟨h1, rch_on hi hr h2⟩, rfl⟩
theorem st_no {ps : List Pce} {i : Nat} (hz : 0 < (ps.getD i pc0).z) (h : rsL ps i = []) : stB ps i = false := by
  have e : ctL ps i = [] := by unfold ctL; rw [h]; rfl
  unfold stB
  rw [if_neg (by omega), e, if_pos (by rfl)]
/-- A list of ints with no error. -/
def InQ (L : List Int) (W : World) (e : Ending) (w' : World) : Prop := (∃ g c, e = .returned (.tuple #[.slice g L.length c, .int .i64 0]) ∧ Hid (∀ W2, Up w' W2 → Nms W2 g L)) ∧ Up W w'
set_option maxRecDepth 100000 in
set_option maxHeartbeats 16000000 in
theorem l_Stacks1 (s : ByteArray) (A B : Option Addr) (n m cA cB : Nat) (f E : Int) (w : World) (hg : grL s n m = true ∨ E ≠ 0) (HC : Hid (∀ W, Up w W → Calls Tryz.prog 16 #[loV s A n cA B m cB f] W fun e w' => e = .returned (.int .i64 E) ∧ Up W w')) :
    Calls Tryz.prog 7 #[loV s A n cA B m cB f] w fun e w' => e = .returned (.bool true) ∧ Up w w' := by
  have HG1 := hide (fun W => p_greatL s A n cA B m cB f W)
  have HK := hide (fun W => p_knownL W)
  have HE := hide hg
  generalize grL s n m = R at *
  clear hg
  go_enter Tryz.func7, Tryz.ntmps7
  go_upto_region 1 with fail
  refine at_wpC (fun W0 hW0 => ?_)
  have b0 : Bx W0 w.heap.size [.string s, .slice A n cA, .slice B m cB, .int .i64 f] := by rw [hW0]; exact bx_new w _ _
  have U0 : Up w W0 := by rw [hW0]; exact (by repeat' (first | (with_reducible exact up_refl _) | (with_reducible assumption) | (with_reducible refine up_alloc ?_ _) | (with_reducible refine up_drewN ?_ _) | (with_reducible refine up_drew ?_) | (with_reducible refine up_set ?_ (by first | (simp; done) | (simp; omega) | omega) _) | (refine up_trans ?_ (by with_reducible assumption))))
  clear hW0
  have x0 := (b0 0 _ rfl).1
  have x1 := (b0 1 _ rfl).1
  have x2 := (b0 2 _ rfl).1
  have x3 := (b0 3 _ rfl).1
  cases R with
  | true =>
    go_wp2_with (first
      | (go_at_call 8; (with_reducible refine (unhide HG1 _).mono ?_); rintro e w1 ⟨rfl, v1⟩)
      | (go_at_call 9; (with_reducible refine (unhide HK _).mono ?_); rintro e w9 ⟨rfl, v9⟩))
    go_ret
    exact ⟨rfl, up_trans (up_trans U0 v1) v9⟩
  | false =>
    have hE : ¬ E = 0 := (unhide HE).resolve_left (by simp)
    have t0 : (E == 0) = false := by simp [hE]
    have t1 : (E != 0) = true := by simp [hE]
    clear hE HE
    go_wp2_with (first
      | (go_at_call 8; (with_reducible refine (unhide HG1 _).mono ?_); rintro e w1 ⟨rfl, v1⟩; have x0 := up_cell v1 x0; have x1 := up_cell v1 x1; have x2 := up_cell v1 x2; have x3 := up_cell v1 x3)
      | (go_at_call 16; (with_reducible refine (unhide HC _ (up_trans U0 v1)).mono ?_); rintro e w2 ⟨rfl, v2⟩)
      | (go_at_call 9; (with_reducible refine (unhide HK _).mono ?_); rintro e w9 ⟨rfl, v9⟩))
    go_ret
    exact ⟨rfl, up_trans (up_trans (up_trans U0 v1) v2) v9⟩
set_option maxRecDepth 100000 in
set_option maxHeartbeats 16000000 in
theorem l_Stacks_5 (s : ByteArray) (A B : Option Addr) (n m cA cB : Nat) (f z : Int) (w : World) (hg : grL s n m = false) (hn : n ≤ 32) (hz : z = 0) (RS CS : Nat → List Int) (zs : Nat → Int)
    (HC : Hid (∀ W, Up w W → Calls Tryz.prog 16 #[loV s A n cA B m cB f] W fun e w' => e = .returned (.int .i64 0) ∧ Up W w'))
    (HF : Hid (∀ W, Up w W → Calls Tryz.prog 31 #[loV s A n cA B m cB f] W fun e w' => e = .returned (.tuple #[.int .i64 z, .int .i64 5]) ∧ Up W w'))
    (HRe : Hid (∀ k : Nat, k < n → ∀ W, Up w W → Calls Tryz.prog 27 #[loV s A n cA B m cB f, .int .i64 k] W (InQ (RS k) W)))
    (HCa : Hid (∀ k : Nat, k < n → ∀ W, Up w W → Calls Tryz.prog 29 #[loV s A n cA B m cB f, .int .i64 k] W (InQ (CS k) W)))
    (HRS : Hid (∀ k, k < n → ∀ j (h : j < (RS k).length), ∃ v : Nat, v < n ∧ (RS k)[j] = (v : Int) ∧ zs v < zs k ∧ ∀ x ∈ CS k, x ∈ CS v)) (HEm : Hid (∀ k, k < n → 0 < zs k → 0 < (RS k).length))
    (HLr : Hid (∀ k, (RS k).length ≤ 1000)) (HLc : Hid (∀ k, (CS k).length ≤ 1000))
    (HZ : Hid (∀ k : Nat, k < n → ∃ b off, A = some ⟨b, off, none⟩ ∧ ∀ j, j < n → ∀ W, Up w W → W.cell? ⟨b, off + j * 7 + 2, none⟩ = some (.int .i64 (zs j)))) :
    Calls Tryz.prog 7 #[loV s A n cA B m cB f] w fun e w' => e = .returned (.bool true) ∧ Up w w' := by
  have HG1 := hide (fun W => p_greatL s A n cA B m cB f W)
  have HKn := hide (fun W => p_knownL W)
  rw [hg] at HG1
  clear hg
  go_enter Tryz.func7, Tryz.ntmps7
  go_upto_region 1 with fail
  refine at_wpC (fun W0 hW0 => ?_)
  have b0 : Bx W0 w.heap.size [.string s, .slice A n cA, .slice B m cB, .int .i64 f] := by rw [hW0]; exact bx_new w _ _
  have U0 : Up w W0 := by rw [hW0]; exact (by repeat' (first | (with_reducible exact up_refl _) | (with_reducible assumption) | (with_reducible refine up_alloc ?_ _) | (with_reducible refine up_drewN ?_ _) | (with_reducible refine up_drew ?_) | (with_reducible refine up_set ?_ (by first | (simp; done) | (simp; omega) | omega) _) | (refine up_trans ?_ (by with_reducible assumption))))
  clear hW0
  have x0 := (b0 0 _ rfl).1
  have x1 := (b0 1 _ rfl).1
  have x2 := (b0 2 _ rfl).1
  have x3 := (b0 3 _ rfl).1
  go_upto_region 3 with (first
    | (go_at_call 8; (with_reducible refine (unhide HG1 _).mono ?_); rintro e w1 ⟨rfl, v1⟩; have x0 := up_cell v1 x0; have x1 := up_cell v1 x1; have x2 := up_cell v1 x2; have x3 := up_cell v1 x3)
    | (go_at_call 16; (with_reducible refine (unhide HC _ (up_trans U0 v1)).mono ?_); rintro e w2 ⟨rfl, v2⟩))
  have b2 := bx_up (bx_up b0 v1) v2
  have U2 := up_trans (up_trans U0 v1) v2
  clear x0 x1 x2 x3 b0 U0 v1 v2 HG1 HC
  have x0 := (b2 0 _ rfl).1
  have x1 := (b2 1 _ rfl).1
  have x2 := (b2 2 _ rfl).1
  have x3 := (b2 3 _ rfl).1
  go_upto_region 4 with (go_at_call 31; (with_reducible refine (unhide HF _ U2).mono ?_); rintro e w3 ⟨rfl, v3⟩)
  have b3 := bx_up b2 v3
  have U3 := up_trans U2 v3
  clear x0 x1 x2 x3 b2 U2 v3 HF
  have x1 := (b3 1 _ rfl).1
  have n32 : ¬ (n : Int) > 32 := by omega
  go_upto_region 7 with fail
  clear x1 n32
  go_loopw [5] (fun s5 wr => ∃ k : Nat, k ≤ n ∧ s5 = .int .i64 k ∧ Bx wr w.heap.size [.string s, .slice A n cA, .slice B m cB, .int .i64 f] ∧ Up w wr) (fun s5 _ => n - (intOf s5).toNat)
  case atStart => exact ⟨0, by omega, rfl, b3, U3⟩
  case round =>
    clear b3 U3
    obtain ⟨k, hk, rfl, bL, hu⟩ := hrel
    by_cases hlt : k < n
    · obtain ⟨b, off, rfl, hc⟩ := unhide HZ k hlt
      have HCe := hide hc
      have HRk := hide (unhide HRe k hlt)
      have HCk := hide (unhide HCa k hlt)
      have HRSk := hide (unhide HRS k hlt)
      have HEmk := hide (unhide HEm k hlt)
      have HLk := hide (unhide HLr k)
      have HLck := hide (unhide HLc k)
      have i0 : (0 : Int) ≤ (k : Int) := by omega
      have i1 : (k : Int) < (n : Int) := by omega
      have i3 : (k : Int).toNat = k := by omega
      have hwk : IntKind.i64.wrap ((k : Int) + 1) = (k : Int) + 1 := IntWalk.i64_in _ ⟨by omega, by omega⟩
      clear hc
      have x0 := (bL 0 _ rfl).1
      have x1 := (bL 1 _ rfl).1
      have x2 := (bL 2 _ rfl).1
      have x3 := (bL 3 _ rfl).1
      go_upto_region 10 with (go_at_call 27; (with_reducible refine (unhide HRk _ hu).mono ?_); rintro e w4 ⟨⟨gR, cR, rfl, hR⟩, v4⟩)
      have b4 := bx_up bL v4
      have U4 := up_trans hu v4
      clear x0 x1 x2 x3 bL hu HRk
      have x0 := (b4 0 _ rfl).1
      have x1 := (b4 1 _ rfl).1
      have x2 := (b4 2 _ rfl).1
      have x3 := (b4 3 _ rfl).1
      go_upto_region 11 with (go_at_call 29; (with_reducible refine (unhide HCk _ U4).mono ?_); rintro e w5 ⟨⟨gC, cC, rfl, hCC⟩, v5⟩)
      have hR5 := hide (fun W2 (hW : Up w5 W2) => unhide hR W2 (up_trans v5 hW))
      have b5 := bx_up b4 v5
      have U5 := up_trans U4 v5
      clear x0 x1 x2 x3 b4 U4 v4 v5 hR HCk
      have x1 := (b5 1 _ rfl).1
      have hzk := unhide HCe k hlt _ U5
      generalize hRSe : RS k = RL at *
      generalize hCSe : CS k = CL at *
      generalize hzse : zs k = zk at *
      obtain ⟨q, hq⟩ : ∃ q, RL.length = q := ⟨_, rfl⟩
      have HQ := hide hq
      have hq1 := unhide HLk
      rw [hq] at hq1 ⊢
      have hEm := unhide HEmk
      rw [hq] at hEm
      clear hq HEmk
      have tt : zk > 0 → ¬ (q : Int) = 0 := fun h => by have := hEm h; omega
      by_cases tz : zk > 0
      · have tq := tt tz
        have tq2 : ((q : Int) == 0) = false := by simp; omega
        have tq3 : ¬ q = 0 := by omega
        clear hEm tt tq
        go_upto_region 14 with fail
        clear x1 hzk tq2 tq3
        go_loopw [10] (fun s10 wr => ∃ j : Nat, j ≤ q ∧ s10 = .int .i64 j ∧ Bx wr w.heap.size [.string s, .slice (some ⟨b, off, none⟩) n cA, .slice B m cB, .int .i64 f] ∧ Up w5 wr) (fun s10 _ => q - (intOf s10).toNat)
        case atStart => exact ⟨0, by omega, rfl, b5, up_refl _⟩
        case round =>
          clear b5
          obtain ⟨j, hj, rfl, bL, hu⟩ := hrel
          by_cases hjq : j < q
          · have hjl : j < RL.length := by rw [unhide HQ]; exact hjq
            obtain ⟨v, hvn, hve, hvz, hvs⟩ := unhide HRSk j hjl
            obtain ⟨g2, off2, rfl, hcn⟩ := (unhide hR5 _ hu).resolve_left (by intro e; rw [e] at hjl; simp at hjl)
            have d0 := hcn j hjl
            rw [hve] at d0
            have HCv := hide (unhide HCa v hvn)
            have HWi := hide (fun W A' B' c c' (h1 : Nms W A' CL) (h2 : Nms W B' (CS v)) => l_within A' B' CL (CS v) c c' W h1 h2 (by have := unhide HLck; omega) (by have := unhide HLc v; omega) hvs)
            generalize hvz2 : zs v = zv at *
            generalize CS v = CV at *
            have HZv := hide (fun W (hW : Up w W) => (⟨unhide HCe v hvn W hW, unhide HCe k hlt W hW⟩ : _ ∧ _))
            rw [hvz2, hzse] at HZv
            have j0 : (0 : Int) ≤ (j : Int) := by omega
            have j1 : (j : Int) < (q : Int) := by omega
            have j3 : (j : Int).toNat = j := by omega
            have v0 : (0 : Int) ≤ (v : Int) := by omega
            have v1 : (v : Int) < (n : Int) := by omega
            have v3 : (v : Int).toNat = v := by omega
            have v4 : ¬ (v : Int) < 0 := by omega
            have v5 : ¬ (v : Int) ≥ (n : Int) := by omega
            have z4 : ¬ zv ≥ zk := by omega
            have hwj : IntKind.i64.wrap ((j : Int) + 1) = (j : Int) + 1 := IntWalk.i64_in _ ⟨by omega, by omega⟩
            clear hvs hve hcn hvz2
            have Uu := up_trans U5 hu
            have x0 := (bL 0 _ rfl).1
            have x1 := (bL 1 _ rfl).1
            have x2 := (bL 2 _ rfl).1
            have x3 := (bL 3 _ rfl).1
            go_upto_region 16 with fail
            go_cut [11, 12] (fun sa sb wx => ∃ gV cV, sa = .slice gV CV.length cV ∧ sb = .int .i64 0 ∧ Hid (∀ W2, Up wx W2 → Nms W2 gV CV) ∧ Up wr wx)
            case first => as_aux_lemma =>
              go_region_law (refine step_callL _ rfl 29 #[loV s (some ⟨b, off, none⟩) n cA B m cB f, .int .i64 v] (by first | (go_simp; done) | kernel_rfl) ?_; refine (unhide HCv _ (up_trans Uu (by repeat' (first | (with_reducible exact up_refl _) | (with_reducible assumption) | (with_reducible refine up_alloc ?_ _) | (with_reducible refine up_drewN ?_ _) | (with_reducible refine up_drew ?_) | (with_reducible refine up_set ?_ (by first | (simp; done) | (simp; omega) | omega) _) | (refine up_trans ?_ (by with_reducible assumption)))))).mono ?_; rintro e w7 ⟨⟨gV, cV, rfl, hV⟩, u7⟩; refine ⟨_, rfl, ?_⟩)
              all_goals (go_wp2_with fail)
              all_goals (go_meet)
              all_goals exact ⟨gV, cV, rfl, rfl, hV, up_trans (by repeat' (first | (with_reducible exact up_refl _) | (with_reducible assumption) | (with_reducible refine up_alloc ?_ _) | (with_reducible refine up_drewN ?_ _) | (with_reducible refine up_drew ?_) | (with_reducible refine up_set ?_ (by first | (simp; done) | (simp; omega) | omega) _) | (refine up_trans ?_ (by with_reducible assumption)))) u7⟩
            case rest =>
            obtain ⟨gV, cV, rfl, rfl, hV, u8⟩ := hcut
            obtain ⟨w7, rfl⟩ : ∃ z : World, z = wc := ⟨_, rfl⟩
            have b7 := bx_up bL u8
            have hu7 := up_trans hu u8
            have U7 := up_trans U5 hu7
            have d7 := up_cell u8 d0
            clear x0 x1 x2 x3 bL hu Uu u8 d0
            have X1 : ∀ r : UpW w7, r.v.cell? ⟨w.heap.size, 1, none⟩ = some (.slice (some ⟨b, off, none⟩) n cA) := fun r => (bx_up b7 r.up 1 _ rfl).1
            have D0 : ∀ r : UpW w7, r.v.cell? ⟨g2, off2 + j, none⟩ = some (.int .i64 v) := fun r => up_cell r.up d7
            have Z0 : ∀ r : UpW w7, r.v.cell? ⟨b, off + v * 7 + 2, none⟩ = some (.int .i64 zv) := fun r => (unhide HZv r.v (up_trans U7 r.up)).1
            have Z1 : ∀ r : UpW w7, r.v.cell? ⟨b, off + k * 7 + 2, none⟩ = some (.int .i64 zk) := fun r => (unhide HZv r.v (up_trans U7 r.up)).2
            have HWu := hide (fun r : UpW w7 => unhide HWi r.v gC gV cC cV (unhide hCC r.v (up_trans hu7 r.up)) (unhide hV r.v r.up))
            go_upto_region 17 with fail
            refine wp_upq (by kernel_rfl) (by kernel_rfl) ?_; (repeat (go_big_quiet_step ((go_at_call 49; with_reducible exact upq (unhide HWu _))))); refine wpQuiet_nil ?_; intro _ hw'; obtain ⟨pq, hw''⟩ := hw'; subst hw''; have hpq := pq.up
            generalize pq.v = W9 at hpq ⊢
            have b9 := bx_up b7 hpq
            have hu9 := up_trans hu7 hpq
            clear X1 D0 Z0 Z1 HWu HWi b7 hu7 U7 d7
            go_wp2_with fail
            go_roundw
            case rel => exact ⟨j + 1, by omega, by go_num, b9, hu9⟩
            case measure => simp [intOf]; omega
          · obtain rfl : j = q := by omega
            have j1 : ¬ (j : Int) < (j : Int) := by omega
            go_wp2_with fail
            go_roundw
            case rel => exact ⟨k + 1, by omega, by go_num, bL, up_trans U5 hu⟩
            case measure => simp [intOf]; omega
      · clear hEm tt
        go_upto_region 14 with fail
        clear x1 hzk
        go_loopw [10] (fun s10 wr => ∃ j : Nat, j ≤ q ∧ s10 = .int .i64 j ∧ Bx wr w.heap.size [.string s, .slice (some ⟨b, off, none⟩) n cA, .slice B m cB, .int .i64 f] ∧ Up w5 wr) (fun s10 _ => q - (intOf s10).toNat)
        case atStart => exact ⟨0, by omega, rfl, b5, up_refl _⟩
        case round =>
          clear b5
          obtain ⟨j, hj, rfl, bL, hu⟩ := hrel
          by_cases hjq : j < q
          · have hjl : j < RL.length := by rw [unhide HQ]; exact hjq
            obtain ⟨v, hvn, hve, hvz, hvs⟩ := unhide HRSk j hjl
            obtain ⟨g2, off2, rfl, hcn⟩ := (unhide hR5 _ hu).resolve_left (by intro e; rw [e] at hjl; simp at hjl)
            have d0 := hcn j hjl
            rw [hve] at d0
            have HCv := hide (unhide HCa v hvn)
            have HWi := hide (fun W A' B' c c' (h1 : Nms W A' CL) (h2 : Nms W B' (CS v)) => l_within A' B' CL (CS v) c c' W h1 h2 (by have := unhide HLck; omega) (by have := unhide HLc v; omega) hvs)
            generalize hvz2 : zs v = zv at *
            generalize CS v = CV at *
            have HZv := hide (fun W (hW : Up w W) => (⟨unhide HCe v hvn W hW, unhide HCe k hlt W hW⟩ : _ ∧ _))
            rw [hvz2, hzse] at HZv
            have j0 : (0 : Int) ≤ (j : Int) := by omega
            have j1 : (j : Int) < (q : Int) := by omega
            have j3 : (j : Int).toNat = j := by omega
            have v0 : (0 : Int) ≤ (v : Int) := by omega
            have v1 : (v : Int) < (n : Int) := by omega
            have v3 : (v : Int).toNat = v := by omega
            have v4 : ¬ (v : Int) < 0 := by omega
            have v5 : ¬ (v : Int) ≥ (n : Int) := by omega
            have z4 : ¬ zv ≥ zk := by omega
            have hwj : IntKind.i64.wrap ((j : Int) + 1) = (j : Int) + 1 := IntWalk.i64_in _ ⟨by omega, by omega⟩
            clear hvs hve hcn hvz2
            have Uu := up_trans U5 hu
            have x0 := (bL 0 _ rfl).1
            have x1 := (bL 1 _ rfl).1
            have x2 := (bL 2 _ rfl).1
            have x3 := (bL 3 _ rfl).1
            go_upto_region 16 with fail
            go_cut [11, 12] (fun sa sb wx => ∃ gV cV, sa = .slice gV CV.length cV ∧ sb = .int .i64 0 ∧ Hid (∀ W2, Up wx W2 → Nms W2 gV CV) ∧ Up wr wx)
            case first => as_aux_lemma =>
              go_region_law (refine step_callL _ rfl 29 #[loV s (some ⟨b, off, none⟩) n cA B m cB f, .int .i64 v] (by first | (go_simp; done) | kernel_rfl) ?_; refine (unhide HCv _ (up_trans Uu (by repeat' (first | (with_reducible exact up_refl _) | (with_reducible assumption) | (with_reducible refine up_alloc ?_ _) | (with_reducible refine up_drewN ?_ _) | (with_reducible refine up_drew ?_) | (with_reducible refine up_set ?_ (by first | (simp; done) | (simp; omega) | omega) _) | (refine up_trans ?_ (by with_reducible assumption)))))).mono ?_; rintro e w7 ⟨⟨gV, cV, rfl, hV⟩, u7⟩; refine ⟨_, rfl, ?_⟩)
              all_goals (go_wp2_with fail)
              all_goals (go_meet)
              all_goals exact ⟨gV, cV, rfl, rfl, hV, up_trans (by repeat' (first | (with_reducible exact up_refl _) | (with_reducible assumption) | (with_reducible refine up_alloc ?_ _) | (with_reducible refine up_drewN ?_ _) | (with_reducible refine up_drew ?_) | (with_reducible refine up_set ?_ (by first | (simp; done) | (simp; omega) | omega) _) | (refine up_trans ?_ (by with_reducible assumption)))) u7⟩
            case rest =>
            obtain ⟨gV, cV, rfl, rfl, hV, u8⟩ := hcut
            obtain ⟨w7, rfl⟩ : ∃ z : World, z = wc := ⟨_, rfl⟩
            have b7 := bx_up bL u8
            have hu7 := up_trans hu u8
            have U7 := up_trans U5 hu7
            have d7 := up_cell u8 d0
            clear x0 x1 x2 x3 bL hu Uu u8 d0
            have X1 : ∀ r : UpW w7, r.v.cell? ⟨w.heap.size, 1, none⟩ = some (.slice (some ⟨b, off, none⟩) n cA) := fun r => (bx_up b7 r.up 1 _ rfl).1
            have D0 : ∀ r : UpW w7, r.v.cell? ⟨g2, off2 + j, none⟩ = some (.int .i64 v) := fun r => up_cell r.up d7
            have Z0 : ∀ r : UpW w7, r.v.cell? ⟨b, off + v * 7 + 2, none⟩ = some (.int .i64 zv) := fun r => (unhide HZv r.v (up_trans U7 r.up)).1
            have Z1 : ∀ r : UpW w7, r.v.cell? ⟨b, off + k * 7 + 2, none⟩ = some (.int .i64 zk) := fun r => (unhide HZv r.v (up_trans U7 r.up)).2
            have HWu := hide (fun r : UpW w7 => unhide HWi r.v gC gV cC cV (unhide hCC r.v (up_trans hu7 r.up)) (unhide hV r.v r.up))
            go_upto_region 17 with fail
            refine wp_upq (by kernel_rfl) (by kernel_rfl) ?_; (repeat (go_big_quiet_step ((go_at_call 49; with_reducible exact upq (unhide HWu _))))); refine wpQuiet_nil ?_; intro _ hw'; obtain ⟨pq, hw''⟩ := hw'; subst hw''; have hpq := pq.up
            generalize pq.v = W9 at hpq ⊢
            have b9 := bx_up b7 hpq
            have hu9 := up_trans hu7 hpq
            clear X1 D0 Z0 Z1 HWu HWi b7 hu7 U7 d7
            go_wp2_with fail
            go_roundw
            case rel => exact ⟨j + 1, by omega, by go_num, b9, hu9⟩
            case measure => simp [intOf]; omega
          · obtain rfl : j = q := by omega
            have j1 : ¬ (j : Int) < (j : Int) := by omega
            go_wp2_with fail
            go_roundw
            case rel => exact ⟨k + 1, by omega, by go_num, bL, up_trans U5 hu⟩
            case measure => simp [intOf]; omega
    · obtain rfl : k = n := by omega
      have i1 : ¬ (k : Int) < (k : Int) := by omega
      have x1 := (bL 1 _ rfl).1
      go_wp2_with (go_at_call 9; (with_reducible refine (unhide HKn _).mono ?_); rintro e w72 ⟨rfl, v72⟩)
      go_ret
      exact ⟨rfl, up_trans hu v72⟩
set_option maxRecDepth 100000 in
set_option maxHeartbeats 16000000 in
theorem l_Stacks_0 (s : ByteArray) (A B : Option Addr) (n m cA cB : Nat) (f z : Int) (w : World) (hg : grL s n m = false) (hn : n ≤ 32) (hz : 0 ≤ z ∧ z < n) (RS CS : Nat → List Int) (zs : Nat → Int)
    (HC : Hid (∀ W, Up w W → Calls Tryz.prog 16 #[loV s A n cA B m cB f] W fun e w' => e = .returned (.int .i64 0) ∧ Up W w'))
    (HF : Hid (∀ W, Up w W → Calls Tryz.prog 31 #[loV s A n cA B m cB f] W fun e w' => e = .returned (.tuple #[.int .i64 z, .int .i64 0]) ∧ Up W w'))
    (HRe : Hid (∀ k : Nat, k < n → ∀ W, Up w W → Calls Tryz.prog 27 #[loV s A n cA B m cB f, .int .i64 k] W (InQ (RS k) W)))
    (HCa : Hid (∀ k : Nat, k < n → ∀ W, Up w W → Calls Tryz.prog 29 #[loV s A n cA B m cB f, .int .i64 k] W (InQ (CS k) W)))
    (HRS : Hid (∀ k, k < n → ∀ j (h : j < (RS k).length), ∃ v : Nat, v < n ∧ (RS k)[j] = (v : Int) ∧ zs v < zs k ∧ ∀ x ∈ CS k, x ∈ CS v)) 
    (HLr : Hid (∀ k, (RS k).length ≤ 1000)) (HLc : Hid (∀ k, (CS k).length ≤ 1000))
    (HZ : Hid (∀ k : Nat, k < n → ∃ b off, A = some ⟨b, off, none⟩ ∧ ∀ j, j < n → ∀ W, Up w W → W.cell? ⟨b, off + j * 7 + 2, none⟩ = some (.int .i64 (zs j)))) :
    Calls Tryz.prog 7 #[loV s A n cA B m cB f] w fun e w' => e = .returned (.bool true) ∧ Up w w' := by
  have HG1 := hide (fun W => p_greatL s A n cA B m cB f W)
  have HKn := hide (fun W => p_knownL W)
  rw [hg] at HG1
  clear hg
  go_enter Tryz.func7, Tryz.ntmps7
  go_upto_region 1 with fail
  refine at_wpC (fun W0 hW0 => ?_)
  have b0 : Bx W0 w.heap.size [.string s, .slice A n cA, .slice B m cB, .int .i64 f] := by rw [hW0]; exact bx_new w _ _
  have U0 : Up w W0 := by rw [hW0]; exact (by repeat' (first | (with_reducible exact up_refl _) | (with_reducible assumption) | (with_reducible refine up_alloc ?_ _) | (with_reducible refine up_drewN ?_ _) | (with_reducible refine up_drew ?_) | (with_reducible refine up_set ?_ (by first | (simp; done) | (simp; omega) | omega) _) | (refine up_trans ?_ (by with_reducible assumption))))
  clear hW0
  have x0 := (b0 0 _ rfl).1
  have x1 := (b0 1 _ rfl).1
  have x2 := (b0 2 _ rfl).1
  have x3 := (b0 3 _ rfl).1
  go_upto_region 3 with (first
    | (go_at_call 8; (with_reducible refine (unhide HG1 _).mono ?_); rintro e w1 ⟨rfl, v1⟩; have x0 := up_cell v1 x0; have x1 := up_cell v1 x1; have x2 := up_cell v1 x2; have x3 := up_cell v1 x3)
    | (go_at_call 16; (with_reducible refine (unhide HC _ (up_trans U0 v1)).mono ?_); rintro e w2 ⟨rfl, v2⟩))
  have b2 := bx_up (bx_up b0 v1) v2
  have U2 := up_trans (up_trans U0 v1) v2
  clear x0 x1 x2 x3 b0 U0 v1 v2 HG1 HC
  have x0 := (b2 0 _ rfl).1
  have x1 := (b2 1 _ rfl).1
  have x2 := (b2 2 _ rfl).1
  have x3 := (b2 3 _ rfl).1
  go_upto_region 4 with (go_at_call 31; (with_reducible refine (unhide HF _ U2).mono ?_); rintro e w3 ⟨rfl, v3⟩)
  have b3 := bx_up b2 v3
  have U3 := up_trans U2 v3
  clear x0 x1 x2 x3 b2 U2 v3 HF
  have x1 := (b3 1 _ rfl).1
  have n32 : ¬ (n : Int) > 32 := by omega
  go_upto_region 7 with fail
  clear x1 n32
  go_loopw [5] (fun s5 wr => ∃ k : Nat, k ≤ n ∧ s5 = .int .i64 k ∧ Bx wr w.heap.size [.string s, .slice A n cA, .slice B m cB, .int .i64 f] ∧ Up w wr) (fun s5 _ => n - (intOf s5).toNat)
  case atStart => exact ⟨0, by omega, rfl, b3, U3⟩
  case round =>
    clear b3 U3
    obtain ⟨k, hk, rfl, bL, hu⟩ := hrel
    by_cases hlt : k < n
    · obtain ⟨b, off, rfl, hc⟩ := unhide HZ k hlt
      have HCe := hide hc
      have HRk := hide (unhide HRe k hlt)
      have HCk := hide (unhide HCa k hlt)
      have HRSk := hide (unhide HRS k hlt)
      have HLk := hide (unhide HLr k)
      have HLck := hide (unhide HLc k)
      have i0 : (0 : Int) ≤ (k : Int) := by omega
      have i1 : (k : Int) < (n : Int) := by omega
      have i3 : (k : Int).toNat = k := by omega
      have hwk : IntKind.i64.wrap ((k : Int) + 1) = (k : Int) + 1 := IntWalk.i64_in _ ⟨by omega, by omega⟩
      clear hc
      have x0 := (bL 0 _ rfl).1
      have x1 := (bL 1 _ rfl).1
      have x2 := (bL 2 _ rfl).1
      have x3 := (bL 3 _ rfl).1
      go_upto_region 10 with (go_at_call 27; (with_reducible refine (unhide HRk _ hu).mono ?_); rintro e w4 ⟨⟨gR, cR, rfl, hR⟩, v4⟩)
      have b4 := bx_up bL v4
      have U4 := up_trans hu v4
      clear x0 x1 x2 x3 bL hu HRk
      have x0 := (b4 0 _ rfl).1
      have x1 := (b4 1 _ rfl).1
      have x2 := (b4 2 _ rfl).1
      have x3 := (b4 3 _ rfl).1
      go_upto_region 11 with (go_at_call 29; (with_reducible refine (unhide HCk _ U4).mono ?_); rintro e w5 ⟨⟨gC, cC, rfl, hCC⟩, v5⟩)
      have hR5 := hide (fun W2 (hW : Up w5 W2) => unhide hR W2 (up_trans v5 hW))
      have b5 := bx_up b4 v5
      have U5 := up_trans U4 v5
      clear x0 x1 x2 x3 b4 U4 v4 v5 hR HCk
      have x1 := (b5 1 _ rfl).1
      have hzk := unhide HCe k hlt _ U5
      generalize hRSe : RS k = RL at *
      generalize hCSe : CS k = CL at *
      generalize hzse : zs k = zk at *
      obtain ⟨q, hq⟩ : ∃ q, RL.length = q := ⟨_, rfl⟩
      have HQ := hide hq
      have hq1 := unhide HLk
      rw [hq] at hq1 ⊢
      clear hq
      by_cases tz : zk > 0
      · by_cases tq : q = 0
        · have tq2 : ((q : Int) == 0) = true := by simp [tq]
          go_upto_region 14 with fail
          clear x1 hzk tq2 tq
          go_loopw [10] (fun s10 wr => ∃ j : Nat, j ≤ q ∧ s10 = .int .i64 j ∧ Bx wr w.heap.size [.string s, .slice (some ⟨b, off, none⟩) n cA, .slice B m cB, .int .i64 f] ∧ Up w5 wr) (fun s10 _ => q - (intOf s10).toNat)
          case atStart => exact ⟨0, by omega, rfl, b5, up_refl _⟩
          case round =>
            clear b5
            obtain ⟨j, hj, rfl, bL, hu⟩ := hrel
            by_cases hjq : j < q
            · have hjl : j < RL.length := by rw [unhide HQ]; exact hjq
              obtain ⟨v, hvn, hve, hvz, hvs⟩ := unhide HRSk j hjl
              obtain ⟨g2, off2, rfl, hcn⟩ := (unhide hR5 _ hu).resolve_left (by intro e; rw [e] at hjl; simp at hjl)
              have d0 := hcn j hjl
              rw [hve] at d0
              have HCv := hide (unhide HCa v hvn)
              have HWi := hide (fun W A' B' c c' (h1 : Nms W A' CL) (h2 : Nms W B' (CS v)) => l_within A' B' CL (CS v) c c' W h1 h2 (by have := unhide HLck; omega) (by have := unhide HLc v; omega) hvs)
              generalize hvz2 : zs v = zv at *
              generalize CS v = CV at *
              have HZv := hide (fun W (hW : Up w W) => (⟨unhide HCe v hvn W hW, unhide HCe k hlt W hW⟩ : _ ∧ _))
              rw [hvz2, hzse] at HZv
              have j0 : (0 : Int) ≤ (j : Int) := by omega
              have j1 : (j : Int) < (q : Int) := by omega
              have j3 : (j : Int).toNat = j := by omega
              have v0 : (0 : Int) ≤ (v : Int) := by omega
              have v1 : (v : Int) < (n : Int) := by omega
              have v3 : (v : Int).toNat = v := by omega
              have v4 : ¬ (v : Int) < 0 := by omega
              have v5 : ¬ (v : Int) ≥ (n : Int) := by omega
              have z4 : ¬ zv ≥ zk := by omega
              have hwj : IntKind.i64.wrap ((j : Int) + 1) = (j : Int) + 1 := IntWalk.i64_in _ ⟨by omega, by omega⟩
              clear hvs hve hcn hvz2
              have Uu := up_trans U5 hu
              have x0 := (bL 0 _ rfl).1
              have x1 := (bL 1 _ rfl).1
              have x2 := (bL 2 _ rfl).1
              have x3 := (bL 3 _ rfl).1
              go_upto_region 16 with fail
              go_cut [11, 12] (fun sa sb wx => ∃ gV cV, sa = .slice gV CV.length cV ∧ sb = .int .i64 0 ∧ Hid (∀ W2, Up wx W2 → Nms W2 gV CV) ∧ Up wr wx)
              case first => as_aux_lemma =>
                go_region_law (refine step_callL _ rfl 29 #[loV s (some ⟨b, off, none⟩) n cA B m cB f, .int .i64 v] (by first | (go_simp; done) | kernel_rfl) ?_; refine (unhide HCv _ (up_trans Uu (by repeat' (first | (with_reducible exact up_refl _) | (with_reducible assumption) | (with_reducible refine up_alloc ?_ _) | (with_reducible refine up_drewN ?_ _) | (with_reducible refine up_drew ?_) | (with_reducible refine up_set ?_ (by first | (simp; done) | (simp; omega) | omega) _) | (refine up_trans ?_ (by with_reducible assumption)))))).mono ?_; rintro e w7 ⟨⟨gV, cV, rfl, hV⟩, u7⟩; refine ⟨_, rfl, ?_⟩)
                all_goals (go_wp2_with fail)
                all_goals (go_meet)
                all_goals exact ⟨gV, cV, rfl, rfl, hV, up_trans (by repeat' (first | (with_reducible exact up_refl _) | (with_reducible assumption) | (with_reducible refine up_alloc ?_ _) | (with_reducible refine up_drewN ?_ _) | (with_reducible refine up_drew ?_) | (with_reducible refine up_set ?_ (by first | (simp; done) | (simp; omega) | omega) _) | (refine up_trans ?_ (by with_reducible assumption)))) u7⟩
              case rest =>
              obtain ⟨gV, cV, rfl, rfl, hV, u8⟩ := hcut
              obtain ⟨w7, rfl⟩ : ∃ z : World, z = wc := ⟨_, rfl⟩
              have b7 := bx_up bL u8
              have hu7 := up_trans hu u8
              have U7 := up_trans U5 hu7
              have d7 := up_cell u8 d0
              clear x0 x1 x2 x3 bL hu Uu u8 d0
              have X1 : ∀ r : UpW w7, r.v.cell? ⟨w.heap.size, 1, none⟩ = some (.slice (some ⟨b, off, none⟩) n cA) := fun r => (bx_up b7 r.up 1 _ rfl).1
              have D0 : ∀ r : UpW w7, r.v.cell? ⟨g2, off2 + j, none⟩ = some (.int .i64 v) := fun r => up_cell r.up d7
              have Z0 : ∀ r : UpW w7, r.v.cell? ⟨b, off + v * 7 + 2, none⟩ = some (.int .i64 zv) := fun r => (unhide HZv r.v (up_trans U7 r.up)).1
              have Z1 : ∀ r : UpW w7, r.v.cell? ⟨b, off + k * 7 + 2, none⟩ = some (.int .i64 zk) := fun r => (unhide HZv r.v (up_trans U7 r.up)).2
              have HWu := hide (fun r : UpW w7 => unhide HWi r.v gC gV cC cV (unhide hCC r.v (up_trans hu7 r.up)) (unhide hV r.v r.up))
              go_upto_region 17 with fail
              refine wp_upq (by kernel_rfl) (by kernel_rfl) ?_; (repeat (go_big_quiet_step ((go_at_call 49; with_reducible exact upq (unhide HWu _))))); refine wpQuiet_nil ?_; intro _ hw'; obtain ⟨pq, hw''⟩ := hw'; subst hw''; have hpq := pq.up
              generalize pq.v = W9 at hpq ⊢
              have b9 := bx_up b7 hpq
              have hu9 := up_trans hu7 hpq
              clear X1 D0 Z0 Z1 HWu HWi b7 hu7 U7 d7
              go_wp2_with fail
              go_roundw
              case rel => exact ⟨j + 1, by omega, by go_num, b9, hu9⟩
              case measure => simp [intOf]; omega
            · obtain rfl : j = q := by omega
              have j1 : ¬ (j : Int) < (j : Int) := by omega
              go_wp2_with fail
              go_roundw
              case rel => exact ⟨k + 1, by omega, by go_num, bL, up_trans U5 hu⟩
              case measure => simp [intOf]; omega
        · have tq2 : ((q : Int) == 0) = false := by simp [tq]
          go_upto_region 14 with fail
          clear x1 hzk tq2
          go_loopw [10] (fun s10 wr => ∃ j : Nat, j ≤ q ∧ s10 = .int .i64 j ∧ Bx wr w.heap.size [.string s, .slice (some ⟨b, off, none⟩) n cA, .slice B m cB, .int .i64 f] ∧ Up w5 wr) (fun s10 _ => q - (intOf s10).toNat)
          case atStart => exact ⟨0, by omega, rfl, b5, up_refl _⟩
          case round =>
            clear b5
            obtain ⟨j, hj, rfl, bL, hu⟩ := hrel
            by_cases hjq : j < q
            · have hjl : j < RL.length := by rw [unhide HQ]; exact hjq
              obtain ⟨v, hvn, hve, hvz, hvs⟩ := unhide HRSk j hjl
              obtain ⟨g2, off2, rfl, hcn⟩ := (unhide hR5 _ hu).resolve_left (by intro e; rw [e] at hjl; simp at hjl)
              have d0 := hcn j hjl
              rw [hve] at d0
              have HCv := hide (unhide HCa v hvn)
              have HWi := hide (fun W A' B' c c' (h1 : Nms W A' CL) (h2 : Nms W B' (CS v)) => l_within A' B' CL (CS v) c c' W h1 h2 (by have := unhide HLck; omega) (by have := unhide HLc v; omega) hvs)
              generalize hvz2 : zs v = zv at *
              generalize CS v = CV at *
              have HZv := hide (fun W (hW : Up w W) => (⟨unhide HCe v hvn W hW, unhide HCe k hlt W hW⟩ : _ ∧ _))
              rw [hvz2, hzse] at HZv
              have j0 : (0 : Int) ≤ (j : Int) := by omega
              have j1 : (j : Int) < (q : Int) := by omega
              have j3 : (j : Int).toNat = j := by omega
              have v0 : (0 : Int) ≤ (v : Int) := by omega
              have v1 : (v : Int) < (n : Int) := by omega
              have v3 : (v : Int).toNat = v := by omega
              have v4 : ¬ (v : Int) < 0 := by omega
              have v5 : ¬ (v : Int) ≥ (n : Int) := by omega
              have z4 : ¬ zv ≥ zk := by omega
              have hwj : IntKind.i64.wrap ((j : Int) + 1) = (j : Int) + 1 := IntWalk.i64_in _ ⟨by omega, by omega⟩
              clear hvs hve hcn hvz2
              have Uu := up_trans U5 hu
              have x0 := (bL 0 _ rfl).1
              have x1 := (bL 1 _ rfl).1
              have x2 := (bL 2 _ rfl).1
              have x3 := (bL 3 _ rfl).1
              go_upto_region 16 with fail
              go_cut [11, 12] (fun sa sb wx => ∃ gV cV, sa = .slice gV CV.length cV ∧ sb = .int .i64 0 ∧ Hid (∀ W2, Up wx W2 → Nms W2 gV CV) ∧ Up wr wx)
              case first => as_aux_lemma =>
                go_region_law (refine step_callL _ rfl 29 #[loV s (some ⟨b, off, none⟩) n cA B m cB f, .int .i64 v] (by first | (go_simp; done) | kernel_rfl) ?_; refine (unhide HCv _ (up_trans Uu (by repeat' (first | (with_reducible exact up_refl _) | (with_reducible assumption) | (with_reducible refine up_alloc ?_ _) | (with_reducible refine up_drewN ?_ _) | (with_reducible refine up_drew ?_) | (with_reducible refine up_set ?_ (by first | (simp; done) | (simp; omega) | omega) _) | (refine up_trans ?_ (by with_reducible assumption)))))).mono ?_; rintro e w7 ⟨⟨gV, cV, rfl, hV⟩, u7⟩; refine ⟨_, rfl, ?_⟩)
                all_goals (go_wp2_with fail)
                all_goals (go_meet)
                all_goals exact ⟨gV, cV, rfl, rfl, hV, up_trans (by repeat' (first | (with_reducible exact up_refl _) | (with_reducible assumption) | (with_reducible refine up_alloc ?_ _) | (with_reducible refine up_drewN ?_ _) | (with_reducible refine up_drew ?_) | (with_reducible refine up_set ?_ (by first | (simp; done) | (simp; omega) | omega) _) | (refine up_trans ?_ (by with_reducible assumption)))) u7⟩
              case rest =>
              obtain ⟨gV, cV, rfl, rfl, hV, u8⟩ := hcut
              obtain ⟨w7, rfl⟩ : ∃ z : World, z = wc := ⟨_, rfl⟩
              have b7 := bx_up bL u8
              have hu7 := up_trans hu u8
              have U7 := up_trans U5 hu7
              have d7 := up_cell u8 d0
              clear x0 x1 x2 x3 bL hu Uu u8 d0
              have X1 : ∀ r : UpW w7, r.v.cell? ⟨w.heap.size, 1, none⟩ = some (.slice (some ⟨b, off, none⟩) n cA) := fun r => (bx_up b7 r.up 1 _ rfl).1
              have D0 : ∀ r : UpW w7, r.v.cell? ⟨g2, off2 + j, none⟩ = some (.int .i64 v) := fun r => up_cell r.up d7
              have Z0 : ∀ r : UpW w7, r.v.cell? ⟨b, off + v * 7 + 2, none⟩ = some (.int .i64 zv) := fun r => (unhide HZv r.v (up_trans U7 r.up)).1
              have Z1 : ∀ r : UpW w7, r.v.cell? ⟨b, off + k * 7 + 2, none⟩ = some (.int .i64 zk) := fun r => (unhide HZv r.v (up_trans U7 r.up)).2
              have HWu := hide (fun r : UpW w7 => unhide HWi r.v gC gV cC cV (unhide hCC r.v (up_trans hu7 r.up)) (unhide hV r.v r.up))
              go_upto_region 17 with fail
              refine wp_upq (by kernel_rfl) (by kernel_rfl) ?_; (repeat (go_big_quiet_step ((go_at_call 49; with_reducible exact upq (unhide HWu _))))); refine wpQuiet_nil ?_; intro _ hw'; obtain ⟨pq, hw''⟩ := hw'; subst hw''; have hpq := pq.up
              generalize pq.v = W9 at hpq ⊢
              have b9 := bx_up b7 hpq
              have hu9 := up_trans hu7 hpq
              clear X1 D0 Z0 Z1 HWu HWi b7 hu7 U7 d7
              go_wp2_with fail
              go_roundw
              case rel => exact ⟨j + 1, by omega, by go_num, b9, hu9⟩
              case measure => simp [intOf]; omega
            · obtain rfl : j = q := by omega
              have j1 : ¬ (j : Int) < (j : Int) := by omega
              go_wp2_with fail
              go_roundw
              case rel => exact ⟨k + 1, by omega, by go_num, bL, up_trans U5 hu⟩
              case measure => simp [intOf]; omega
      · go_upto_region 14 with fail
        clear x1 hzk
        go_loopw [10] (fun s10 wr => ∃ j : Nat, j ≤ q ∧ s10 = .int .i64 j ∧ Bx wr w.heap.size [.string s, .slice (some ⟨b, off, none⟩) n cA, .slice B m cB, .int .i64 f] ∧ Up w5 wr) (fun s10 _ => q - (intOf s10).toNat)
        case atStart => exact ⟨0, by omega, rfl, b5, up_refl _⟩
        case round =>
          clear b5
          obtain ⟨j, hj, rfl, bL, hu⟩ := hrel
          by_cases hjq : j < q
          · have hjl : j < RL.length := by rw [unhide HQ]; exact hjq
            obtain ⟨v, hvn, hve, hvz, hvs⟩ := unhide HRSk j hjl
            obtain ⟨g2, off2, rfl, hcn⟩ := (unhide hR5 _ hu).resolve_left (by intro e; rw [e] at hjl; simp at hjl)
            have d0 := hcn j hjl
            rw [hve] at d0
            have HCv := hide (unhide HCa v hvn)
            have HWi := hide (fun W A' B' c c' (h1 : Nms W A' CL) (h2 : Nms W B' (CS v)) => l_within A' B' CL (CS v) c c' W h1 h2 (by have := unhide HLck; omega) (by have := unhide HLc v; omega) hvs)
            generalize hvz2 : zs v = zv at *
            generalize CS v = CV at *
            have HZv := hide (fun W (hW : Up w W) => (⟨unhide HCe v hvn W hW, unhide HCe k hlt W hW⟩ : _ ∧ _))
            rw [hvz2, hzse] at HZv
            have j0 : (0 : Int) ≤ (j : Int) := by omega
            have j1 : (j : Int) < (q : Int) := by omega
            have j3 : (j : Int).toNat = j := by omega
            have v0 : (0 : Int) ≤ (v : Int) := by omega
            have v1 : (v : Int) < (n : Int) := by omega
            have v3 : (v : Int).toNat = v := by omega
            have v4 : ¬ (v : Int) < 0 := by omega
            have v5 : ¬ (v : Int) ≥ (n : Int) := by omega
            have z4 : ¬ zv ≥ zk := by omega
            have hwj : IntKind.i64.wrap ((j : Int) + 1) = (j : Int) + 1 := IntWalk.i64_in _ ⟨by omega, by omega⟩
            clear hvs hve hcn hvz2
            have Uu := up_trans U5 hu
            have x0 := (bL 0 _ rfl).1
            have x1 := (bL 1 _ rfl).1
            have x2 := (bL 2 _ rfl).1
            have x3 := (bL 3 _ rfl).1
            go_upto_region 16 with fail
            go_cut [11, 12] (fun sa sb wx => ∃ gV cV, sa = .slice gV CV.length cV ∧ sb = .int .i64 0 ∧ Hid (∀ W2, Up wx W2 → Nms W2 gV CV) ∧ Up wr wx)
            case first => as_aux_lemma =>
              go_region_law (refine step_callL _ rfl 29 #[loV s (some ⟨b, off, none⟩) n cA B m cB f, .int .i64 v] (by first | (go_simp; done) | kernel_rfl) ?_; refine (unhide HCv _ (up_trans Uu (by repeat' (first | (with_reducible exact up_refl _) | (with_reducible assumption) | (with_reducible refine up_alloc ?_ _) | (with_reducible refine up_drewN ?_ _) | (with_reducible refine up_drew ?_) | (with_reducible refine up_set ?_ (by first | (simp; done) | (simp; omega) | omega) _) | (refine up_trans ?_ (by with_reducible assumption)))))).mono ?_; rintro e w7 ⟨⟨gV, cV, rfl, hV⟩, u7⟩; refine ⟨_, rfl, ?_⟩)
              all_goals (go_wp2_with fail)
              all_goals (go_meet)
              all_goals exact ⟨gV, cV, rfl, rfl, hV, up_trans (by repeat' (first | (with_reducible exact up_refl _) | (with_reducible assumption) | (with_reducible refine up_alloc ?_ _) | (with_reducible refine up_drewN ?_ _) | (with_reducible refine up_drew ?_) | (with_reducible refine up_set ?_ (by first | (simp; done) | (simp; omega) | omega) _) | (refine up_trans ?_ (by with_reducible assumption)))) u7⟩
            case rest =>
            obtain ⟨gV, cV, rfl, rfl, hV, u8⟩ := hcut
            obtain ⟨w7, rfl⟩ : ∃ z : World, z = wc := ⟨_, rfl⟩
            have b7 := bx_up bL u8
            have hu7 := up_trans hu u8
            have U7 := up_trans U5 hu7
            have d7 := up_cell u8 d0
            clear x0 x1 x2 x3 bL hu Uu u8 d0
            have X1 : ∀ r : UpW w7, r.v.cell? ⟨w.heap.size, 1, none⟩ = some (.slice (some ⟨b, off, none⟩) n cA) := fun r => (bx_up b7 r.up 1 _ rfl).1
            have D0 : ∀ r : UpW w7, r.v.cell? ⟨g2, off2 + j, none⟩ = some (.int .i64 v) := fun r => up_cell r.up d7
            have Z0 : ∀ r : UpW w7, r.v.cell? ⟨b, off + v * 7 + 2, none⟩ = some (.int .i64 zv) := fun r => (unhide HZv r.v (up_trans U7 r.up)).1
            have Z1 : ∀ r : UpW w7, r.v.cell? ⟨b, off + k * 7 + 2, none⟩ = some (.int .i64 zk) := fun r => (unhide HZv r.v (up_trans U7 r.up)).2
            have HWu := hide (fun r : UpW w7 => unhide HWi r.v gC gV cC cV (unhide hCC r.v (up_trans hu7 r.up)) (unhide hV r.v r.up))
            go_upto_region 17 with fail
            refine wp_upq (by kernel_rfl) (by kernel_rfl) ?_; (repeat (go_big_quiet_step ((go_at_call 49; with_reducible exact upq (unhide HWu _))))); refine wpQuiet_nil ?_; intro _ hw'; obtain ⟨pq, hw''⟩ := hw'; subst hw''; have hpq := pq.up
            generalize pq.v = W9 at hpq ⊢
            have b9 := bx_up b7 hpq
            have hu9 := up_trans hu7 hpq
            clear X1 D0 Z0 Z1 HWu HWi b7 hu7 U7 d7
            go_wp2_with fail
            go_roundw
            case rel => exact ⟨j + 1, by omega, by go_num, b9, hu9⟩
            case measure => simp [intOf]; omega
          · obtain rfl : j = q := by omega
            have j1 : ¬ (j : Int) < (j : Int) := by omega
            go_wp2_with fail
            go_roundw
            case rel => exact ⟨k + 1, by omega, by go_num, bL, up_trans U5 hu⟩
            case measure => simp [intOf]; omega
    · obtain rfl : k = n := by omega
      have i1 : ¬ (k : Int) < (k : Int) := by omega
      have x1 := (bL 1 _ rfl).1
      go_wp2_with (go_at_call 9; (with_reducible refine (unhide HKn _).mono ?_); rintro e w72 ⟨rfl, v72⟩)
      go_ret
      exact ⟨rfl, up_trans hu v72⟩
theorem first_no (S : Nat → Bool) : ∀ n : Nat, (∀ j, j < n → S j = true) ∨ ∃ k, k < n ∧ S k = false ∧ ∀ j, j < k → S j = true
  | 0 => .inl fun j hj => by omega
  | n + 1 => by
    rcases first_no S n with h | ⟨k, hk, h1, h2⟩
    · cases hs : S n
      · exact .inr ⟨n, by omega, hs, h⟩
      · refine .inl fun j hj => ?_
        by_cases e : j < n
        · exact h j e
        · obtain rfl : j = n := by omega
          exact hs
    · exact .inr ⟨k, by omega, h1, h2⟩
theorem l_Stacks (s : ByteArray) (A : Option Addr) (ps : List Pce) (cA : Nat) (B : Option Addr) (ys : List Eye) (cB : Nat) (f : Int) (w : World) (hA : Pcs w A ps) (hB : Eyes w B ys) (hn : ps.length ≤ 9223372036854775807) (hm : ys.length ≤ 9223372036854775807) :
    Calls Tryz.prog 7 #[loV s A ps.length cA B ys.length cB f] w fun e w' => e = .returned (.bool true) ∧ Up w w' := by
  have HC := hide (fun W (hW : Up w W) => p_CheckL s A ps cA B ys cB f W (pcs_up hA hW) (eyes_up hB hW) hn hm)
  by_cases h1 : grL s ps.length ys.length = true ∨ loE s ps ys f ≠ 0
  · exact l_Stacks1 s A B ps.length ys.length cA cB f (loE s ps ys f) w h1 HC
  · have hg : grL s ps.length ys.length = false := by
      cases h : grL s ps.length ys.length
      · rfl
      · exact absurd (.inl h) h1
    have hE : loE s ps ys f = 0 := by
      by_cases h : loE s ps ys f = 0
      · exact h
      · exact absurd (.inr h) h1
    clear h1
    rw [hE] at HC
    obtain ⟨⟨hg1, hg2, hg3⟩, _, _, hok, _, _⟩ := loE_ok hE
    have hix : ∀ k : Nat, k < ps.length → ixE s ps ys f (k : Int) = 0 := fun k hk => by
      unfold ixE
      rw [if_pos hE, if_pos (by omega)]
    have HRe := hide (fun (k : Nat) (hk : k < ps.length) W (hW : Up w W) => (show Calls Tryz.prog 27 #[loV s A ps.length cA B ys.length cB f, .int .i64 k] W (InQ (rsL ps k) W) by
      refine (p_Rests s A ps cA B ys cB f (k : Int) W (pcs_up hA hW) (eyes_up hB hW) hn hm).mono ?_
      rintro e w' ⟨⟨v, rfl, ho⟩, hu⟩
      rw [hix k hk, if_pos rfl, show (k : Int).toNat = k by omega] at ho
      obtain ⟨g, c, rfl, hp⟩ := own_nms ho
      exact ⟨⟨g, c, by rw [hix k hk], hide fun W2 h2 => nms_up hp h2⟩, hu⟩))
    have HCa := hide (fun (k : Nat) (hk : k < ps.length) W (hW : Up w W) => (show Calls Tryz.prog 29 #[loV s A ps.length cA B ys.length cB f, .int .i64 k] W (InQ (cdL ps k) W) by
      refine (p_Carries s A ps cA B ys cB f (k : Int) W (pcs_up hA hW) (eyes_up hB hW) hn hm).mono ?_
      rintro e w' ⟨⟨v, rfl, ho⟩, hu⟩
      rw [hix k hk, if_pos rfl, show (k : Int).toNat = k by omega] at ho
      obtain ⟨g, c, rfl, hp⟩ := own_nms ho
      exact ⟨⟨g, c, by rw [hix k hk], hide fun W2 h2 => nms_up hp h2⟩, hu⟩))
    have HLr : Hid (∀ k, (rsL ps k).length ≤ 1000) := hide fun k => by have := rsL_len ps k; omega
    have HLc : Hid (∀ k, (cdL ps k).length ≤ 1000) := hide fun k => by unfold cdL; rw [inN_len]; have := cdN_len ps k; omega
    have HRS := hide (fun k (hk : k < ps.length) j (hj : j < (rsL ps k).length) => rsL_on hok hk hj)
    have HZ : Hid (∀ k : Nat, k < ps.length → ∃ b off, A = some ⟨b, off, none⟩ ∧ ∀ j, j < ps.length → ∀ W, Up w W → W.cell? ⟨b, off + j * 7 + 2, none⟩ = some (.int .i64 (ps.getD j pc0).z)) := hide fun k hk => by
      obtain ⟨b, off, e, hc⟩ := hA.resolve_left (by intro e; rw [e] at hk; simp at hk)
      refine ⟨b, off, e, fun j hj W hW => ?_⟩
      have e2 : ps.getD j pc0 = ps[j] := by rw [List.getD_eq_getElem?_getD, List.getElem?_eq_getElem hj]; rfl
      rw [e2]
      exact (pceAt_up (hc j hj) hW).2.2.1
    rcases first_no (fun k => stB ps k) ps.length with hall | ⟨k0, hk0, hno, hbe⟩
    · refine l_Stacks_5 s A B ps.length ys.length cA cB f 0 w hg (by omega) rfl (rsL ps) (cdL ps) (fun k => (ps.getD k pc0).z) HC (hide fun W hW => ?_) HRe HCa HRS (hide fun k hk hz => ?_) HLr HLc HZ
      · refine (p_FallsV s A ps cA B ys cB f W (pcs_up hA hW) (eyes_up hB hW) hE).mono ?_
        rintro e w' ⟨⟨z, e', rfl, hq⟩, hu⟩
        rcases hq with ⟨k, hk, _, _, h, _⟩ | ⟨rfl, rfl, _⟩
        · have q : stB ps k = true := hall k hk
          rw [q] at h
          exact absurd h (by simp)
        · exact ⟨rfl, hu⟩
      · cases hr : rsL ps k with
        | nil =>
          have q : stB ps k = true := hall k hk
          rw [st_no hz hr] at q
          exact absurd q (by simp)
        | cons a l => simp
    · refine l_Stacks_0 s A B ps.length ys.length cA cB f k0 w hg (by omega) ⟨by omega, by omega⟩ (rsL ps) (cdL ps) (fun k => (ps.getD k pc0).z) HC (hide fun W hW => ?_) HRe HCa HRS HLr HLc HZ
      refine (p_FallsV s A ps cA B ys cB f W (pcs_up hA hW) (eyes_up hB hW) hE).mono ?_
      rintro e w' ⟨⟨z, e', rfl, hq⟩, hu⟩
      rcases hq with ⟨k, hk, rfl, rfl, h, hb⟩ | ⟨_, _, ha⟩
      · obtain rfl : k = k0 := by
          rcases Nat.lt_trichotomy k k0 with c | c | c
          · have q : stB ps k = true := hbe k c
            rw [q] at h
            exact absurd h (by simp)
          · exact c
          · have q : stB ps k0 = true := hb k0 c
            rw [q] at hno
            exact absurd hno (by simp)
        exact ⟨rfl, hu⟩
      · have q : stB ps k0 = true := ha k0 hk0
        rw [q] at hno
        exact absurd hno (by simp)
end Go.Proofs.YtdehnokcjnbjoaaGreat
