/- The pressure over a culvert: the program's and the document's. -/
import Derived.Test.YtdignnmhiifpgaaBrWm
import Derived.Test.YtdignnmhiifpgaaBrRt
namespace Go.Proofs.Ytdignnmhiifpgaa
open Go.RowKit Go.Proofs.Gn
set_option linter.unusedVariables false
def prE (ts : List (Int × Int)) (c wd : Int) : Int := if ctE ts = 0 then (if win6 c 0 16384 = true ∧ win6 wd 100 10000 = true then 0 else 3) else ctE ts
def prV (G : Int) (ts : List (Int × Int)) (c wd : Int) : Int := if prE ts c wd = 0 then up6 (G * 1000000) (2 * (c + 150) * (wd + 2 * c)) else 0
theorem gs_bd {L : Int} {ts : List (Int × Int)} (h : TrOk ts) (h0 : 0 < ts.length) : 0 ≤ (gsI (wtL L ts)).getD 0 ∧ (gsI (wtL L ts)).getD 0 ≤ 67108864 := by
  obtain ⟨m1, _⟩ := gsI_mem (xs := wtL L ts) (by rw [wtL_len]; exact h0)
  obtain ⟨i, hi, e⟩ := List.mem_iff_getElem.1 m1
  rw [wtL_len] at hi
  rw [wtL_get L hi] at e
  rw [← e]
  have t := fsL_bd (ts[i].1 + L) (ts := ts.drop i) (fun j hj => by rw [List.getElem_drop]; exact (h.2 (i + j) (by rw [List.length_drop] at hj; omega)).2) (ts.drop i).length (Nat.le_refl _)
  rw [List.take_length, List.length_drop] at t
  have := h.1
  omega
theorem pr_bd {c wd : Int} (hc : 0 ≤ c ∧ c ≤ 16384) (hw : 100 ≤ wd ∧ wd ≤ 10000) : 1 ≤ 2 * (c + 150) * (wd + 2 * c) ∧ 2 * (c + 150) * (wd + 2 * c) ≤ 2000000000 := by
  have a : 300 * 100 ≤ 2 * (c + 150) * (wd + 2 * c) := Int.mul_le_mul (by omega) (by omega) (by omega) (by omega)
  have b : 2 * (c + 150) * (wd + 2 * c) ≤ 33068 * 42768 := Int.mul_le_mul (by omega) (by omega) (by omega) (by omega)
  omega
set_option maxRecDepth 100000 in
set_option maxHeartbeats 8000000 in
theorem p_Pressure (A : Option Addr) (ts : List (Int × Int)) (cap : Nat) (c wd : Int) (w : World) (hF : Frs w A ts) (hnt : ts.length ≤ 9223372036854775807) (hcap : ts.length ≤ cap) :
    Calls Try.prog 12 #[.slice A ts.length cap, .int .i64 c, .int .i64 wd] w fun e w' => e = .returned (.tuple #[.int .i64 (prV ((gsI (wtL (2 * (c + 150)) ts)).getD 0) ts c wd), .int .i64 (prE ts c wd)]) ∧ Up w w' := by
  have H1 := hide (fun W (hU : Up w W) => p_CheckTrain A ts cap W (frs_up hF hU) hnt)
  have H4 := hide (fun W => p_w64 c 0 16384 W)
  have H5 := hide (fun W => p_w64 wd 100 10000 W)
  by_cases hE : ctE ts = 0
  · obtain ⟨ht, h0⟩ := trOk_of hE
    rw [hE] at H1
    cases h4 : win6 c 0 16384 with
    | false =>
      have he : prE ts c wd = 3 := by unfold prE; rw [if_pos hE, if_neg (by simp [h4])]
      have hv : prV ((gsI (wtL (2 * (c + 150)) ts)).getD 0) ts c wd = 0 := by unfold prV; rw [if_neg (by rw [he]; decide)]
      rw [he, hv]
      rw [h4] at H4
      clear hE he hv h4 ht h0 hF hnt hcap
      generalize ts.length = m at *
      go_enter Try.func12, Try.ntmps12
      go_wp2_with (first | (go_at_call 33; (with_reducible refine (unhide H1 _ (up_refl _)).mono ?_); rintro e w1 ⟨rfl, hu1⟩) | (go_at_call 37; (with_reducible refine (unhide H4 _).mono ?_); rintro e w2 ⟨rfl, rfl⟩) | (go_at_call 37; (with_reducible refine (unhide H5 _).mono ?_); rintro e w2 ⟨rfl, rfl⟩))
      go_ret2
      exact ⟨rfl, hu1⟩
    | true =>
      rw [h4] at H4
      have hc := win6_yes h4
      cases h5 : win6 wd 100 10000 with
      | false =>
        have he : prE ts c wd = 3 := by unfold prE; rw [if_pos hE, if_neg (by simp [h5])]
        have hv : prV ((gsI (wtL (2 * (c + 150)) ts)).getD 0) ts c wd = 0 := by unfold prV; rw [if_neg (by rw [he]; decide)]
        rw [he, hv]
        rw [h5] at H5
        clear hE he hv h4 h5 ht h0 hF hnt hcap
        generalize ts.length = m at *
        go_enter Try.func12, Try.ntmps12
        go_wp2_with (first | (go_at_call 33; (with_reducible refine (unhide H1 _ (up_refl _)).mono ?_); rintro e w1 ⟨rfl, hu1⟩) | (go_at_call 37; (with_reducible refine (unhide H4 _).mono ?_); rintro e w2 ⟨rfl, rfl⟩) | (go_at_call 37; (with_reducible refine (unhide H5 _).mono ?_); rintro e w2 ⟨rfl, rfl⟩))
        go_ret2
        exact ⟨rfl, hu1⟩
      | true =>
        rw [h5] at H5
        have hw := win6_yes h5
        have he : prE ts c wd = 0 := by unfold prE; rw [if_pos hE, if_pos ⟨h4, h5⟩]
        have hv : prV ((gsI (wtL (2 * (c + 150)) ts)).getD 0) ts c wd = up6 ((gsI (wtL (2 * (c + 150)) ts)).getD 0 * 1000000) (2 * (c + 150) * (wd + 2 * c)) := by unfold prV; rw [if_pos he]
        rw [he, hv]
        have gb := gs_bd (L := 2 * (c + 150)) ht h0
        have pb := pr_bd hc hw
        have H6 := hide (fun W (hU : Up w W) => (callsIn_wide (n := 9)).1 (wt_make 9 A ts.length cap (2 * (c + 150)) W))
        have H7 := hide (fun (W : World) (hU : Up w W) => p_greatestI W.heap.size (W.heap.size + 1) A cap (2 * (c + 150)) ts ((W.alloc (.cells #[.slice A ts.length cap] 30)).alloc (.cells #[.int .i64 (2 * (c + 150))] 2))
          ⟨by have t := bx_alloc (bx_new W [.slice A ts.length cap] 30) (.cells #[.int .i64 (2 * (c + 150))] 2); exact (t 0 _ rfl).1, by have t := bx_new (W.alloc (.cells #[.slice A ts.length cap] 30)) [.int .i64 (2 * (c + 150))] 2; rw [World.size_alloc] at t; exact (t 0 _ rfl).1, frs_up hF (up_alloc (up_alloc hU _) _)⟩ (by rw [World.size_alloc, World.size_alloc]; omega) (by rw [World.size_alloc, World.size_alloc]; omega) (fun b off e => by
            have := frs_block (frs_up hF hU) h0 b off e
            rw [World.size_alloc, World.size_alloc]; omega) ht ⟨by omega, by omega⟩ hcap)
        have w1 : IntKind.i64.wrap (c + 150) = c + 150 := IntWalk.i64_in _ ⟨by omega, by omega⟩
        have w2 : IntKind.i64.wrap (2 * (c + 150)) = 2 * (c + 150) := IntWalk.i64_in _ ⟨by omega, by omega⟩
        have w3 : IntKind.i64.wrap (2 * c) = 2 * c := IntWalk.i64_in _ ⟨by omega, by omega⟩
        have w4 : IntKind.i64.wrap (wd + 2 * c) = wd + 2 * c := IntWalk.i64_in _ ⟨by omega, by omega⟩
        have w5 : IntKind.i64.wrap (2 * (c + 150) * (wd + 2 * c)) = 2 * (c + 150) * (wd + 2 * c) := IntWalk.i64_in _ ⟨by omega, by omega⟩
        have w6 : IntKind.i64.wrap ((gsI (wtL (2 * (c + 150)) ts)).getD 0 * 1000000) = (gsI (wtL (2 * (c + 150)) ts)).getD 0 * 1000000 := IntWalk.i64_in _ ⟨by omega, by omega⟩
        have H8 := hide (fun W => p_up6 ((gsI (wtL (2 * (c + 150)) ts)).getD 0 * 1000000) (2 * (c + 150) * (wd + 2 * c)) W ⟨by omega, by omega⟩ ⟨pb.1, by omega⟩)
        generalize (gsI (wtL (2 * (c + 150)) ts)).getD 0 = g at *
        clear hE he hv h4 h5 ht h0 hF hnt hcap gb pb hc hw
        generalize ts.length = m at *
        go_enter Try.func12, Try.ntmps12
        go_wp2_with (first | (go_at_call 33; (with_reducible refine (unhide H1 _ (up_refl _)).mono ?_); rintro e w1 ⟨rfl, hu1⟩) | (go_at_call 37; (with_reducible refine (unhide H4 _).mono ?_); rintro e w2 ⟨rfl, rfl⟩) | (go_at_call 37; (with_reducible refine (unhide H5 _).mono ?_); rintro e w2 ⟨rfl, rfl⟩) | (go_at_call 39; (with_reducible refine (unhide H6 _ hu1).mono ?_); rintro e w3 ⟨rfl, rfl⟩) | (go_at_call 38; (with_reducible refine (unhide H7 _ hu1).mono ?_); rintro e w4 ⟨rfl, hu4⟩) | (go_at_call 41; (with_reducible refine (unhide H8 _).mono ?_); rintro e w5 ⟨rfl, rfl⟩))
        go_ret2
        exact ⟨rfl, up_trans (up_alloc (up_alloc hu1 _) _) hu4⟩
  · have he : prE ts c wd = ctE ts := by unfold prE; rw [if_neg hE]
    have hv : prV ((gsI (wtL (2 * (c + 150)) ts)).getD 0) ts c wd = 0 := by unfold prV; rw [if_neg (by rw [he]; exact hE)]
    rw [he, hv]
    generalize ctE ts = E at *
    have e1 : (E == 0) = false := by simp; exact hE
    clear he hv hF hnt hcap
    generalize ts.length = m at *
    go_enter Try.func12, Try.ntmps12
    go_wp2_with (go_at_call 33; (with_reducible refine (unhide H1 _ (up_refl _)).mono ?_); rintro e w1 ⟨rfl, hu1⟩)
    go_ret2
    exact ⟨rfl, hu1⟩
set_option maxRecDepth 100000 in
set_option maxHeartbeats 8000000 in
theorem r_Pressure6 (A : Option Addr) (ts : List (Int × Int)) (cap : Nat) (c wd : Int) (w : World) (hF : Frs w A ts) (hnt : ts.length ≤ 9223372036854775807) :
    Calls Try.prog 13 #[.slice A ts.length cap, .int .i64 c, .int .i64 wd] w fun e w' => e = .returned (.tuple #[.int .i64 (prV ((gsI (wtL (2 * (c + 150)) ts)).getD 0) ts c wd), .int .i64 (prE ts c wd)]) ∧ Up w w' := by
  have H1 := hide (fun W (hU : Up w W) => r_CheckTrain6 A ts cap W (frs_up hF hU) hnt)
  have H4 := hide (fun W => r_w6 c 0 16384 W)
  have H5 := hide (fun W => r_w6 wd 100 10000 W)
  by_cases hE : ctE ts = 0
  · obtain ⟨ht, h0⟩ := trOk_of hE
    rw [hE] at H1
    by_cases h45 : win6 c 0 16384 = true ∧ win6 wd 100 10000 = true
    · obtain ⟨h4, h5⟩ := h45
      rw [h4] at H4
      rw [h5] at H5
      have hc := win6_yes h4
      have hw := win6_yes h5
      have he : prE ts c wd = 0 := by unfold prE; rw [if_pos hE, if_pos ⟨h4, h5⟩]
      have hv : prV ((gsI (wtL (2 * (c + 150)) ts)).getD 0) ts c wd = up6 ((gsI (wtL (2 * (c + 150)) ts)).getD 0 * 1000000) (2 * (c + 150) * (wd + 2 * c)) := by unfold prV; rw [if_pos he]
      have hsame := wt_same (L := 2 * (c + 150)) (by omega) (posP_of ht) ((by
        unfold ctE at hE
        split at hE
        · split at hE
          · rename_i hh
            simp only [Bool.and_eq_true] at hh
            exact (tok_iff.1 hh.1).2
          · cases hE
        · cases hE) : ts.Pairwise (fun u v => u.1 ≤ v.1)) h0
      rw [he, hv]
      have gb := gs_bd (L := 2 * (c + 150)) ht h0
      have pb := pr_bd hc hw
      obtain ⟨L, hLd⟩ : ∃ L, 2 * (c + 150) = L := ⟨_, rfl⟩
      rw [hLd] at gb hsame pb ⊢
      obtain ⟨d, hd⟩ : ∃ d, L * (wd + 2 * c) = d := ⟨_, rfl⟩
      rw [hd] at pb ⊢
      obtain ⟨g, hg⟩ : ∃ g, (gsI (wtL L ts)).getD 0 = g := ⟨_, rfl⟩
      rw [hg] at gb hsame ⊢
      have w1 : IntKind.i64.wrap (c + 150) = c + 150 := IntWalk.i64_in _ ⟨by omega, by omega⟩
      have w2 : IntKind.i64.wrap (2 * (c + 150)) = L := by rw [hLd]; exact IntWalk.i64_in _ ⟨by omega, by omega⟩
      have w3 : IntKind.i64.wrap (2 * c) = 2 * c := IntWalk.i64_in _ ⟨by omega, by omega⟩
      have w4 : IntKind.i64.wrap (wd + 2 * c) = wd + 2 * c := IntWalk.i64_in _ ⟨by omega, by omega⟩
      have w5 : IntKind.i64.wrap (L * (wd + 2 * c)) = d := by rw [hd]; exact IntWalk.i64_in _ ⟨by omega, by omega⟩
      have w6 : IntKind.i64.wrap (g * 1000000) = g * 1000000 := IntWalk.i64_in _ ⟨by omega, by omega⟩
      have H8 := hide (fun W => r_up6 (g * 1000000) d W ⟨by omega, by omega⟩ ⟨pb.1, by omega⟩)
      have HSame := hide hsame
      have HT := hide (fun k (h : k < ts.length) => (⟨ht.2 k h, rmN_step L h⟩ : _ ∧ _))
      have HBt := hide (fun lo hi k (h : k < ts.length) => bsL_take lo hi h)
      have HBb := hide (fun lo hi k (h : k ≤ ts.length) => bsL_bd lo hi ht k h)
      have HBall := hide (fun lo hi => (show bsL lo hi (ts.take ts.length) = bsL lo hi ts by rw [List.take_length]))
      have Hw := hide (fun n lo hi (W : World) => (r_w6 n lo hi W).mono (fun e w' ⟨he, hw⟩ => (⟨he, hw ▸ up_refl W⟩ : _ ∧ Up W w')))
      have hm64 := ht.1
      have hLb : 300 ≤ L ∧ L ≤ 33068 := by omega
      obtain ⟨R, hR⟩ : ∃ R : Nat → Int, rmN L ts = R := ⟨_, rfl⟩
      have hR0 : R 0 = 0 := by rw [← hR]; rfl
      rw [hR] at HT HSame
      rcases hF with hnil | ⟨b, off, rfl, hcc⟩
      · rw [hnil] at h0; simp at h0
      have HC := hide hcc
      clear hE he hv h4 h5 ht hnt gb hLd hd hg hsame hc hw hR hcc
      obtain ⟨m, hM⟩ : ∃ m, ts.length = m := ⟨_, rfl⟩
      have HN := hide hM
      rw [hM] at H1 h0 hm64 HSame HBall ⊢
      clear hM
      go_enter Try.func13, Try.ntmps13
      go_upto_region 8 with (first | (go_at_call 36; (with_reducible refine (unhide H1 _ (up_refl _)).mono ?_); rintro e w1 ⟨rfl, hu1⟩) | (go_at_call 35; (with_reducible refine (unhide H4 _).mono ?_); rintro e w3 ⟨rfl, rfl⟩) | (go_at_call 35; (with_reducible refine (unhide H5 _).mono ?_); rintro e w3 ⟨rfl, rfl⟩))
      have HU1 := hide hu1
      clear hu1 H1 H4 H5
      go_loopw [9, 10] (fun s9 s10 wr => ∃ k : Nat, k ≤ m ∧ s10 = .int .i64 k ∧ s9 = .int .i64 (R k) ∧ Up w wr) (fun _ s10 _ => m - (intOf s10).toNat)
      case atStart => exact ⟨0, by omega, rfl, by rw [hR0], unhide HU1⟩
      case round =>
        obtain ⟨k, hk, rfl, rfl, hu⟩ := hrel
        by_cases hlt : k < m
        · have hl : k < ts.length := by rw [unhide HN]; exact hlt
          obtain ⟨⟨hX, _⟩, hst⟩ := unhide HT k hl
          have k0 := up_cell hu (unhide HC k hl).1
          generalize ts[k].1 = X at *
          have HST := hide hst
          obtain ⟨mo, hmo⟩ : ∃ x, R k = x := ⟨_, rfl⟩
          rw [hmo] at HST ⊢
          obtain ⟨lo, hlo⟩ : ∃ lo, X - L = lo := ⟨_, rfl⟩
          rw [hlo] at HST
          have v1 : IntKind.i64.wrap (X - L) = lo := (IntWalk.i64_in _ ⟨by omega, by omega⟩).trans hlo
          have hwk : IntKind.i64.wrap ((k : Int) + 1) = (k : Int) + 1 := IntWalk.i64_in _ ⟨by omega, by omega⟩
          have i0 : (0 : Int) ≤ (k : Int) := by omega
          have i1 : (k : Int) < (m : Int) := by omega
          have i2 : (k : Int).toNat = k := by omega
          clear hst hmo hlo
          go_upto_region 12 with fail
          obtain ⟨wo, rfl⟩ : ∃ wo, wo = wr := ⟨_, rfl⟩
          go_loopw [11, 12] (fun s11 s12 wr => ∃ j : Nat, j ≤ m ∧ s12 = .int .i64 j ∧ s11 = .int .i64 (bsL lo X (ts.take j)) ∧ Up wo wr) (fun _ s12 _ => m - (intOf s12).toNat)
          case atStart => exact ⟨0, by omega, rfl, rfl, up_refl _⟩
          case round =>
            obtain ⟨j, hj, rfl, rfl, hv⟩ := hrel
            by_cases hlt2 : j < m
            · have hl2 : j < ts.length := by rw [unhide HN]; exact hlt2
              obtain ⟨⟨hY, hP⟩, _⟩ := unhide HT j hl2
              have bt := unhide HBt lo X j hl2
              have bb := unhide HBb lo X j (by omega)
              have y0 := up_cell (up_trans hu hv) (unhide HC j hl2).1
              have y1 := up_cell (up_trans hu hv) (unhide HC j hl2).2
              have x0 := up_cell hv k0
              generalize ts[j].1 = Y at *
              generalize ts[j].2 = P at *
              obtain ⟨f, hf⟩ : ∃ f, bsL lo X (ts.take j) = f := ⟨_, rfl⟩
              rw [hf] at bt bb ⊢
              have HBT := hide bt
              have y0q : ∀ q : UpW wr, q.v.cell? ⟨b, off + j * 2, none⟩ = some (.int .i64 Y) := fun q => up_cell q.up y0
              have y1q : ∀ q : UpW wr, q.v.cell? ⟨b, off + j * 2 + 1, none⟩ = some (.int .i64 P) := fun q => up_cell q.up y1
              have x0q : ∀ q : UpW wr, q.v.cell? ⟨b, off + k * 2, none⟩ = some (.int .i64 X) := fun q => up_cell q.up x0
              have v2 : IntKind.i64.wrap (f + P) = f + P := IntWalk.i64_in _ ⟨by omega, by omega⟩
              have v3 : IntKind.i64.wrap ((j : Int) + 1) = (j : Int) + 1 := IntWalk.i64_in _ ⟨by omega, by omega⟩
              have j0 : (0 : Int) ≤ (j : Int) := by omega
              have j1 : (j : Int) < (m : Int) := by omega
              have j2 : (j : Int).toNat = j := by omega
              have HWi := hide (fun W => unhide Hw Y lo X W)
              have hwin : (win6 Y lo X = true) = (lo ≤ Y ∧ Y ≤ X) := by simp [win6]
              obtain ⟨bw, hbw⟩ : ∃ bw, win6 Y lo X = bw := ⟨_, rfl⟩
              rw [hbw] at HWi hwin
              clear bt hf hbw y0 y1 x0 hY
              go_upto_region 14 with fail
              cases bw
              · have HN2 := hide (show ¬ (lo ≤ Y ∧ Y ≤ X) by rw [← hwin]; simp)
                clear hwin
                refine wp_upq (by kernel_rfl) (by kernel_rfl) ?_; (repeat (go_big_quiet_step (exact upq (unhide HWi _)))); refine wpQuiet_nil ?_; intro _ hw'; obtain ⟨pq, hw''⟩ := hw'; subst hw''; have hpq := pq.up
                go_wp2_with fail
                go_roundw
                case rel => exact ⟨j + 1, by omega, by first | rfl | trivial | go_num, by rw [unhide HBT, if_neg (unhide HN2), Int.add_zero], up_trans hv hpq⟩
                case measure => simp [intOf]; omega
              · have HN2 := hide (show lo ≤ Y ∧ Y ≤ X by rw [← hwin])
                clear hwin
                refine wp_upq (by kernel_rfl) (by kernel_rfl) ?_; (repeat (go_big_quiet_step (exact upq (unhide HWi _)))); refine wpQuiet_nil ?_; intro _ hw'; obtain ⟨pq, hw''⟩ := hw'; subst hw''; have hpq := pq.up
                have y1' := y1q pq
                go_wp2_with fail
                go_roundw
                case rel => exact ⟨j + 1, by omega, by first | rfl | trivial | go_num, by rw [unhide HBT, if_pos (unhide HN2)], up_trans hv hpq⟩
                case measure => simp [intOf]; omega
            · have hjm : m = j := by omega
              subst hjm
              rw [unhide HBall lo X]
              obtain ⟨f, hf⟩ : ∃ f, bsL lo X ts = f := ⟨_, rfl⟩
              have HS2 := unhide HST
              rw [hf] at HS2 ⊢
              have HST3 := hide HS2
              clear HS2 hf HST
              by_cases hgt : mo < f
              · have z1 : decide (mo < f) = true := decide_eq_true hgt
                go_wp2_with fail
                go_roundw
                case rel => exact ⟨k + 1, by omega, by first | rfl | trivial | go_num, by rw [unhide HST3, if_pos hgt], up_trans hu hv⟩
                case measure => simp [intOf]; omega
              · have z1 : decide (mo < f) = false := decide_eq_false hgt
                go_wp2_with fail
                go_roundw
                case rel => exact ⟨k + 1, by omega, by first | rfl | trivial | go_num, by rw [unhide HST3, if_neg hgt], up_trans hu hv⟩
                case measure => simp [intOf]; omega
        · have hkm : m = k := by omega
          subst hkm
          rw [unhide HSame]
          go_wp2_with (go_at_call 42; (with_reducible refine (unhide H8 _).mono ?_); rintro e w5 ⟨rfl, rfl⟩)
          go_ret2
          exact ⟨rfl, hu⟩
    · have he : prE ts c wd = 3 := by unfold prE; rw [if_pos hE, if_neg h45]
      have hv : prV ((gsI (wtL (2 * (c + 150)) ts)).getD 0) ts c wd = 0 := by unfold prV; rw [if_neg (by rw [he]; decide)]
      rw [he, hv]
      generalize win6 c 0 16384 = r4 at *
      generalize win6 wd 100 10000 = r5 at *
      clear hE he hv ht h0 hF hnt
      generalize ts.length = m at *
      cases r4
      · go_enter Try.func13, Try.ntmps13
        go_wp2_with (first | (go_at_call 36; (with_reducible refine (unhide H1 _ (up_refl _)).mono ?_); rintro e w1 ⟨rfl, hu1⟩) | (go_at_call 35; (with_reducible refine (unhide H4 _).mono ?_); rintro e w3 ⟨rfl, rfl⟩) | (go_at_call 35; (with_reducible refine (unhide H5 _).mono ?_); rintro e w3 ⟨rfl, rfl⟩))
        go_ret2
        exact ⟨rfl, hu1⟩
      · cases r5
        · go_enter Try.func13, Try.ntmps13
          go_wp2_with (first | (go_at_call 36; (with_reducible refine (unhide H1 _ (up_refl _)).mono ?_); rintro e w1 ⟨rfl, hu1⟩) | (go_at_call 35; (with_reducible refine (unhide H4 _).mono ?_); rintro e w3 ⟨rfl, rfl⟩) | (go_at_call 35; (with_reducible refine (unhide H5 _).mono ?_); rintro e w3 ⟨rfl, rfl⟩))
          go_ret2
          exact ⟨rfl, hu1⟩
        · exact absurd ⟨rfl, rfl⟩ h45
  · have he : prE ts c wd = ctE ts := by unfold prE; rw [if_neg hE]
    have hv : prV ((gsI (wtL (2 * (c + 150)) ts)).getD 0) ts c wd = 0 := by unfold prV; rw [if_neg (by rw [he]; exact hE)]
    rw [he, hv]
    generalize ctE ts = E at *
    have e1 : (E == 0) = false := by simp; exact hE
    clear he hv hF hnt
    generalize ts.length = m at *
    go_enter Try.func13, Try.ntmps13
    go_wp2_with (first | (go_at_call 36; (with_reducible refine (unhide H1 _ (up_refl _)).mono ?_); rintro e w1 ⟨rfl, hu1⟩) | (go_at_call 36; (with_reducible refine (unhide H1 _ hu1).mono ?_); rintro e w2 ⟨rfl, hu2⟩))
    go_ret2
    exact ⟨rfl, up_trans hu1 hu2⟩
end Go.Proofs.Ytdignnmhiifpgaa
