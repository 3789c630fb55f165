/- The document's own answer for trains. -/
import Derived.Test.YtdignnmhiifpgaaBrRw
namespace Go.Proofs.Ytdignnmhiifpgaa
open Go.RowKit Go.Proofs.Gn
set_option linter.unusedVariables false
theorem ctE_not {ts : List (Int × Int)} (h : win6 ts.length 1 64 = true) {V : Bool} {f : Int} (hV : tok 0 ts = V) (hf : ∀ h0 : 0 < ts.length, ts[0].1 = f) : ctE ts = if (V && f == 0) = true then 0 else 2 := by
  have hb := win6_yes h
  have h0 : 0 < ts.length := by omega
  unfold ctE
  rw [if_pos h, List.getElem?_eq_getElem h0, hV]
  simp only [Option.map_some, Option.getD_some, hf h0]
set_option maxRecDepth 100000 in
set_option maxHeartbeats 8000000 in
theorem r_CheckTrain6 (A : Option Addr) (ts : List (Int × Int)) (cap : Nat) (w : World) (h : Frs w A ts) (hn : ts.length ≤ 9223372036854775807) :
    Calls Try.prog 36 #[.slice A ts.length cap] w fun e w' => e = .returned (.int .i64 (ctE ts)) ∧ Up w w' := by
  by_cases hz : win6 ts.length 1 64 = true
  · have hb := win6_yes hz
    have h0 : 0 < ts.length := by omega
    obtain ⟨V, hV⟩ : ∃ V, tok 0 ts = V := ⟨_, rfl⟩
    obtain ⟨f, hf⟩ : ∃ f, ts[0].1 = f := ⟨_, rfl⟩
    rw [ctE_not hz hV (fun _ => hf)]
    obtain ⟨R, hR⟩ : ∃ R, (if (V && f == 0) = true then (0 : Int) else 2) = R := ⟨_, rfl⟩
    rw [hR]
    have HR := hide hR
    have h00 : tok 0 (ts.drop 0) = V := by rw [List.drop_zero]; exact hV
    have H0 := hide h00
    have HS := hide (fun a k (h : k < ts.length) => tok_step (a := a) h)
    have HDr := hide (fun k => (List.drop_eq_nil_iff.2 : ts.length ≤ k → ts.drop k = []))
    have HW := hide (fun n lo hi W => r_w6 n lo hi W)
    have Hf := hide hf
    rcases h with hnil | ⟨b, off, rfl, hc⟩
    · rw [hnil] at h0; simp at h0
    have HC := hide hc
    clear hR h00 hV hf hc
    obtain ⟨n, hN⟩ : ∃ n, ts.length = n := ⟨_, rfl⟩
    have HN := hide hN
    rw [hN] at hn hb h0 ⊢
    clear hN hz
    have e1 : decide ((n : Int) < 1) = false := decide_eq_false (by omega)
    have e2 : decide ((n : Int) > 64) = false := decide_eq_false (by omega)
    have e3 : decide (64 < (n : Int)) = false := decide_eq_false (by omega)
    obtain ⟨wo, rfl⟩ : ∃ wo, wo = w := ⟨_, rfl⟩
    go_enter Try.func36, Try.ntmps36
    go_upto_region 4 with fail
    clear e1 e2 e3
    go_loopw [3] (fun s3 wr => ∃ (k : Nat) (a : Int), k ≤ n ∧ s3 = .int .i64 k ∧ Hid (tok a (ts.drop k) = V) ∧ 0 ≤ a ∧ (0 < k → f = 0) ∧ Hid (if k = 0 then a = 0 else wo.cell? ⟨b, off + (k - 1) * 2, none⟩ = some (.int .i64 a)) ∧ Up wo wr) (fun s3 _ => n - (intOf s3).toNat)
    case atStart => exact ⟨0, 0, by omega, rfl, H0, by omega, fun h => absurd h (by omega), hide rfl, up_refl _⟩
    case round =>
      obtain ⟨k, a, hk, rfl, HT, ha, hf0, HA, hu⟩ := hrel
      by_cases hlt : k < n
      · have hl : k < ts.length := by rw [unhide HN]; exact hlt
        obtain ⟨c0, c1⟩ := unhide HC k hl
        have st := (unhide HS a k hl).symm.trans (unhide HT)
        have hX0 : k = 0 → ts[k].1 = f := fun hk0 => by subst hk0; exact unhide Hf
        generalize ts[k].1 = x at *
        generalize ts[k].2 = p at *
        have hwk : IntKind.i64.wrap ((k : Int) + 1) = (k : Int) + 1 := IntWalk.i64_in _ ⟨by omega, by omega⟩
        have i0 : (0 : Int) ≤ (k : Int) := by omega
        have i1 : (k : Int) < (n : Int) := by omega
        have i2 : (k : Int).toNat = k := by omega
        have HC0 := hide c0
        have c0q : ∀ q : UpW wr, q.v.cell? ⟨b, off + k * 2, none⟩ = some (.int .i64 x) := fun q => up_cell (up_trans hu q.up) c0
        have c1q : ∀ q : UpW wr, q.v.cell? ⟨b, off + k * 2 + 1, none⟩ = some (.int .i64 p) := fun q => up_cell (up_trans hu q.up) c1
        clear c0 c1
        have bad : ∀ {c : Prop}, (c → V = false ∨ f ≠ 0) → c → R = 2 := fun h hc => by
          rw [← unhide HR]
          rcases h hc with e | e
          · rw [e]; rfl
          · have : (f == 0) = false := beq_false_of_ne e
            rw [this, Bool.and_false]; rfl
        have good : 0 < k ∨ x = 0 → win6 x a 262144 = true → win6 p 0 1048576 = true → tok x (ts.drop (k + 1)) = V := fun _ e1 e2 => by rw [e1, e2] at st; exact st
        have bad1 : win6 x a 262144 = false → R = 2 := bad (fun e => .inl (by rw [e] at st; exact st.symm))
        have bad2 : win6 x a 262144 = true → win6 p 0 1048576 = false → R = 2 := fun e1 => bad (fun e => .inl (by rw [e1, e] at st; exact st.symm))
        have bad3 : k = 0 → x ≠ 0 → R = 2 := fun e1 => bad (fun e => .inr (by rw [← hX0 e1]; exact e))
        have HG := hide good
        have HB1 := hide bad1
        have HB2 := hide bad2
        have HB3 := hide bad3
        have HX0 := hide hX0
        have ha2 := ha
        have HWx := fun W : World => (r_w6 x 0 262144 W).mono (fun e w' ⟨he, hw⟩ => (⟨he, hw ▸ up_refl W⟩ : _ ∧ Up W w'))
        have HWp := fun W : World => (r_w6 p 0 1048576 W).mono (fun e w' ⟨he, hw⟩ => (⟨he, hw ▸ up_refl W⟩ : _ ∧ Up W w'))
        clear bad good bad1 bad2 bad3 st hX0 HT
        by_cases hk0 : k = 0
        · subst hk0
          have ha0 : a = 0 := by have t := unhide HA; simpa using t
          subst ha0
          simp only [Nat.zero_mul, Nat.add_zero] at c0q c1q
          have HNx : x = 0 → f = 0 := fun e => by rw [← unhide HX0 rfl]; exact e
          by_cases hx : x = 0
          · subst hx
            have hf2 := HNx rfl
            have hx0 : (0 : Int) ≤ 0 := by omega
            have ew : win6 0 0 262144 = true := by decide
            rw [ew] at HWx
            have HX1 := hide HWx
            cases ep : win6 p 0 1048576 with
            | true =>
              rw [ep] at HWp
              have HP1 := hide HWp
              have HNx := hide (unhide HG (.inr rfl) ew ep)
              clear HG HB1 HB2 HB3 HWx HWp ep ew HA HX0 ha hk
              go_upto_region 6 with fail
              refine wp_upq (by kernel_rfl) (by kernel_rfl) ?_; (repeat (go_big_quiet_step (first | (go_at_call 35; with_reducible exact upq (unhide HX1 _)) | (go_at_call 35; with_reducible exact upq (unhide HP1 _))))); refine wpQuiet_nil ?_; intro _ hw'; obtain ⟨pq, hw''⟩ := hw'; subst hw''; have hpq := pq.up
              go_wp2_with fail
              go_roundw
              case rel => exact ⟨0 + 1, 0, by omega, by first | rfl | trivial | go_num, HNx, hx0, fun _ => hf2, hide (by simp; exact unhide HC0), up_trans hu hpq⟩
              case measure => first | (simp [intOf]; done) | (simp [intOf]; omega)
            | false =>
              rw [ep] at HWp
              have HP1 := hide HWp
              have hr := unhide HB2 ew ep
              subst hr
              clear HG HB1 HB2 HB3 HWx HWp ep ew HA HX0 ha hk HNx
              go_upto_region 6 with fail
              refine wp_upq (by kernel_rfl) (by kernel_rfl) ?_; (repeat (go_big_quiet_step (first | (go_at_call 35; with_reducible exact upq (unhide HX1 _)) | (go_at_call 35; with_reducible exact upq (unhide HP1 _))))); refine wpQuiet_nil ?_; intro _ hw'; obtain ⟨pq, hw''⟩ := hw'; subst hw''; have hpq := pq.up
              go_wp2_with fail
              go_ret
              exact ⟨rfl, up_trans hu hpq⟩
          · have hr := unhide HB3 rfl hx
            subst hr
            have d0 : (x != 0) = true := by simp; exact hx
            have d1 : (x == 0) = false := by simp; exact hx
            clear HG HB1 HB2 HB3 HA HX0 ha hk HNx
            have HX1 := hide HWx
            have HP1 := hide HWp
            clear HWx HWp
            go_upto_region 6 with fail
            refine wp_upq (by kernel_rfl) (by kernel_rfl) ?_; (repeat (go_big_quiet_step (first | (go_at_call 35; with_reducible exact upq (unhide HX1 _)) | (go_at_call 35; with_reducible exact upq (unhide HP1 _))))); refine wpQuiet_nil ?_; intro _ hw'; obtain ⟨pq, hw''⟩ := hw'; subst hw''; have hpq := pq.up
            go_wp2_with fail
            go_ret
            exact ⟨rfl, up_trans hu hpq⟩
        · have cY : ∀ q : UpW wr, q.v.cell? ⟨b, off + (k - 1) * 2, none⟩ = some (.int .i64 a) := fun q => by have t := unhide HA; rw [if_neg hk0] at t; exact up_cell (up_trans hu q.up) t
          have g1 : ((k : Int) == 0) = false := by simp; omega
          have g2 : decide ((k : Int) > 0) = true := decide_eq_true (by omega)
          have g3 : decide (0 < (k : Int)) = true := decide_eq_true (by omega)
          have g4 : IntKind.i64.wrap ((k : Int) - 1) = (k : Int) - 1 := IntWalk.i64_in _ ⟨by omega, by omega⟩
          have g8 : 0 < k := by omega
          have g9 : decide (0 < k) = true := decide_eq_true g8
          have g5 : (0 : Int) ≤ (k : Int) - 1 := by omega
          have g6 : (k : Int) - 1 < (n : Int) := by omega
          have g7 : ((k : Int) - 1).toNat = k - 1 := by omega
          have hf2 := hf0 (by omega)
          clear HB3 HX0 HA hf0
          by_cases hx : x < a
          · have d0 : decide (x < a) = true := decide_eq_true hx
            have hr := unhide HB1 (by simp only [win6, decide_eq_false_iff_not]; omega)
            subst hr
            have HX1 := hide HWx
            have HP1 := hide HWp
            clear HG HB1 HB2 HWx HWp ha hk hk0 hf2
            go_upto_region 6 with fail
            refine wp_upq (by kernel_rfl) (by kernel_rfl) ?_; (repeat (go_big_quiet_step (first | (go_at_call 35; with_reducible exact upq (unhide HX1 _)) | (go_at_call 35; with_reducible exact upq (unhide HP1 _))))); refine wpQuiet_nil ?_; intro _ hw'; obtain ⟨pq, hw''⟩ := hw'; subst hw''; have hpq := pq.up
            go_wp2_with fail
            go_ret
            exact ⟨rfl, up_trans hu hpq⟩
          · have d0 : decide (x < a) = false := decide_eq_false hx
            cases ew : win6 x 0 262144 with
            | false =>
              have hr := unhide HB1 (by simp only [win6, decide_eq_false_iff_not] at ew ⊢; omega)
              subst hr
              rw [ew] at HWx
              have HX1 := hide HWx
              have HP1 := hide HWp
              clear HG HB1 HB2 HWx HWp ha hk hk0 hf2 ew
              go_upto_region 6 with fail
              refine wp_upq (by kernel_rfl) (by kernel_rfl) ?_; (repeat (go_big_quiet_step (first | (go_at_call 35; with_reducible exact upq (unhide HX1 _)) | (go_at_call 35; with_reducible exact upq (unhide HP1 _))))); refine wpQuiet_nil ?_; intro _ hw'; obtain ⟨pq, hw''⟩ := hw'; subst hw''; have hpq := pq.up
              go_wp2_with fail
              go_ret
              exact ⟨rfl, up_trans hu hpq⟩
            | true =>
              have hxb := win6_yes ew
              have ew2 : win6 x a 262144 = true := win6_mk ⟨by omega, hxb.2⟩
              have hx0 : 0 ≤ x := hxb.1
              rw [ew] at HWx
              have HX1 := hide HWx
              cases ep : win6 p 0 1048576 with
              | true =>
                rw [ep] at HWp
                have HP1 := hide HWp
                have HNx := hide (unhide HG (.inl (by omega)) ew2 ep)
                clear HG HB1 HB2 HWx HWp ep ew ew2 hxb ha
                go_upto_region 6 with fail
                refine wp_upq (by kernel_rfl) (by kernel_rfl) ?_; (repeat (go_big_quiet_step (first | (go_at_call 35; with_reducible exact upq (unhide HX1 _)) | (go_at_call 35; with_reducible exact upq (unhide HP1 _))))); refine wpQuiet_nil ?_; intro _ hw'; obtain ⟨pq, hw''⟩ := hw'; subst hw''; have hpq := pq.up
                go_wp2_with fail
                go_roundw
                case rel => exact ⟨k + 1, x, by omega, by first | rfl | trivial | go_num, HNx, hx0, fun _ => hf2, hide (by rw [if_neg (by omega), Nat.add_sub_cancel]; exact unhide HC0), up_trans hu hpq⟩
                case measure => first | (simp [intOf]; done) | (simp [intOf]; omega)
              | false =>
                rw [ep] at HWp
                have HP1 := hide HWp
                have hr := unhide HB2 ew2 ep
                subst hr
                clear HG HB1 HB2 HWx HWp ep ew ew2 hxb ha hk hf2
                go_upto_region 6 with fail
                refine wp_upq (by kernel_rfl) (by kernel_rfl) ?_; (repeat (go_big_quiet_step (first | (go_at_call 35; with_reducible exact upq (unhide HX1 _)) | (go_at_call 35; with_reducible exact upq (unhide HP1 _))))); refine wpQuiet_nil ?_; intro _ hw'; obtain ⟨pq, hw''⟩ := hw'; subst hw''; have hpq := pq.up
                go_wp2_with fail
                go_ret
                exact ⟨rfl, up_trans hu hpq⟩
      · obtain rfl : k = n := by omega
        have hV : V = true := by rw [← unhide HT, unhide HDr k (by rw [unhide HN]; exact Nat.le_refl _)]; rfl
        have hf1 := hf0 h0
        have hr : R = 0 := by rw [← unhide HR, hV, hf1]; rfl
        subst hr
        go_wp2_with fail
        go_ret
        exact ⟨rfl, hu⟩
  · have hr : ctE ts = 6 := by unfold ctE; rw [if_neg hz]
    rw [hr]
    have hz' : ¬ (1 ≤ (ts.length : Int) ∧ (ts.length : Int) ≤ 64) := fun hh => hz (win6_mk hh)
    clear hr hz h
    generalize ts.length = n at *
    by_cases h1 : n < 1
    · have e1 : decide ((n : Int) < 1) = true := decide_eq_true (by omega)
      go_enter Try.func36, Try.ntmps36
      go_wp2_with fail
      go_ret
      exact ⟨rfl, (by repeat' (first | (with_reducible exact up_refl _) | (with_reducible assumption) | (with_reducible refine up_alloc ?_ _) | (with_reducible refine up_drewN ?_ _) | (with_reducible refine up_drew ?_) | (with_reducible refine up_set ?_ (by first | (simp; done) | (simp; omega) | omega) _) | (refine up_trans ?_ (by with_reducible assumption))))⟩
    · have e1 : decide ((n : Int) < 1) = false := decide_eq_false (by omega)
      have e2 : decide ((n : Int) > 64) = true := decide_eq_true (by omega)
      have e3 : decide (64 < (n : Int)) = true := decide_eq_true (by omega)
      go_enter Try.func36, Try.ntmps36
      go_wp2_with fail
      go_ret
      exact ⟨rfl, (by repeat' (first | (with_reducible exact up_refl _) | (with_reducible assumption) | (with_reducible refine up_alloc ?_ _) | (with_reducible refine up_drewN ?_ _) | (with_reducible refine up_drew ?_) | (with_reducible refine up_set ?_ (by first | (simp; done) | (simp; omega) | omega) _) | (refine up_trans ?_ (by with_reducible assumption))))⟩
end Go.Proofs.Ytdignnmhiifpgaa
