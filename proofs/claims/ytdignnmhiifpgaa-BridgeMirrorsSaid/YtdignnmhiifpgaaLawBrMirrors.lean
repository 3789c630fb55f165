/- BridgeMirrors: the law's function returns true. -/
import Derived.Test.YtdignnmhiifpgaaBrMr
import Derived.Test.YtdignnmhiifpgaaBrGr
import Derived.Test.YtdignnmhiifpgaaBrAp
import Derived.OwnWalk
import Derived.Deep.RegionLaw
import Derived.Deep.Cut
import Derived.Deep.DeepCutAuto
namespace Go.Proofs.Ytdignnmhiifpgaa
open Go.RowKit Go.Proofs.Gn
attribute [local go_sem] Oper.semAt_some
set_option linter.unusedVariables false
theorem bx_drewM {W : World} {b : Nat} {vs : List Value} (h : Bx W b vs) : Bx W.drew b vs := bx_up h (up_drew (up_refl _))
theorem wmV_four (b : Brg) (ts : List (Int × Int)) (s x : Int) : ∃ v0 v1 v2 v3 : Int, wmV b ts s x = .agg #[.int .i64 v0, .int .i64 v1, .int .i64 v2, .int .i64 v3] := by
  by_cases hE : wmE b ts s x = 0
  · obtain ⟨v, a, q1, _⟩ := ev_mom hE
    exact ⟨_, _, _, _, q1⟩
  · exact ⟨_, _, _, _, wmV_no hE⟩
theorem weV_four (right : Bool) (b : Brg) (ts : List (Int × Int)) (s : Int) : ∃ v0 v1 v2 v3 : Int, weV right b ts s = .agg #[.int .i64 v0, .int .i64 v1, .int .i64 v2, .int .i64 v3] := by
  by_cases hE : weE b ts s = 0
  · obtain ⟨v, p1, p2, a, q1, _⟩ := ev_end right hE
    exact ⟨_, _, _, _, q1⟩
  · exact ⟨_, _, _, _, weV_no hE⟩
set_option maxRecDepth 100000 in
set_option maxHeartbeats 40000000 in
theorem l_Mirrors (b : Brg) (A : Option Addr) (ts : List (Int × Int)) (cap : Nat) (x : Int) (w : World) (h : BgAt w b) (hn : b.sp.length ≤ 9223372036854775807 ∧ b.mo.length ≤ 9223372036854775807 ∧ b.sh.length ≤ 9223372036854775807) (hcap : b.sp.length ≤ b.k0) (hF : Frs w A ts) (hnt : ts.length ≤ 9223372036854775807) :
    Calls Try.prog 7 #[bgV b, .slice A ts.length cap, .int .i64 x] w fun e w' => e = .returned (.bool true) ∧ Below w.heap.size w w' := by
  have HG := hide (fun W => l_great6 b A ts.length cap W)
  by_cases hsmall : grB b.sp.length b.mo.length b.sh.length ts.length = true ∨ b.sp.length = 0 ∨ ts.length = 0
  · obtain ⟨g, hg⟩ : ∃ g, grB b.sp.length b.mo.length b.sh.length ts.length = g := ⟨_, rfl⟩
    rw [hg] at HG hsmall
    unfold bgV at HG ⊢
    obtain ⟨sp, mo, sh, A0, A1, A2, k0, k1, k2, dy, la, tr⟩ := b
    dsimp only at *
    generalize sp.length = n0 at *
    generalize mo.length = n1 at *
    generalize sh.length = n2 at *
    generalize ts.length = m at *
    clear h hn hcap hF hnt hg
    go_enter Try.func7, Try.ntmps7
    go_upto_region 1 with fail
    refine at_wpB (fun W hW => ?_)
    have hB : Bx W w.heap.size [.slice A0 n0 k0, .slice A1 n1 k1, .slice A2 n2 k2, .int .i64 dy, .int .i64 la, .int .i64 tr] := by rw [hW]; exact bx_new w _ _
    have U : Up w W := by rw [hW]; exact (by repeat' (first | (with_reducible exact up_refl _) | (with_reducible assumption) | (with_reducible refine up_alloc ?_ _) | (with_reducible refine up_drewN ?_ _) | (with_reducible refine up_drew ?_) | (with_reducible refine up_set ?_ (by first | (simp; done) | (simp; omega) | omega) _) | (refine up_trans ?_ (by with_reducible assumption))))
    obtain ⟨d0, d1, d2, d3, d4, d5⟩ := bgc hB
    clear hW
    cases g with
    | true =>
      go_wp2_with (first | (go_at_call 20; (with_reducible refine (unhide HG _).mono ?_); rintro e w1 ⟨rfl, hu1⟩) | (go_at_call 8; refine (l_known _).mono ?_; rintro e w2 ⟨rfl, hu2⟩))
      go_ret
      exact ⟨rfl, up_trans U (up_trans hu1 hu2)⟩
    | false =>
      by_cases h0 : n0 = 0
      · subst h0
        go_wp2_with (first | (go_at_call 20; (with_reducible refine (unhide HG _).mono ?_); rintro e w1 ⟨rfl, hu1⟩; obtain ⟨d0, d1, d2, d3, d4, d5⟩ := bgc (bx_up hB hu1)) | (go_at_call 8; refine (l_known _).mono ?_; rintro e w2 ⟨rfl, hu2⟩))
        go_ret
        exact ⟨rfl, up_trans U (up_trans hu1 hu2)⟩
      · have h1 : m = 0 := by
          rcases hsmall with hq | hq | hq
          · cases hq
          · exact absurd hq h0
          · exact hq
        have e0 : ((n0 : Int) == 0) = false := by simp; exact h0
        subst h1
        go_wp2_with (first | (go_at_call 20; (with_reducible refine (unhide HG _).mono ?_); rintro e w1 ⟨rfl, hu1⟩; obtain ⟨d0, d1, d2, d3, d4, d5⟩ := bgc (bx_up hB hu1)) | (go_at_call 8; refine (l_known _).mono ?_; rintro e w2 ⟨rfl, hu2⟩))
        go_ret
        exact ⟨rfl, up_trans U (up_trans hu1 hu2)⟩
  · have hgr : grB b.sp.length b.mo.length b.sh.length ts.length = false := by
      cases hh : grB b.sp.length b.mo.length b.sh.length ts.length with
      | true => exact absurd (.inl hh) hsmall
      | false => rfl
    have hn0 : 0 < b.sp.length := Nat.pos_of_ne_zero fun hh => hsmall (.inr (.inl hh))
    have hm0 : 0 < ts.length := Nat.pos_of_ne_zero fun hh => hsmall (.inr (.inr hh))
    have hsm := grB_no hgr
    rw [hgr] at HG
    have HW := hide (fun W (hU : Up w W) => p_WorstMoment b A ts cap 0 x W (bgAt_up h hU) hn hcap (frs_up hF hU) hnt)
    have HV := hide (fun W (hU : Up w W) => p_WorstEnd b A ts cap false 0 W (bgAt_up h hU) hn hcap (frs_up hF hU) hnt)
    have HW2 := hide (fun (us : List (Int × Int)) (y : Int) (g cq : Nat) W (hU : Up w W) (hl : us.length = ts.length) (hg : Frs W (some ⟨g, 0, none⟩) us) => (show Calls Try.prog 21 #[bgV b, .slice (some ⟨g, 0, none⟩) ts.length cq, .int .i64 0, .int .i64 y] W fun e w' => e = .returned (.tuple #[wmV b us 0 y, .int .i64 (wmE b us 0 y)]) ∧ Up W w' from by
      have t := p_WorstMoment b (some ⟨g, 0, none⟩) us cq 0 y W (bgAt_up h hU) hn hcap hg (by omega)
      rw [hl] at t
      exact t))
    have HV2 := hide (fun (us : List (Int × Int)) (g cq : Nat) W (hU : Up w W) (hl : us.length = ts.length) (hg : Frs W (some ⟨g, 0, none⟩) us) => (show Calls Try.prog 23 #[bgV b, .slice (some ⟨g, 0, none⟩) ts.length cq, .int .i64 0, .bool true] W fun e w' => e = .returned (.tuple #[weV true b us 0, .int .i64 (weE b us 0)]) ∧ Up W w' from by
      have t := p_WorstEnd b (some ⟨g, 0, none⟩) us cq true 0 W (bgAt_up h hU) hn hcap hg (by omega)
      rw [hl] at t
      exact t))
    obtain ⟨last, hlast⟩ : ∃ last, (ts[ts.length - 1]'(by omega)).1 = last := ⟨_, rfl⟩
    have hl? : ts[ts.length - 1]?.map (·.1) = some last := by rw [List.getElem?_eq_getElem (by omega), ← hlast]; rfl
    have HMi := hide (fun h1 h2 => mi_facts (b := b) (ts := ts) (x := x) (last := last) h1 h2 hl?)
    obtain ⟨v, p1, p2, a, f1⟩ := wmV_four b ts 0 x
    obtain ⟨v', p5, p6, c, f2⟩ := weV_four false b ts 0
    have hTok : wmE b ts 0 x = 0 → TrOk ts ∧ (∀ t ∈ ts, t.1 ≤ 262144) := fun hE => ⟨(trOk_of (orF_3 hE).2.1).1, fun t ht => by
      obtain ⟨k, hk, rfl⟩ := List.mem_iff_getElem.1 ht
      exact ((trOk_of (orF_3 hE).2.1).1.2 k hk).1.2⟩
    rw [f1, f2] at HMi
    rw [f1] at HW
    rw [f2] at HV
    obtain ⟨E, hE⟩ : ∃ V, wmE b ts 0 x = V := ⟨_, rfl⟩
    obtain ⟨E', hE'⟩ : ∃ V, weE b ts 0 = V := ⟨_, rfl⟩
    rw [hE] at HW HMi hTok
    rw [hE'] at HV HMi
    rcases h.s with hnil | ⟨ba, off, hA0, hcc⟩
    · rw [hnil] at hn0; simp at hn0
    have HS := hide hcc
    rcases hF with hnil | ⟨bt, ot, hA1, hct⟩
    · rw [hnil] at hm0; simp at hm0
    subst hA1
    have HcT := hide hct
    have hc0 := hcc 0 hn0
    have HTok := hide hTok
    have HLa := hide hl?
    have hcl := (hct (ts.length - 1) (by omega)).1
    rw [hlast] at hcl
    unfold bgV at HG HW HV HW2 HV2 ⊢
    rw [hA0] at HG HW HV HW2 HV2 ⊢
    obtain ⟨n0, hN0⟩ : ∃ n, b.sp.length = n := ⟨_, rfl⟩
    obtain ⟨n1, hN1⟩ : ∃ n, b.mo.length = n := ⟨_, rfl⟩
    obtain ⟨n2, hN2⟩ : ∃ n, b.sh.length = n := ⟨_, rfl⟩
    obtain ⟨m, hM⟩ : ∃ m, ts.length = m := ⟨_, rfl⟩
    have HN0 := hide hN0
    have HN := hide hM
    have hm70 : m ≤ 70 := by omega
    obtain ⟨len, hlen⟩ : ∃ len, b.sp[0] = len := ⟨_, rfl⟩
    have hl0 : b.sp[0]? = some len := by rw [List.getElem?_eq_getElem hn0, hlen]
    have HL0 := hide hl0
    rw [hlen] at hc0
    rw [hN0, hN1, hN2] at HG HW HV HW2 HV2 ⊢
    rw [hM] at HG HW HV HW2 HV2 hcl ⊢
    rw [hN0] at hn0
    rw [hM] at hm0
    clear h hn hnt hsm hN0 hN1 hN2 hM hcc hct hA0 hgr hsmall f1 f2 hE hE' hTok hlast hl? hlen hl0 hcap
    have g1 : ((n0 : Int) == 0) = false := by simp; omega
    have g2 : ((m : Int) == 0) = false := by simp; omega
    go_enter Try.func7, Try.ntmps7
    go_upto_region 1 with fail
    refine at_wpB (fun W hW => ?_)
    have hB : Bx W w.heap.size [.slice (some ⟨ba, off, none⟩) n0 b.k0, .slice b.A1 n1 b.k1, .slice b.A2 n2 b.k2, .int .i64 b.dy, .int .i64 b.la, .int .i64 b.tr] := by rw [hW]; exact bx_new w _ _
    have U : Up w W := by rw [hW]; exact (by repeat' (first | (with_reducible exact up_refl _) | (with_reducible assumption) | (with_reducible refine up_alloc ?_ _) | (with_reducible refine up_drewN ?_ _) | (with_reducible refine up_drew ?_) | (with_reducible refine up_set ?_ (by first | (simp; done) | (simp; omega) | omega) _) | (refine up_trans ?_ (by with_reducible assumption))))
    obtain ⟨d0, d1, d2, d3, d4, d5⟩ := bgc hB
    clear hW
    go_upto_region 3 with (go_at_call 20; (with_reducible refine (unhide HG _).mono ?_); rintro e w1 ⟨rfl, hu1⟩; obtain ⟨d0, d1, d2, d3, d4, d5⟩ := bgc (bx_up hB hu1))
    replace hB := bx_up hB hu1
    replace U := up_trans U hu1
    clear d0 d1 d2 d3 d4 d5 hu1 HG g1 g2
    obtain ⟨d0, d1, d2, d3, d4, d5⟩ := bgc hB
    go_upto_region 4 with (go_at_call 21; (with_reducible refine (unhide HW _ U).mono ?_); rintro e w2 ⟨rfl, hu2⟩)
    refine at_wpB (fun W3 hW3 => ?_)
    have hC : Bx W3 w2.heap.size [.int .i64 v, .int .i64 p1, .int .i64 p2, .int .i64 a] := by rw [hW3]; exact bx_new w2 _ _
    replace hB : Bx W3 w.heap.size [.slice (some ⟨ba, off, none⟩) n0 b.k0, .slice b.A1 n1 b.k1, .slice b.A2 n2 b.k2, .int .i64 b.dy, .int .i64 b.la, .int .i64 b.tr] := by rw [hW3]; exact bx_alloc (bx_up hB hu2) _
    replace U : Up w W3 := by rw [hW3]; exact up_alloc (up_trans U hu2) _
    clear hW3 d0 d1 d2 d3 d4 d5 hu2 HW
    obtain ⟨d0, d1, d2, d3, d4, d5⟩ := bgc hB
    go_upto_region 5 with (go_at_call 23; (with_reducible refine (unhide HV _ U).mono ?_); rintro e w4 ⟨rfl, hu4⟩)
    refine at_wpB (fun W5 hW5 => ?_)
    have hD : Bx W5 w4.heap.size [.int .i64 v', .int .i64 p5, .int .i64 p6, .int .i64 c] := by rw [hW5]; exact bx_new w4 _ _
    replace hC : Bx W5 w2.heap.size [.int .i64 v, .int .i64 p1, .int .i64 p2, .int .i64 a] := by rw [hW5]; exact bx_alloc (bx_up hC hu4) _
    replace hB : Bx W5 w.heap.size [.slice (some ⟨ba, off, none⟩) n0 b.k0, .slice b.A1 n1 b.k1, .slice b.A2 n2 b.k2, .int .i64 b.dy, .int .i64 b.la, .int .i64 b.tr] := by rw [hW5]; exact bx_alloc (bx_up hB hu4) _
    replace U : Up w W5 := by rw [hW5]; exact up_alloc (up_trans U hu4) _
    clear hW5 d0 d1 d2 d3 d4 d5 hu4 HV
    obtain ⟨d0, d1, d2, d3, d4, d5⟩ := bgc hB
    by_cases hE : E = 0
    · by_cases hE' : E' = 0
      · obtain ⟨len', v2, v2', a2, a2', c2, c2', r1, r2, r3, r4, r5, r6, r7, r8, F0, Fx, Fl, F1, F2, F3, F4, F5, F6⟩ := unhide HMi hE hE'
        obtain ⟨hTr, hX⟩ := unhide HTok hE
        subst hE hE'
        simp only [Value.agg.injEq, Array.mk.injEq, List.cons.injEq, Value.int.injEq, true_and, and_true] at F1 F4
        obtain ⟨rfl, -, -, -⟩ := F1
        obtain ⟨rfl, -, -, -⟩ := F4
        have hlb : 0 ≤ last ∧ last ≤ 262144 := by
          have t := unhide HLa
          have hlt : ts.length - 1 < ts.length := by rw [unhide HN]; omega
          rw [List.getElem?_eq_getElem hlt] at t
          have e : (ts[ts.length - 1]).1 = last := by simpa using t
          have := (hTr.2 _ hlt).1
          omega
        have hxl : len' = len := by rw [unhide HL0] at F0; exact (Option.some.inj F0).symm
        subst hxl
        have HTr := hide hTr
        have HB := hide hB
        have HC := hide hC
        have HD := hide hD
        have HU := hide U
        have w9 : IntKind.i64.wrap ((m : Int) - 1) = (m : Int) - 1 := IntWalk.i64_in _ ⟨by omega, by omega⟩
        have x0 : (0 : Int) ≤ (m : Int) - 1 := by omega
        have x1 : (m : Int) - 1 < (m : Int) := by omega
        have x2 : ((m : Int) - 1).toNat = m - 1 := by omega
        have cl := up_cell U hcl
        clear hTr hX HMi HTok F0 hcl hB hC hD U
        go_upto_region 10 with fail
        clear d0 d1 d2 d3 d4 d5 cl
        obtain ⟨i0, hj9, hz0, hz1, hz2⟩ := info_parts info_frc
        have HI := hide hj9
        clear hj9
        have HTs := hide (fun q (h : q < ts.length) => (⟨(unhide HTr).2 q h, up_cell (unhide HU) (unhide HcT q h).1, up_cell (unhide HU) (unhide HcT q h).2, revT_step last ts h⟩ : _ ∧ _ ∧ _ ∧ _))
        go_loopw [11, 13] (fun s11 s13 wr => ∃ r : Nat, r ≤ m ∧ s13 = .int .i64 ((r : Int) - 1) ∧ wr.ownsRow W5.heap.size 58 2 s11 (m - r) (cellsF ((revT last ts).take (m - r))) ∧ Up W5 wr) (fun _ s13 _ => (intOf s13 + 1).toNat)
        case atStart => exact ⟨m, by omega, rfl, by rw [Nat.sub_self, List.take_zero]; exact World.ownsRow_nil _ _ _ _, up_refl _⟩
        case round =>
          obtain ⟨r, hr, rfl, hown, hu⟩ := hrel
          by_cases hlt : 0 < r
          · obtain ⟨q, rfl⟩ : ∃ q, r = q + 1 := ⟨r - 1, by omega⟩
            have eq : ((q + 1 : Nat) : Int) - 1 = (q : Int) := by omega
            rw [eq]
            have hl : q < ts.length := by rw [unhide HN]; omega
            obtain ⟨⟨bx, bp⟩, k0, k1, ht⟩ := unhide HTs q hl
            rw [unhide HN] at ht
            have hmq : m - q = m - (q + 1) + 1 := by omega
            obtain ⟨j, hj⟩ : ∃ j, m - (q + 1) = j := ⟨_, rfl⟩
            rw [hj] at ht hmq hown
            obtain ⟨X, hX⟩ : ∃ X, ts[q].1 = X := ⟨_, rfl⟩
            obtain ⟨P, hP⟩ : ∃ X, ts[q].2 = X := ⟨_, rfl⟩
            rw [hX] at k0 ht bx
            rw [hP] at k1 ht bp
            have d0 := up_cell hu k0
            have d1 := up_cell hu k1
            have HT := hide ht
            have HO := hide hown
            have HU5 := hide hu
            have HMQ := hide hmq
            have w1 : IntKind.i64.wrap (last - X) = last - X := IntWalk.i64_in _ ⟨by omega, by omega⟩
            have w2 : IntKind.i64.wrap ((q : Int) - 1) = (q : Int) - 1 := IntWalk.i64_in _ ⟨by omega, by omega⟩
            have j0 : (0 : Int) ≤ (q : Int) := by omega
            have j1 : (q : Int) < (m : Int) := by omega
            have j2 : (q : Int).toNat = q := by omega
            have j3 : decide ((q : Int) ≥ 0) = true := decide_eq_true j0
            have jm : j ≤ 70 := by omega
            clear ht hown hu hmq k0 k1 hX hP hl bx bp hj eq w9 x0 x1 x2
            go_upto_region 12 with fail
            go_region_law (refine step_append_mineF _ rfl (.tmp 65) (.tmp 79) 30 rfl W5.heap.size 58 i0 _ 2 16 Try.underlying30 (unhide HI) hz0 hz1 hz2 rfl (Nat.zero_lt_succ _) _ j (cellsF ((revT last ts).take j)) rfl ((unhide HO).alloc _) ⟨wr.heap.size, 0, none⟩ 1 1 [.int .i64 (last - X), .int .i64 P] rfl rfl (two_newF _ _ _ _) (by intro u hu; simp at hu; rcases hu with rfl | rfl <;> rfl) (by unfold maxLen; omega) (by omega) (by have := (unhide HU5).size; simp; omega) ?_; intro v' w1 hown' hgrow)
            all_goals
              have R := frc_rel (unhide HT) (Nat.le_refl _) (by have := (unhide HU5).size; simp; omega) (unhide HO) (Below.drew (Below.alloc (unhide HU5) (unhide HU5).size _)) hown' hgrow
              rw [← unhide HMQ] at R
              have R1 := hide R.1
              have R2 := hide R.2
              clear R hown' hgrow
              go_wp2_with fail
              go_roundw
              case rel => exact ⟨q, by omega, by first | rfl | trivial | go_num, unhide R1, unhide R2⟩
              case measure => first | (simp [intOf]; done) | (simp [intOf]; omega)
          · obtain rfl : r = 0 := by omega
            obtain ⟨g, cq, rfl, hbg⟩ := own_someF hown (by omega)
            have hus : (revT last ts).take (m - 0) = revT last ts := List.take_of_length_le (by rw [revT_len, unhide HN]; omega)
            rw [hus, Nat.sub_zero] at hown
            have hF9 := bx_cellsF hown
            have hN9 : (revT last ts).length = m := by rw [revT_len]; exact unhide HN
            rw [Nat.sub_zero]
            obtain ⟨us, hus2⟩ : ∃ us, revT last ts = us := ⟨_, rfl⟩
            rw [hus2] at F2 F3 F5 F6 hF9 hN9
            have hw2 := unhide HW2 us (len' - x) g cq
            have hv2 := unhide HV2 us g cq
            rw [F2, F3] at hw2
            rw [F5, F6] at hv2
            have HW3 := hide (fun W (hU : Up w W) (hg : Frs W (some ⟨g, 0, none⟩) us) => hw2 W hU hN9 hg)
            have HV3 := hide (fun W (hU : Up w W) (hg : Frs W (some ⟨g, 0, none⟩) us) => hv2 W hU hN9 hg)
            obtain ⟨wc, rfl⟩ : ∃ wc, wc = wr := ⟨_, rfl⟩
            have hB := bx_up (unhide HB) hu
            have hC := bx_up (unhide HC) hu
            have hD := bx_up (unhide HD) hu
            have U := up_trans (unhide HU) hu
            have cb := up_cell U hc0
            have y1 : IntKind.i64.wrap (len' - x) = len' - x := IntWalk.i64_in _ ⟨by omega, by omega⟩
            clear hown hus hus2 F2 F3 F5 F6 hw2 hv2 HW2 HV2 HB HC HD HU HTs HTr HLa HS HcT hN9 hc0
            go_upto_region 13 with fail
            rw [Nat.add_zero] at cb
            obtain ⟨yy, hyy⟩ : ∃ yy, len' - x = yy := ⟨_, rfl⟩
            rw [hyy] at y1 HW3
            have HK := hide (fun wx (hW : Up wc wx) => (⟨up_cell hW (bgc hB).1, up_cell hW (bgc hB).2.1, up_cell hW (bgc hB).2.2.1, up_cell hW (bgc hB).2.2.2.1, up_cell hW (bgc hB).2.2.2.2.1, up_cell hW (bgc hB).2.2.2.2.2, up_cell hW cb, hW⟩ : wx.cell? ⟨w.heap.size, 0, none⟩ = some (.slice (some ⟨ba, off, none⟩) n0 b.k0) ∧ wx.cell? ⟨w.heap.size, 1, none⟩ = some (.slice b.A1 n1 b.k1) ∧ wx.cell? ⟨w.heap.size, 2, none⟩ = some (.slice b.A2 n2 b.k2) ∧ wx.cell? ⟨w.heap.size, 3, none⟩ = some (.int .i64 b.dy) ∧ wx.cell? ⟨w.heap.size, 4, none⟩ = some (.int .i64 b.la) ∧ wx.cell? ⟨w.heap.size, 5, none⟩ = some (.int .i64 b.tr) ∧ wx.cell? ⟨ba, off, none⟩ = some (.int .i64 len') ∧ Up wc wx))
            have HW4 := hide (fun W (hU : Up wc W) => (unhide HW3 W (up_trans U hU) (frs_cellsF (bx_up hF9 hU))).mono (fun e w' ⟨he, hw⟩ => (⟨he, hw, up_trans hU hw⟩ : _ ∧ Up W w' ∧ Up wc w')))
            have q0 : Hid (0 < n0) := hide hn0
            have q1 : (0 : Int) < (n0 : Int) := by omega
            go_cut [8, 14] (fun s8 s14 wx => ∃ g14 : Nat, s8 = .int .i64 0 ∧ s14 = .pointer (some ⟨g14, 0, none⟩) ∧ Bx wx g14 [.int .i64 v, .int .i64 r3, .int .i64 r4, .int .i64 a2'] ∧ Up wc wx)
            case first =>
              have hBc := bgc hB
              obtain ⟨d0, d1, d2, d3, d4, d5⟩ := hBc
              clear HW3 HV3 hF9 hB hC hD
              go_region_held3 (fun wx => wx.cell? ⟨w.heap.size, 0, none⟩ = some (.slice (some ⟨ba, off, none⟩) n0 b.k0) ∧ wx.cell? ⟨w.heap.size, 1, none⟩ = some (.slice b.A1 n1 b.k1) ∧ wx.cell? ⟨w.heap.size, 2, none⟩ = some (.slice b.A2 n2 b.k2) ∧ wx.cell? ⟨w.heap.size, 3, none⟩ = some (.int .i64 b.dy) ∧ wx.cell? ⟨w.heap.size, 4, none⟩ = some (.int .i64 b.la) ∧ wx.cell? ⟨w.heap.size, 5, none⟩ = some (.int .i64 b.tr) ∧ wx.cell? ⟨ba, off, none⟩ = some (.int .i64 len') ∧ Up wc wx) ((go_split_ands; exact unhide HK _ (by repeat' (first | (with_reducible exact up_refl _) | (with_reducible assumption) | (with_reducible refine up_alloc ?_ _) | (with_reducible refine up_drewN ?_ _) | (with_reducible refine up_drew ?_) | (with_reducible refine up_set ?_ (by first | (simp; done) | (simp; omega) | omega) _) | (refine up_trans ?_ (by with_reducible assumption))))))
                (first
                  | (go_at_call 21; (with_reducible refine (unhide HW4 _ (by go_split_ands; exact (by repeat' (first | (with_reducible exact up_refl _) | (with_reducible assumption) | (with_reducible refine up_alloc ?_ _) | (with_reducible refine up_drewN ?_ _) | (with_reducible refine up_drew ?_) | (with_reducible refine up_set ?_ (by first | (simp; done) | (simp; omega) | omega) _) | (refine up_trans ?_ (by with_reducible assumption)))))).mono ?_); rintro e w2 ⟨rfl, hb2, hb2'⟩; have zm := bx_up (bx_new _ [.int .i64 0, .int .i64 0, .int .i64 0, .int .i64 0] 47) hb2; obtain ⟨⟨z0, y0⟩, ⟨z1, y1⟩, ⟨z2, y2⟩, ⟨z3, y3⟩⟩ := bx4 zm)
                  | (go_at_call 21; (with_reducible refine (unhide HW4 _ (by go_split_ands; exact (by repeat' (first | (with_reducible exact up_refl _) | (with_reducible assumption) | (with_reducible refine up_alloc ?_ _) | (with_reducible refine up_drewN ?_ _) | (with_reducible refine up_drew ?_) | (with_reducible refine up_set ?_ (by first | (simp; done) | (simp; omega) | omega) _) | (refine up_trans ?_ (by with_reducible assumption)))))).mono ?_); rintro e w2 ⟨rfl, hb2, hb2'⟩; have zm := bx_up (bx_drewM (bx_new _ [.int .i64 0, .int .i64 0, .int .i64 0, .int .i64 0] 47)) hb2; obtain ⟨⟨z0, y0⟩, ⟨z1, y1⟩, ⟨z2, y2⟩, ⟨z3, y3⟩⟩ := bx4 zm)
                  | (go_at_call 21; (with_reducible refine (unhide HW4 _ (by go_split_ands; exact (by repeat' (first | (with_reducible exact up_refl _) | (with_reducible assumption) | (with_reducible refine up_alloc ?_ _) | (with_reducible refine up_drewN ?_ _) | (with_reducible refine up_drew ?_) | (with_reducible refine up_set ?_ (by first | (simp; done) | (simp; omega) | omega) _) | (refine up_trans ?_ (by with_reducible assumption)))))).mono ?_); rintro e w2 ⟨rfl, hb2, hb2'⟩))
              · go_wp2_with fail
                go_meet
                exact ⟨w2.heap.size, rfl, rfl, bx_new w2 _ _, up_alloc hb2' _⟩
              · go_wp2_with fail
                go_meet
                exact ⟨wc.heap.size, rfl, rfl, bx_set4 zm, up_set (up_set (up_set (up_set hb2' (Nat.le_refl _) _) (Nat.le_refl _) _) (Nat.le_refl _) _) (Nat.le_refl _) _⟩
            case rest =>
            obtain ⟨g14, rfl, rfl, hG, hu13⟩ := hcut
            replace hF9 := bx_up hF9 hu13
            replace hB := bx_up hB hu13
            replace hC := bx_up hC hu13
            replace hD := bx_up hD hu13
            replace U := up_trans U hu13
            have HV4 := hide (unhide HV3 _ U (frs_cellsF hF9))
            clear hu13 HW3 HW4 HV3 HK y1 q0 q1 hF9 cb d0 d1 d2 d3 d4 d5
            obtain ⟨d0, d1, d2, d3, d4, d5⟩ := bgc hB
            go_upto_region 15 with (go_at_call 23; (with_reducible refine (unhide HV4).mono ?_); rintro e w14 ⟨rfl, hu14⟩)
            refine at_wpB (fun W15 hW15 => ?_)
            have z0 : W15.cell? ⟨w14.heap.size, 0, none⟩ = some (.int .i64 v') := by rw [hW15]; exact (bx_new w14 [.int .i64 v', .int .i64 r7, .int .i64 r8, .int .i64 c2'] _ 0 _ rfl).1
            have z1 : W15.cell? ⟨g14, 0, none⟩ = some (.int .i64 v) := by rw [hW15]; exact (bx_alloc (bx_up hG hu14) _ 0 _ rfl).1
            have z2 := (bx_alloc (bx_up hC hu14) (.cells #[.int .i64 v', .int .i64 r7, .int .i64 r8, .int .i64 c2'] 47) 0 _ rfl).1
            have z3 := (bx_alloc (bx_up hD hu14) (.cells #[.int .i64 v', .int .i64 r7, .int .i64 r8, .int .i64 c2'] 47) 0 _ rfl).1
            rw [← hW15] at z2 z3
            have U15 : Up w W15 := by rw [hW15]; exact up_alloc (up_trans U hu14) _
            have y2 : (v == v) = true := by simp
            have y3 : (v' == v') = true := by simp
            clear hW15 hB hC hD hG U hu14 HV4 d0 d1 d2 d3 d4 d5
            go_wp2_with (go_at_call 8; refine (l_known _).mono ?_; rintro e w16 ⟨rfl, hu16⟩)
            go_ret
            exact ⟨rfl, up_trans U15 hu16⟩
      · have e1 : (E' == 0) = false := by simp; exact hE'
        subst hE
        go_wp2_with (go_at_call 8; refine (l_known _).mono ?_; rintro e w6 ⟨rfl, hu6⟩)
        go_ret
        exact ⟨rfl, up_trans U hu6⟩
    · have e1 : (E == 0) = false := by simp; exact hE
      go_wp2_with (go_at_call 8; refine (l_known _).mono ?_; rintro e w6 ⟨rfl, hu6⟩)
      go_ret
      exact ⟨rfl, up_trans U hu6⟩
end Go.Proofs.Ytdignnmhiifpgaa
