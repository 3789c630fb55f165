/- BridgeAdds: the law's function returns true. -/
import Derived.Test.YtdignnmhiifpgaaBrAd
import Derived.Test.YtdignnmhiifpgaaBrGr
import Derived.Test.YtdignnmhiifpgaaBrCF
import Derived.OwnWalk
import Derived.Deep.Cut
import Derived.Deep.DeepCutAuto
namespace Go.Proofs.Ytdignnmhiifpgaa
open Go.RowKit Go.Proofs.Gn
attribute [local go_sem] Oper.semAt_some
set_option linter.unusedVariables false
theorem bx_same7 {W W' : World} {b : Nat} {vs : List Value} (h : Bx W b vs) (e : W'.heap[b]? = W.heap[b]?) : Bx W' b vs := fun i v hi =>
  ⟨(World.cell?_of_block (a := ⟨b, i, none⟩) e).trans (h i v hi).1, by have t := (h i v hi).2; simp only [World.frozen?, e] at t ⊢; exact t⟩
set_option maxRecDepth 100000 in
set_option maxHeartbeats 40000000 in
theorem l_Adds (b : Brg) (A : Option Addr) (ts : List (Int × Int)) (cap : Nat) (s x p ax : Int) (w : World) (h : BgAt w b) (hn : b.sp.length ≤ 9223372036854775807 ∧ b.mo.length ≤ 9223372036854775807 ∧ b.sh.length ≤ 9223372036854775807) (hcap : b.sp.length ≤ b.k0) (hF : Frs w A ts) (hnt : ts.length ≤ 9223372036854775807) (hax : 0 ≤ ax ∧ ax ≤ 255) :
    Calls Try.prog 6 #[bgV b, .slice A ts.length cap, .int .i64 s, .int .i64 x, .int .i64 p, .int .u8 ax] w fun e w' => e = .returned (.bool true) ∧ Below w.heap.size w w' := by
  have HG := hide (fun W => l_great6 b A ts.length cap W)
  have HM := hide (fun W (hU : Up w W) => p_Moment b A ts cap s x p W (bgAt_up h hU) hn hcap (frs_up hF hU) hnt)
  have HL := hide (fun a W (hU : Up w W) => p_Line b s x a W (bgAt_up h hU) hn hcap)
  have HEl := hide (fun W (hU : Up w W) => p_End b A ts cap false s p W (bgAt_up h hU) hn hcap (frs_up hF hU) hnt)
  have HEr := hide (fun W (hU : Up w W) => p_End b A ts cap true s p W (bgAt_up h hU) hn hcap (frs_up hF hU) hnt)
  have HW := hide (fun W (hU : Up w W) => p_WorstMoment b A ts cap s x W (bgAt_up h hU) hn hcap (frs_up hF hU) hnt)
  have HW2 := hide (fun (us : List (Int × Int)) (g cq : Nat) W (hU : Up w W) (hl : us.length = ts.length) (hg : Frs W (some ⟨g, 0, none⟩) us) => (show Calls Try.prog 21 #[bgV b, .slice (some ⟨g, 0, none⟩) ts.length cq, .int .i64 s, .int .i64 x] W fun e w' => e = .returned (.tuple #[wmV b us s x, .int .i64 (wmE b us s x)]) ∧ Up W w' from by
    have t := p_WorstMoment b (some ⟨g, 0, none⟩) us cq s x W (bgAt_up h hU) hn hcap hg (by omega)
    rw [hl] at t
    exact t))
  cases hgr : grB b.sp.length b.mo.length b.sh.length ts.length with
  | true =>
    rw [hgr] at HG
    unfold bgV at HG ⊢
    obtain ⟨sp, mo, sh, A0, A1, A2, k0, k1, k2, dy, la, tr⟩ := b
    dsimp only at *
    generalize sp.length = n0 at *
    generalize mo.length = n1 at *
    generalize sh.length = n2 at *
    generalize ts.length = m at *
    clear HM HL HEl HEr HW HW2 h hn hcap hF hnt hgr
    go_enter Try.func6, Try.ntmps6
    go_wp2_with (first | (go_at_call 20; (with_reducible refine (unhide HG _).mono ?_); rintro e w1 ⟨rfl, hu1⟩) | (go_at_call 8; refine (l_known _).mono ?_; rintro e w2 ⟨rfl, hu2⟩))
    go_ret
    exact ⟨rfl, (by repeat' (first | (with_reducible exact up_refl _) | (with_reducible assumption) | (with_reducible refine up_alloc ?_ _) | (with_reducible refine up_drewN ?_ _) | (with_reducible refine up_drew ?_) | (with_reducible refine up_set ?_ (by first | (simp; done) | (simp; omega) | omega) _) | (refine up_trans ?_ (by with_reducible assumption))))⟩
  | false =>
  rw [hgr] at HG
  have hsm := grB_no hgr
  by_cases hE : moE b ts s x p = 0
  · obtain ⟨len, hA⟩ := ad_facts hE
    obtain ⟨sn, rfl⟩ : ∃ sn : Nat, s = (sn : Int) := ⟨s.toNat, by have := hA.s0; omega⟩
    have hs := hA.s0
    have hMo := hA.mo
    have hEl := hA.en false
    have hEr := hA.en true
    have hLi := hA.li
    have hle := hA.le
    have hm64 := hA.tr.1
    have hm1 := hA.t1
    have hn6 := hA.n
    have hlb := hA.l0
    have hpb := hA.p0
    have hob := hA.org
    simp only [Int.toNat_natCast] at hMo hEl hEr hle hob
    have hls : sn < b.sp.length := by omega
    have hle2 : b.sp[sn] = len := by rw [List.getElem?_eq_getElem hls] at hle; exact Option.some.inj hle
    have hO := fun k (h : k < b.sp.length) => (show beS b.sp (k + 1) = beS b.sp k + b.sp[k] by show beS b.sp k + b.sp.getD k 0 = _; rw [List.getD_eq_getElem?_getD, List.getElem?_eq_getElem h]; rfl)
    have hOb := beS_bd hA.sp
    have hvm : ∀ a, 0 ≤ (moLn sn x (beS b.sp sn) len 0 0).val a ∧ (moLn sn x (beS b.sp sn) len 0 0).val a ≤ 17179869184 := fun a => mo_bd a ⟨by omega, hlb.2⟩ hA.x0
    have hve : ∀ r a, 0 ≤ (enLn r sn (beS b.sp sn) len 0 0).val a ∧ (enLn r sn (beS b.sp sn) len 0 0).val a ≤ 17179869184 := fun r a => en_bd r a ⟨by omega, hlb.2⟩
    have hSum := ends_sum (s := sn) (org := beS b.sp sn) (len := len) (p := p) ts
    have hT := fun k (h : k < ts.length) => (⟨(hA.tr.2 k h).1, (hA.tr.2 k h).2, ef_take (moLn sn x (beS b.sp sn) len 0 0) p h, efT_bd2 hvm p (hA.tr.2 k h).2, onS_take len (beS b.sp sn) p h⟩ : _ ∧ _ ∧ _ ∧ _ ∧ _)
    have hT0 : ∀ t, efT (moLn sn x (beS b.sp sn) len 0 0) p t = t.2 * moL len x (p - t.1 - beS b.sp sn) := fun t => rfl
    simp only [hT0] at hT
    have hTb := fun k (h : k ≤ ts.length) => (⟨ef_bd2 hvm p hA.tr k h, onS_bd len (beS b.sp sn) p hA.tr k h⟩ : _ ∧ _)
    have hLb := ef_bd2 (hve false) p hA.tr ts.length (by omega)
    have hRb := ef_bd2 (hve true) p hA.tr ts.length (by omega)
    rw [List.take_length] at hLb hRb
    have hMore := fun k (hk : k < ts.length) y h1 h2 hc => ad_more hA hk (y := y) h1 h2 hc
    have hCt := fun k (hk : k < ts.length) y h0 h1 => ctE_set hA.t0 hk (y := y) h0 h1
    have hTs := fun k (hk : k < ts.length) => (hA.tr.2 k hk).2
    rw [hE, hMo] at HM
    rw [hA.ends, hEl] at HEl
    rw [hA.ends, hEr] at HEr
    rw [hA.worst] at HW
    have hall : ef (moLn sn x (beS b.sp sn) len 0 0) p (ts.take ts.length) = ef (moLn sn x (beS b.sp sn) len 0 0) p ts := by rw [List.take_length]
    have hall2 : onS len (beS b.sp sn) p (ts.take ts.length) = onS len (beS b.sp sn) p ts := by rw [List.take_length]
    obtain ⟨F, hF1⟩ : ∃ F, ef (moLn sn x (beS b.sp sn) len 0 0) p = F := ⟨_, rfl⟩
    have hF0 : F [] = 0 := by rw [← hF1]; rfl
    obtain ⟨G, hG1⟩ : ∃ F, onS len (beS b.sp sn) p = F := ⟨_, rfl⟩
    have hG0 : G [] = 0 := by rw [← hG1]; rfl
    obtain ⟨l, hl1⟩ : ∃ F, ef (enLn false sn (beS b.sp sn) len 0 0) p ts = F := ⟨_, rfl⟩
    obtain ⟨r, hr1⟩ : ∃ F, ef (enLn true sn (beS b.sp sn) len 0 0) p ts = F := ⟨_, rfl⟩
    rw [hF1] at HM hall
    rw [hl1] at HEl hSum hLb
    rw [hr1] at HEr hSum hRb
    simp only [hF1, hG1] at hT hTb
    rw [hG1] at hSum hall2
    obtain ⟨B, hB⟩ : ∃ B, beS b.sp = B := ⟨_, rfl⟩
    rw [hB] at hob hOb hT
    simp only [hB] at hO
    have hB0 : B 0 = 0 := by rw [← hB]; rfl
    obtain ⟨o, ho⟩ : ∃ o, B sn = o := ⟨_, rfl⟩
    rw [ho] at hob
    simp only [ho] at hT
    have HO := hide hO
    have HOb := hide hOb
    have HLi := hide hLi
    have HT := hide hT
    have HTb := hide hTb
    have HMore := hide hMore
    have HCt := hide hCt
    have HTs := hide hTs
    have HSum := hide hSum
    have Hall := hide hall
    have Hall2 := hide hall2
    have Hle2 := hide hle2
    have Hho := hide ho
    have HF := hide hF
    have Hh := hide h
    clear hO hOb hLi hT hTb hMore hCt hTs hSum hall hall2 hle2 hle hMo hEl hEr hvm hve hT0 hl1 hr1 hF1 hG1 hB hE ho hgr hF hA
    rcases (unhide Hh).s with hnil | ⟨ba, off, hA0, hcc⟩
    · rw [hnil] at hls; simp at hls
    have HS := hide hcc
    rcases unhide HF with hnil | ⟨bt, ot, hA1, hct⟩
    · rw [hnil] at hm1; simp at hm1
    subst hA1
    have HcT := hide hct
    unfold bgV at HG HM HEl HEr HL HW HW2 ⊢
    have Hh2 : Hid (∀ W, Up w W → BgAt W b) := hide (fun W u => bgAt_up (unhide Hh) u)
    rw [hA0] at HG HM HEl HEr HL HW HW2 ⊢
    obtain ⟨n0, hN0⟩ : ∃ n, b.sp.length = n := ⟨_, rfl⟩
    obtain ⟨n1, hN1⟩ : ∃ n, b.mo.length = n := ⟨_, rfl⟩
    obtain ⟨n2, hN2⟩ : ∃ n, b.sh.length = n := ⟨_, rfl⟩
    obtain ⟨m, hM⟩ : ∃ m, ts.length = m := ⟨_, rfl⟩
    have HN0 := hide hN0
    have HN := hide hM
    rw [hN0, hN1, hN2] at HG HM HEl HEr HL HW HW2 ⊢
    rw [hM] at HG HM HEl HEr HW HW2 ⊢
    rw [hN0] at hs hls hn6 hcap
    rw [hM] at hm64 hm1 hLb hRb
    clear h hn hnt hsm hN0 hN1 hN2 hM hcc hct hA0
    have hxs : (0 : Int) ≤ (sn : Int) := by omega
    have hd1 : decide ((sn : Int) < 0) = false := decide_eq_false (by omega)
    have hd2 : decide ((sn : Int) ≥ (n0 : Int)) = false := decide_eq_false (by omega)
    have hd3 : decide ((n0 : Int) ≤ (sn : Int)) = false := decide_eq_false (by omega)
    have hd4 : ((m : Int) == 0) = false := by simp; omega
    go_enter Try.func6, Try.ntmps6
    go_upto_region 1 with fail
    refine at_wpB (fun W hW => ?_)
    have hB : Bx W w.heap.size [.slice (some ⟨ba, off, none⟩) n0 b.k0, .slice b.A1 n1 b.k1, .slice b.A2 n2 b.k2, .int .i64 b.dy, .int .i64 b.la, .int .i64 b.tr] := by rw [hW]; exact bx_new w _ _
    have U : Up w W := by rw [hW]; exact (by repeat' (first | (with_reducible exact up_refl _) | (with_reducible assumption) | (with_reducible refine up_alloc ?_ _) | (with_reducible refine up_drewN ?_ _) | (with_reducible refine up_drew ?_) | (with_reducible refine up_set ?_ (by first | (simp; done) | (simp; omega) | omega) _) | (refine up_trans ?_ (by with_reducible assumption))))
    obtain ⟨d0, d1, d2, d3, d4, d5⟩ := bgc hB
    clear hW
    go_upto_region 3 with (go_at_call 20; (with_reducible refine (unhide HG _).mono ?_); rintro e w1 ⟨rfl, hu1⟩)
    replace hB := bx_up hB hu1
    replace U := up_trans U hu1
    clear d0 d1 d2 d3 d4 d5 hu1 HG
    obtain ⟨d0, d1, d2, d3, d4, d5⟩ := bgc hB
    go_upto_region 4 with (go_at_call 22; (with_reducible refine (unhide HM _ U).mono ?_); rintro e w2 ⟨rfl, hu2⟩)
    replace hB := bx_up hB hu2
    replace U := up_trans U hu2
    clear d0 d1 d2 d3 d4 d5 hu2 HM
    obtain ⟨d0, d1, d2, d3, d4, d5⟩ := bgc hB
    go_upto_region 5 with (go_at_call 24; (with_reducible refine (unhide HEl _ U).mono ?_); rintro e w3 ⟨rfl, hu3⟩)
    replace hB := bx_up hB hu3
    replace U := up_trans U hu3
    clear d0 d1 d2 d3 d4 d5 hu3 HEl
    obtain ⟨d0, d1, d2, d3, d4, d5⟩ := bgc hB
    go_upto_region 6 with (go_at_call 24; (with_reducible refine (unhide HEr _ U).mono ?_); rintro e w4 ⟨rfl, hu4⟩)
    replace hB := bx_up hB hu4
    replace U := up_trans U hu4
    clear d0 d1 d2 d3 d4 d5 hu4 HEr
    obtain ⟨d0, d1, d2, d3, d4, d5⟩ := bgc hB
    go_upto_region 12 with fail
    obtain ⟨wo, rfl⟩ : ∃ wo, wo = w4 := ⟨_, rfl⟩
    have HcS := hide (fun k (h : k < b.sp.length) => up_cell U (unhide HS k h))
    go_loopw [19, 20] (fun s19 s20 wr => ∃ k : Nat, k ≤ sn ∧ s20 = .int .i64 k ∧ s19 = .int .i64 (B k) ∧ wr = wo) (fun _ s20 _ => sn - (intOf s20).toNat)
    case atStart => exact ⟨0, by omega, rfl, by rw [hB0], rfl⟩
    case round =>
      obtain ⟨k, hk, rfl, rfl, rfl⟩ := hrel
      by_cases hlt : k < sn
      · have hl : k < b.sp.length := by rw [unhide HN0]; omega
        have c0 := unhide HcS k hl
        have hst := unhide HO k hl
        have hb1 := unhide HOb k
        have hb2 := unhide HOb (k + 1)
        obtain ⟨v, hv⟩ : ∃ v, b.sp[k] = v := ⟨_, rfl⟩
        rw [hv] at c0 hst
        obtain ⟨g, hg⟩ : ∃ g, B k = g := ⟨_, rfl⟩
        rw [hg] at hst hb1 ⊢
        have HST := hide hst
        have w1 : IntKind.i64.wrap (g + v) = g + v := IntWalk.i64_in _ ⟨by omega, by omega⟩
        have hwk : IntKind.i64.wrap ((k : Int) + 1) = (k : Int) + 1 := IntWalk.i64_in _ ⟨by omega, by omega⟩
        have j0 : (0 : Int) ≤ (k : Int) := by omega
        have j1 : (k : Int) < (sn : Int) := by omega
        have j2 : (k : Int).toNat = k := by omega
        have j3 : (k : Int) < (n0 : Int) := by omega
        clear hst hb1 hb2 hv hg
        go_wp2_with fail
        go_roundw
        case rel => exact ⟨k + 1, by omega, by go_num, by rw [unhide HST], by first | rfl | trivial⟩
        case measure => simp [intOf]; omega
      · obtain rfl : k = sn := by omega
        rw [unhide Hho]
        clear HO HOb
        go_upto_region 17 with fail
        obtain ⟨w5, rfl⟩ : ∃ w5, w5 = wr := ⟨_, rfl⟩
        have HBo := hide hB
        have HUo := hide U
        have HcT5 := hide (fun j (h : j < ts.length) => (⟨up_cell U (unhide HcT j h).1, up_cell U (unhide HcT j h).2⟩ : _ ∧ _))
        have hc5 : w5.cell? ⟨ba, off + k, none⟩ = some (.int .i64 len) := by have t := unhide HcS k (by rw [unhide HN0]; exact hls); rw [unhide Hle2] at t; exact t
        clear hB U d0 d1 d2 d3 d4 d5 HcS
        go_loopw [21, 22, 23] (fun s21 s22 s23 wr => ∃ j : Nat, j ≤ m ∧ s23 = .int .i64 j ∧ s21 = .int .i64 (F (ts.take j)) ∧ s22 = .int .i64 (G (ts.take j)) ∧ Up w5 wr) (fun _ _ s23 _ => m - (intOf s23).toNat)
        case atStart => exact ⟨0, by omega, rfl, by rw [List.take_zero, hF0], by rw [List.take_zero, hG0], up_refl _⟩
        case round =>
          obtain ⟨j, hj, rfl, rfl, rfl, hur⟩ := hrel
          by_cases hlt : j < m
          · have hl : j < ts.length := by rw [unhide HN]; exact hlt
            obtain ⟨hX, hP, hFs, hFb, hGs⟩ := unhide HT j hl
            obtain ⟨⟨s1, s2⟩, s3, s4⟩ := unhide HTb j (by omega)
            obtain ⟨k0, k1⟩ := unhide HcT5 j hl
            generalize ts[j].1 = X at *
            generalize ts[j].2 = P at *
            obtain ⟨dd, hdd⟩ : ∃ dd, p - X - o = dd := ⟨_, rfl⟩
            rw [hdd] at hFs hFb hGs
            have HFs := hide hFs
            have HGs := hide hGs
            obtain ⟨f, hf⟩ : ∃ f, F (ts.take j) = f := ⟨_, rfl⟩
            obtain ⟨g, hg⟩ : ∃ f, G (ts.take j) = f := ⟨_, rfl⟩
            rw [hf] at s1 s2 HFs ⊢
            rw [hg] at s3 s4 HGs ⊢
            have HLq := hide (fun W (hU : Up wr W) => unhide HL dd W (up_trans (unhide HUo) (up_trans hur hU)))
            have hli := unhide HLi dd
            obtain ⟨lv, hlv⟩ : ∃ v, liV b k x dd = v := ⟨_, rfl⟩
            obtain ⟨le, hle⟩ : ∃ v, liE b k x dd = v := ⟨_, rfl⟩
            obtain ⟨mv, hmv⟩ : ∃ v, moL len x dd = v := ⟨_, rfl⟩
            rw [hlv, hle] at HLq hli
            rw [hmv] at hli HFs hFb
            have q1 : IntKind.i64.wrap (p - X) = p - X := IntWalk.i64_in _ ⟨by omega, by omega⟩
            have q2 : IntKind.i64.wrap (p - X - o) = dd := (IntWalk.i64_in _ ⟨by omega, by omega⟩).trans hdd
            have q3 : IntKind.i64.wrap (P * mv) = P * mv := IntWalk.i64_in _ ⟨by omega, by omega⟩
            have q4 : IntKind.i64.wrap (f + P * mv) = f + P * mv := IntWalk.i64_in _ ⟨by omega, by omega⟩
            have q5 : IntKind.i64.wrap (g + P) = g + P := IntWalk.i64_in _ ⟨by omega, by omega⟩
            have hwk : IntKind.i64.wrap ((j : Int) + 1) = (j : Int) + 1 := IntWalk.i64_in _ ⟨by omega, by omega⟩
            have i0 : (0 : Int) ≤ (j : Int) := by omega
            have i1 : (j : Int) < (m : Int) := by omega
            have i2 : (k : Int) < (n0 : Int) := by omega
            have i3 : (k : Int).toNat = k := by omega
            have Bq := bx_up (unhide HBo) hur
            have n0q : ∀ q : UpW wr, q.v.cell? ⟨w.heap.size, 0, none⟩ = some (.slice (some ⟨ba, off, none⟩) n0 b.k0) := fun q => (bx_up Bq q.up 0 _ rfl).1
            have n1q : ∀ q : UpW wr, q.v.cell? ⟨w.heap.size, 1, none⟩ = some (.slice b.A1 n1 b.k1) := fun q => (bx_up Bq q.up 1 _ rfl).1
            have n2q : ∀ q : UpW wr, q.v.cell? ⟨w.heap.size, 2, none⟩ = some (.slice b.A2 n2 b.k2) := fun q => (bx_up Bq q.up 2 _ rfl).1
            have n3q : ∀ q : UpW wr, q.v.cell? ⟨w.heap.size, 3, none⟩ = some (.int .i64 b.dy) := fun q => (bx_up Bq q.up 3 _ rfl).1
            have n4q : ∀ q : UpW wr, q.v.cell? ⟨w.heap.size, 4, none⟩ = some (.int .i64 b.la) := fun q => (bx_up Bq q.up 4 _ rfl).1
            have n5q : ∀ q : UpW wr, q.v.cell? ⟨w.heap.size, 5, none⟩ = some (.int .i64 b.tr) := fun q => (bx_up Bq q.up 5 _ rfl).1
            have k0q : ∀ q : UpW wr, q.v.cell? ⟨bt, ot + j * 2, none⟩ = some (.int .i64 X) := fun q => up_cell (up_trans hur q.up) k0
            have k1q : ∀ q : UpW wr, q.v.cell? ⟨bt, ot + j * 2 + 1, none⟩ = some (.int .i64 P) := fun q => up_cell (up_trans hur q.up) k1
            have lq : ∀ q : UpW wr, q.v.cell? ⟨ba, off + k, none⟩ = some (.int .i64 len) := fun q => up_cell (up_trans hur q.up) hc5
            clear hFs hGs hf hg hlv hle hmv hdd k0 k1 s1 s2 s3 s4 hFb Bq HLi
            go_upto_region 19 with fail
            refine wp_upq (by kernel_rfl) (by kernel_rfl) ?_; (repeat (go_big_quiet_step (exact upq (unhide HLq _ (UpW.up _))))); refine wpQuiet_nil ?_; intro _ hw'; obtain ⟨pq, hw''⟩ := hw'; subst hw''; have hpq := pq.up
            have hu6 := up_trans hur hpq
            have d0 := n0q pq
            have c0 := k0q pq
            have c1 := k1q pq
            have c2 := lq pq
            clear n0q n1q n2q n3q n4q n5q k0q k1q lq HLq
            rcases hli with ⟨rfl, rfl⟩ | ⟨rfl, rfl, rfl⟩
            · by_cases h1 : 0 ≤ dd
              · by_cases h2 : dd ≤ len
                · have g1 : decide (dd ≥ 0) = true := decide_eq_true h1
                  have g2 : decide (dd ≤ len) = true := decide_eq_true h2
                  go_wp2_with fail
                  go_roundw
                  case rel => exact ⟨j + 1, by omega, by go_num, by rw [unhide HFs], by rw [unhide HGs]; rw [if_pos ⟨h1, h2⟩], hu6⟩
                  case measure => simp [intOf]; omega
                · have g1 : decide (dd ≥ 0) = true := decide_eq_true h1
                  have g2 : decide (dd ≤ len) = false := decide_eq_false h2
                  go_wp2_with fail
                  go_roundw
                  case rel => exact ⟨j + 1, by omega, by go_num, by rw [unhide HFs], by rw [unhide HGs]; rw [if_neg (by omega)]; simp, hu6⟩
                  case measure => simp [intOf]; omega
              · have g1 : decide (dd ≥ 0) = false := decide_eq_false (by omega)
                have g2 : decide (0 ≤ dd) = false := decide_eq_false (by omega)
                go_wp2_with fail
                go_roundw
                case rel => exact ⟨j + 1, by omega, by go_num, by rw [unhide HFs], by rw [unhide HGs]; rw [if_neg (by omega)]; simp, hu6⟩
                case measure => simp [intOf]; omega
            · by_cases h1 : 0 ≤ dd
              · by_cases h2 : dd ≤ len
                · have g1 : decide (dd ≥ 0) = true := decide_eq_true h1
                  have g2 : decide (dd ≤ len) = true := decide_eq_true h2
                  go_wp2_with fail
                  go_roundw
                  case rel => exact ⟨j + 1, by omega, by go_num, by rw [unhide HFs]; simp, by rw [unhide HGs]; rw [if_pos ⟨h1, h2⟩], hu6⟩
                  case measure => simp [intOf]; omega
                · have g1 : decide (dd ≥ 0) = true := decide_eq_true h1
                  have g2 : decide (dd ≤ len) = false := decide_eq_false h2
                  go_wp2_with fail
                  go_roundw
                  case rel => exact ⟨j + 1, by omega, by go_num, by rw [unhide HFs]; simp, by rw [unhide HGs]; rw [if_neg (by omega)]; simp, hu6⟩
                  case measure => simp [intOf]; omega
              · have g1 : decide (dd ≥ 0) = false := decide_eq_false (by omega)
                have g2 : decide (0 ≤ dd) = false := decide_eq_false (by omega)
                go_wp2_with fail
                go_roundw
                case rel => exact ⟨j + 1, by omega, by go_num, by rw [unhide HFs]; simp, by rw [unhide HGs]; rw [if_neg (by omega)]; simp, hu6⟩
                case measure => simp [intOf]; omega
          · have hjm : m = j := by omega
            subst hjm
            have e1 : F (ts.take m) = F ts := by rw [← unhide HN]; exact unhide Hall
            have e2 : G (ts.take m) = G ts := by rw [← unhide HN]; exact unhide Hall2
            have hGb := (unhide HTb m (by rw [unhide HN]; exact Nat.le_refl _)).2
            rw [e2] at hGb
            rw [e1, e2]
            have hsum := unhide HSum
            obtain ⟨V, hV⟩ : ∃ V, F ts = V := ⟨_, rfl⟩
            obtain ⟨on, hon⟩ : ∃ V, G ts = V := ⟨_, rfl⟩
            rw [hon] at hsum hGb
            rw [hV, hon]
            obtain ⟨T, hT⟩ : ∃ T, on * len = T := ⟨_, rfl⟩
            rw [hT] at hsum
            have q1 : IntKind.i64.wrap (l + r) = T := (IntWalk.i64_in _ ⟨by omega, by omega⟩).trans hsum
            have q2 : IntKind.i64.wrap (on * len) = T := by rw [hT]; exact IntWalk.i64_in _ ⟨by omega, by omega⟩
            have q3 : (V != V) = false := by simp
            have q4 : (T != T) = false := by simp
            have i0 : (0 : Int) ≤ (k : Int) := by omega
            have i2 : (k : Int) < (n0 : Int) := by omega
            have i3 : (k : Int).toNat = k := by omega
            obtain ⟨wc, rfl⟩ : ∃ wc, wc = wr := ⟨_, rfl⟩
            have hB := bx_up (unhide HBo) hur
            have U := up_trans (unhide HUo) hur
            obtain ⟨d0, d1, d2, d3, d4, d5⟩ := bgc hB
            have c2 := up_cell hur hc5
            have c3 := fun o => alloc_cell o c2
            clear e1 e2 hsum hV hon hT hGb HT HTb HSum Hall Hall2 HLi HL
            go_upto_region 27 with fail
            clear q1 q2 q3 q4
            obtain ⟨i1', hj9, hy0, hy1, hy2⟩ := info_parts info_frc
            have HJ := hide hj9
            have hlF : (cellsF ts).length = m * 2 := by rw [cellsF_length, unhide HN]
            have hnw : ∀ j u, (cellsF ts)[j]? = some u → (wc.alloc (.cells #[] 58)).cell? ((⟨bt, ot, none⟩ : Addr).add j) = some u := cellsF_news fun j hj => ⟨up_cell (up_alloc U _) (unhide HcT j hj).1, up_cell (up_alloc U _) (unhide HcT j hj).2⟩
            have HNW := hide hnw
            clear hnw hj9
            go_upto_region 28 with (at_builtin; refine wpList_append_own _ rfl _ _ 30 rfl wc.heap.size 58 i1' _ 2 16 Try.underlying30 (unhide HJ) hy0 hy1 hy2 rfl (by decide) (.slice (some ⟨wc.heap.size, 0, none⟩) 0 0) 0 [] rfl (World.ownsRow_made wc #[] 0 (Nat.le_refl _) (by unfold maxLen; omega) rfl) ⟨bt, ot, none⟩ m cap (cellsF ts) rfl hlF (unhide HNW) (cellsF_one ts) (by unfold maxLen; omega) (by omega) (by simp) ?_; intro vq W2 hown hgrow _)
            simp only [Nat.zero_add, List.nil_append] at hown
            rcases hown.2 with ⟨_, hz⟩ | ⟨g, cq, cur, rfl, hbg, hgg, _⟩
            · omega
            have hBx := hide (bx_cellsF hown)
            have hB2 : Bx W2 w.heap.size [.slice (some ⟨ba, off, none⟩) n0 b.k0, .slice b.A1 n1 b.k1, .slice b.A2 n2 b.k2, .int .i64 b.dy, .int .i64 b.la, .int .i64 b.tr] := bx_same7 (bx_alloc hB _) (hgrow.block _ (by have := bx_lt hB (by simp); simp; omega) (by have := bx_lt hB (by simp); intro e; simp [Value.ownBlock] at e; omega))
            have U2 : Up w W2 := (up_alloc U _).grown hgrow (up_alloc U _).size (by intro j hj; simp [Value.ownBlock] at hj; subst hj; exact U.size)
            have hgw : w.heap.size < g := by have t1 := bx_lt hB (by simp); omega
            clear hown hgg hgrow hbg hB U HNW hlF HJ d0 d1 d2 d3 d4 d5 c2 c3
            obtain ⟨q, hq, hmod⟩ : ∃ q : Nat, q < m ∧ ax % (m : Int) = (q : Int) := by
              have t1 := Int.emod_nonneg ax (b := (m : Int)) (by omega)
              have t2 := Int.emod_lt_of_pos ax (b := (m : Int)) (by omega)
              exact ⟨(ax % (m : Int)).toNat, by omega, by omega⟩
            have hql : q < ts.length := by rw [unhide HN]; exact hq
            obtain ⟨at1, at2⟩ := cellsF_at hql
            obtain ⟨y, hy⟩ : ∃ y, ts[q].2 = y := ⟨_, rfl⟩
            have hyb := unhide HTs q hql
            rw [hy] at at2 hyb
            have hY := hide hy
            obtain ⟨r1, r2⟩ := unhide hBx _ _ at2
            have r1' : W2.cell? ⟨g, 0 + q * 2 + 1, none⟩ = some (.int .i64 y) := by rw [Nat.zero_add]; exact r1
            have r2' : W2.frozen? ⟨g, 0 + q * 2 + 1, none⟩ = false := by rw [Nat.zero_add]; exact r2
            have z1 : IntKind.i64.wrap ax = ax := IntWalk.i64_in _ ⟨by omega, by omega⟩
            have z2 : IntKind.i64.wrap (ax.tmod (m : Int)) = (q : Int) := by rw [Int.tmod_eq_emod_of_nonneg hax.1, hmod]; exact IntWalk.i64_in _ ⟨by omega, by omega⟩
            have z8 : ax.tmod (m : Int) = (q : Int) := by rw [Int.tmod_eq_emod_of_nonneg hax.1, hmod]
            have z9 : IntKind.i64.wrap (q : Int) = (q : Int) := IntWalk.i64_in _ ⟨by omega, by omega⟩
            have z3 : IntKind.i64.wrap (y + ax) = y + ax := IntWalk.i64_in _ ⟨by omega, by omega⟩
            have z3b : IntKind.i64.wrap (y + ax + 1) = y + ax + 1 := IntWalk.i64_in _ ⟨by omega, by omega⟩
            have z4 : (0 : Int) ≤ (q : Int) := by omega
            have z5 : (q : Int) < (m : Int) := by omega
            have z6 : (q : Int).toNat = q := by omega
            have z7 : (m : Int) ≠ 0 := by omega
            clear hy at1 at2
            go_upto_region 29 with fail
            have hB2' := hide hB2
            have hU2' := hide U2
            clear hB2 U2
            go_cut [12] (fun s wx => s = .bool false ∧ ∃ z : Int, y ≤ z ∧ z ≤ 1048576 ∧ Bx wx g ((cellsF ts).set (q * 2 + 1) (.int .i64 z)) ∧ Bx wx w.heap.size [.slice (some ⟨ba, off, none⟩) n0 b.k0, .slice b.A1 n1 b.k1, .slice b.A2 n2 b.k2, .int .i64 b.dy, .int .i64 b.la, .int .i64 b.tr] ∧ Up w wx)
            case first => as_aux_lemma =>
              clear HMore HCt HTs HW HW2 HF Hh Hh2 HS HcT HcT5 HBo HUo
              have fin : ∀ z : Int, y ≤ z → z ≤ 1048576 → (∃ z' : Int, y ≤ z' ∧ z' ≤ 1048576 ∧ Bx (W2.setCell ⟨g, q * 2 + 1, none⟩ (.int .i64 z)) g ((cellsF ts).set (q * 2 + 1) (.int .i64 z')) ∧ Bx (W2.setCell ⟨g, q * 2 + 1, none⟩ (.int .i64 z)) w.heap.size [.slice (some ⟨ba, off, none⟩) n0 b.k0, .slice b.A1 n1 b.k1, .slice b.A2 n2 b.k2, .int .i64 b.dy, .int .i64 b.la, .int .i64 b.tr] ∧ Up w (W2.setCell ⟨g, q * 2 + 1, none⟩ (.int .i64 z))) := fun z h1 h2 =>
                ⟨z, h1, h2, bx_set (unhide hBx) _ _, bx_far (unhide hB2') (p := ⟨g, q * 2 + 1, none⟩) (by simp only; omega) _, up_set (unhide hU2') (by simp only; omega) _⟩
              have hfin := hide fin
              clear fin hBx hB2' hU2'
              by_cases hlt2 : y + ax + 1 < 1048576
              · have hd : decide (1048576 < y + ax + 1) = false := decide_eq_false (by omega)
                go_wp2_with fail
                go_meet
                exact ⟨rfl, by have t := unhide hfin (y + ax + 1) (by omega) (by omega); simpa using t⟩
              · have hd : decide (y + ax + 1 < 1048576) = false := decide_eq_false hlt2
                go_wp2_with fail
                go_meet
                exact ⟨rfl, by have t := unhide hfin 1048576 (by omega) (by omega); simpa using t⟩
            case rest =>
            obtain ⟨rfl, z, hz1, hz2, hBs, hB, U⟩ := hcut
            rw [← cellsF_set hql z] at hBs
            have hw2 := unhide HW2 (ts.set q (ts[q].1, z)) g cq
            obtain ⟨v, a, v', a', m1, m2, m3, m4⟩ := unhide HMore q hql z (by rw [unhide hY]; exact hz1) hz2 (unhide HCt q hql z (by omega) hz2)
            rw [m1] at HW
            rw [m2, m3] at hw2
            have HW2b := hide (fun W (hU : Up w W) (hg : Frs W (some ⟨g, 0, none⟩) (ts.set q (ts[q].1, z))) => hw2 W hU (by rw [List.length_set]; exact unhide HN) hg)
            have HBs := hide hBs
            obtain ⟨d0, d1, d2, d3, d4, d5⟩ := bgc hB
            clear m1 m2 m3 hw2 HMore HCt HTs HW2 hBs hBx hB2' hU2' r1 r2 r1' r2' HF Hh Hh2 HS HcT HcT5 HBo HUo z1 z2 z3 z3b z4 z5 z6 z7 z8 z9
            go_upto_region 31 with (go_at_call 21; (with_reducible refine (unhide HW _ U).mono ?_); rintro e w6 ⟨rfl, hu6⟩)
            refine at_wpB (fun W7 hW7 => ?_)
            have hC7 : Bx W7 w6.heap.size [.int .i64 v, .int .i64 k, .int .i64 x, .int .i64 a] := by rw [hW7]; exact bx_new w6 _ _
            have hB7 : Bx W7 w.heap.size [.slice (some ⟨ba, off, none⟩) n0 b.k0, .slice b.A1 n1 b.k1, .slice b.A2 n2 b.k2, .int .i64 b.dy, .int .i64 b.la, .int .i64 b.tr] := by rw [hW7]; exact bx_alloc (bx_up hB hu6) _
            have hs7 : Bx W7 g (cellsF (ts.set q (ts[q].1, z))) := by rw [hW7]; exact bx_alloc (bx_up (unhide HBs) hu6) _
            have U7 : Up w W7 := by rw [hW7]; exact up_alloc (up_trans U hu6) _
            have HW3 := hide (unhide HW2b W7 U7 (frs_cellsF hs7))
            clear hW7 d0 d1 d2 d3 d4 d5 hB U hu6 HBs HW HW2b hs7
            obtain ⟨d0, d1, d2, d3, d4, d5⟩ := bgc hB7
            go_upto_region 32 with (go_at_call 21; (with_reducible refine (unhide HW3).mono ?_); rintro e w8 ⟨rfl, hu8⟩)
            refine at_wpB (fun W9 hW9 => ?_)
            have hC9 : Bx W9 w8.heap.size [.int .i64 v', .int .i64 k, .int .i64 x, .int .i64 a'] := by rw [hW9]; exact bx_new w8 _ _
            have hD9 : Bx W9 w6.heap.size [.int .i64 v, .int .i64 k, .int .i64 x, .int .i64 a] := by rw [hW9]; exact bx_alloc (bx_up hC7 hu8) _
            have U9 : Up w W9 := by rw [hW9]; exact up_alloc (up_trans U7 hu8) _
            have v0 := (hC9 0 _ rfl).1
            have v1 := (hD9 0 _ rfl).1
            have g1 : decide (v' ≥ v) = true := decide_eq_true m4
            have g2 : decide (v ≤ v') = true := decide_eq_true m4
            clear hW9 d0 d1 d2 d3 d4 d5 hB7 U7 hu8 HW3 hC7 hC9 hD9
            go_wp2_with (go_at_call 8; refine (l_known _).mono ?_; rintro e w9 ⟨rfl, hu9⟩)
            go_ret
            exact ⟨rfl, up_trans U9 hu9⟩
  · have hV0 := moE_ends hE
    obtain ⟨E, hEE⟩ : ∃ E, moE b ts s x p = E := ⟨_, rfl⟩
    rw [hEE] at HM hE
    rw [hV0] at HM
    obtain ⟨v1, hv1⟩ : ∃ v, eeV false b ts s p = v := ⟨_, rfl⟩
    obtain ⟨v2, hv2⟩ : ∃ v, eeV true b ts s p = v := ⟨_, rfl⟩
    obtain ⟨E1, hE1⟩ : ∃ v, eeE b ts s p = v := ⟨_, rfl⟩
    rw [hv1, hE1] at HEl
    rw [hv2, hE1] at HEr
    have e1 : (E == 0) = false := by simp; exact hE
    clear HL HW HW2 hV0 hEE hv1 hv2 hE1
    unfold bgV at HG HM HEl HEr ⊢
    obtain ⟨sp, mo, sh, A0, A1, A2, k0, k1, k2, dy, la, tr⟩ := b
    dsimp only at *
    generalize sp.length = n0 at *
    generalize mo.length = n1 at *
    generalize sh.length = n2 at *
    generalize ts.length = m at *
    clear h hn hcap hF hnt hgr hsm
    go_enter Try.func6, Try.ntmps6
    go_upto_region 1 with fail
    refine at_wpB (fun W hW => ?_)
    have hB : Bx W w.heap.size [.slice A0 n0 k0, .slice A1 n1 k1, .slice A2 n2 k2, .int .i64 dy, .int .i64 la, .int .i64 tr] := by rw [hW]; exact bx_new w _ _
    have U : Up w W := by rw [hW]; exact (by repeat' (first | (with_reducible exact up_refl _) | (with_reducible assumption) | (with_reducible refine up_alloc ?_ _) | (with_reducible refine up_drewN ?_ _) | (with_reducible refine up_drew ?_) | (with_reducible refine up_set ?_ (by first | (simp; done) | (simp; omega) | omega) _) | (refine up_trans ?_ (by with_reducible assumption))))
    obtain ⟨d0, d1, d2, d3, d4, d5⟩ := bgc hB
    clear hW
    go_upto_region 3 with (go_at_call 20; (with_reducible refine (unhide HG _).mono ?_); rintro e w1 ⟨rfl, hu1⟩)
    have hB := bx_up hB hu1
    have U := up_trans U hu1
    obtain ⟨d0, d1, d2, d3, d4, d5⟩ := bgc hB
    clear hu1
    go_upto_region 4 with (go_at_call 22; (with_reducible refine (unhide HM _ U).mono ?_); rintro e w2 ⟨rfl, hu2⟩)
    have hB := bx_up hB hu2
    have U := up_trans U hu2
    obtain ⟨d0, d1, d2, d3, d4, d5⟩ := bgc hB
    clear hu2
    go_upto_region 5 with (go_at_call 24; (with_reducible refine (unhide HEl _ U).mono ?_); rintro e w3 ⟨rfl, hu3⟩)
    have hB := bx_up hB hu3
    have U := up_trans U hu3
    obtain ⟨d0, d1, d2, d3, d4, d5⟩ := bgc hB
    clear hu3
    go_upto_region 6 with (go_at_call 24; (with_reducible refine (unhide HEr _ U).mono ?_); rintro e w4 ⟨rfl, hu4⟩)
    have U := up_trans U hu4
    clear hu4 hB d0 d1 d2 d3 d4 d5
    go_wp2_with (go_at_call 8; refine (l_known _).mono ?_; rintro e w5 ⟨rfl, hu5⟩)
    go_ret
    exact ⟨rfl, up_trans U hu5⟩
end Go.Proofs.Ytdignnmhiifpgaa
