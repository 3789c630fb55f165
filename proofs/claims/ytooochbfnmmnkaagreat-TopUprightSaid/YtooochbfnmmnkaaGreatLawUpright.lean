/- TopUpright: the law's function returns true. -/
import Derived.Test.YtooochbfnmmnkaaGreatTopU
import Derived.Test.YtooochbfnmmnkaaGreatWk5
import Derived.Test.YtooochbfnmmnkaaGreatPkRefChk
import Derived.Test.YtooochbfnmmnkaaGreatUpQ
import Derived.Test.YtooochbfnmmnkaaGreatKnown
namespace Go.Proofs.YtooochbfnmmnkaaGreat
open Go.RowKit Go.Proofs.Gn
attribute [local go_sem] Oper.semAt_some
set_option linter.unusedVariables false
set_option maxRecDepth 100000 in
set_option maxHeartbeats 32000000 in
theorem l_Upright (A : Option Addr) (bs : List Bxe) (cap : Nat) (Al : Option Addr) (ls : List Lgg) (capl : Nat) (w : World) (h : BxsOk w A bs) (hn : bs.length ≤ 9223372036854775807) (hG : LgsOk w Al ls) (hnl : ls.length ≤ 9223372036854775807) :
    Calls Tryz.prog 3 #[.slice A bs.length cap, .slice Al ls.length capl] w fun e w' => e = .returned (.bool true) ∧ Up w w' := by
  have HCg := hide (fun W (hW : Up w W) => p_cargo A bs cap W (bxes_up h.1 hW) h.2 hn)
  have HPl := hide (fun W (hW : Up w W) => p_platform Al ls capl W ⟨lggs_up hG.1 hW, hG.2⟩ hnl)
  have HW := hide (fun W => p_works05 W)
  have hS12 := pfL_len ls
  obtain ⟨S, hS⟩ : ∃ S, pfL ls = S := ⟨_, rfl⟩
  rw [hS] at HPl hS12
  have HSt := hide (fun C ca P cp W (hSs : Sups W C S) (hP : Pcs W P (cgL bs)) => p_standsC C S ca P bs cp hS12 W hSs hP)
  have HCk := hide (fun C ca W (hSs : Sups W C S) => p_CheckS C S ca W hSs (by omega))
  have HCe := hide (fun P cp W (hP : Pcs W P (cgL bs)) => p_centreC bs P cp W hP)
  have HSh := hide (fun C ca W (hSs : Sups W C S) => p_Shares C S ca (mas (cgL bs)) (upK fX bs) (upK fY bs) (by omega) W hSs)
  have HM1 := hide (fun (x : bs ≠ []) P cp W (hP : Pcs W P (cgL bs)) => p_massC bs h.2 x P cp W hP)
  have HM0 := hide (fun P cp W => p_massC0 P cp W)
  have HG1 := hide (fun x => up_G1 (S := S) (bs := bs) x)
  have HG3 := hide (fun x y => up_G3 (S := S) h.2 x y)
  have HE := hide (fun x => cg_lo0 (bs := bs) h.2 x)
  have HL := hide (cgL_mas h.2)
  have HLn := hide (cgL_len bs)
  obtain ⟨N, hN⟩ : ∃ N, bs.length = N := ⟨_, rfl⟩
  rw [hN] at HCg hn ⊢
  obtain ⟨Nl, hNl⟩ : ∃ N, ls.length = N := ⟨_, rfl⟩
  rw [hNl] at HPl hnl ⊢
  obtain ⟨n, hnn⟩ : ∃ n, (cgL bs).length = n := ⟨_, rfl⟩
  rw [hnn] at HCg HM1 HL HLn HSt HCe
  obtain ⟨nS, hnS⟩ : ∃ n, S.length = n := ⟨_, rfl⟩
  rw [hnS] at HPl HSt HCk HSh hS12
  have HNS := hide hnS
  by_cases hC : chE S = 0
  · by_cases h0 : bs = []
    · have hn0 : n = 0 := by rw [← hnn, h0]; rfl
      subst hn0
      have hG6 : upG S bs = 6 := by rw [h0]; exact up_G2 hC
      have hE6 : loE cgN (cgL bs) [] 300 = 6 := by rw [h0]; exact cg_lo6
      rw [hG6] at HSt
      rw [hE6] at HCe
      rw [hC] at HCk
      generalize upR S bs pa0 = r0 at *
      generalize upR S bs pa1 = r1 at *
      generalize upR S bs pa2 = r2 at *
      generalize upK fX bs = k0 at *
      generalize upK fY bs = k1 at *
      generalize upK fZ bs = k2 at *
      clear h hn hN hnl hNl hnn HM1 HL HLn HSh HG1 HG3 HE hG6 hE6 h0 hC hS hnS hG
      go_enter Tryz.func3, Tryz.ntmps3
      go_upto_region 2 with (go_at_call 5; (with_reducible refine (unhide HCg _ (by repeat' (first | (with_reducible exact up_refl _) | (with_reducible assumption) | (with_reducible refine up_alloc ?_ _) | (with_reducible refine up_drewN ?_ _) | (with_reducible refine up_drew ?_) | (with_reducible refine up_set ?_ (by first | (simp; done) | (simp; omega) | omega) _) | (refine up_trans ?_ (by with_reducible assumption))))).mono ?_); rintro e w2 ⟨⟨P, cp, rfl, hP⟩, u2⟩)
      refine at_wpC (fun W1 hW1 => ?_)
      have U1 : Up w W1 := by rw [hW1]; exact (by repeat' (first | (with_reducible exact up_refl _) | (with_reducible assumption) | (with_reducible refine up_alloc ?_ _) | (with_reducible refine up_drewN ?_ _) | (with_reducible refine up_drew ?_) | (with_reducible refine up_set ?_ (by first | (simp; done) | (simp; omega) | omega) _) | (refine up_trans ?_ (by with_reducible assumption))))
      have bX : Bx W1 w2.heap.size [.string cgN, .slice P 0 cp, .slice none 0 0, .int .i64 300] := by rw [hW1]; exact bx_new w2 _ _
      have hP1 := pcs_up hP (show Up w2 W1 by rw [hW1]; exact (by repeat' (first | (with_reducible exact up_refl _) | (with_reducible assumption) | (with_reducible refine up_alloc ?_ _) | (with_reducible refine up_drewN ?_ _) | (with_reducible refine up_drew ?_) | (with_reducible refine up_set ?_ (by first | (simp; done) | (simp; omega) | omega) _) | (refine up_trans ?_ (by with_reducible assumption)))))
      obtain ⟨g, hg⟩ : ∃ g, w2.heap.size = g := ⟨_, rfl⟩
      rw [hg] at bX ⊢
      clear hW1 hP u2 hg
      go_upto_region 3 with (go_at_call 6; (with_reducible refine (unhide HPl _ U1).mono ?_); rintro e w3 ⟨⟨C, ca, rfl, hSs⟩, u3⟩)
      have bX3 := bx_up bX u3
      have hP3 := pcs_up hP1 u3
      have U3 := up_trans U1 u3
      clear bX hP1 U1 u3
      have c0 := (bX3 0 _ rfl).1
      have c1 := (bX3 1 _ rfl).1
      have c2 := (bX3 2 _ rfl).1
      have c3 := (bX3 3 _ rfl).1
      go_upto_region 4 with (go_at_call 7; (with_reducible refine (unhide HSt _ _ _ _ _ hSs hP3).mono ?_); rintro e w4 ⟨rfl, u4⟩)
      refine at_wpC (fun W4 hW4 => ?_)
      have u34 : Up w3 W4 := by rw [hW4]; exact (by repeat' (first | (with_reducible exact up_refl _) | (with_reducible assumption) | (with_reducible refine up_alloc ?_ _) | (with_reducible refine up_drewN ?_ _) | (with_reducible refine up_drew ?_) | (with_reducible refine up_set ?_ (by first | (simp; done) | (simp; omega) | omega) _) | (refine up_trans ?_ (by with_reducible assumption))))
      have bX4 := bx_up bX3 u34
      have hP4 := pcs_up hP3 u34
      have hS4 := sups_up hSs u34
      have U4 := up_trans U3 u34
      clear hW4 u34 bX3 hP3 hSs U3 c0 c1 c2 c3 u4
      have c0 := (bX4 0 _ rfl).1
      have c1 := (bX4 1 _ rfl).1
      have c2 := (bX4 2 _ rfl).1
      have c3 := (bX4 3 _ rfl).1
      go_upto_region 8 with (first
        | (go_at_call 8; (with_reducible refine (unhide HCk _ _ _ hS4).mono ?_); rintro e w5 ⟨rfl, u5⟩; have d0 := up_cell u5 c0; have d1 := up_cell u5 c1; have d2 := up_cell u5 c2; have d3 := up_cell u5 c3)
        | (go_at_call 10; (with_reducible refine (unhide HM0 _ _ _).mono ?_); rintro e w6 ⟨rfl, u6⟩))
      have u46 := up_trans u5 u6
      have bX6 := bx_up bX4 u46
      have hP6 := pcs_up hP4 u46
      have U6 := up_trans U4 u46
      clear bX4 hP4 hS4 U4 u5 u6 u46 c0 c1 c2 c3 d0 d1 d2 d3
      have c0 := (bX6 0 _ rfl).1
      have c1 := (bX6 1 _ rfl).1
      have c2 := (bX6 2 _ rfl).1
      have c3 := (bX6 3 _ rfl).1
      go_wp2_with (first
        | (go_at_call 11; (with_reducible refine (unhide HCe _ _ _ hP6).mono ?_); rintro e w7 ⟨rfl, u7⟩)
        | (go_at_call 9; (with_reducible refine (unhide HW _).mono ?_); rintro e w8 ⟨rfl, u8⟩))
      go_ret
      exact ⟨rfl, up_trans (up_trans U6 u7) (up_trans (up_alloc (up_refl _) _) u8)⟩
    · have hm : 1 ≤ mas (cgL bs) ∧ mas (cgL bs) ≤ 32000 := by
        have a := (unhide HLn).2 h0
        have a' := (unhide HLn).1
        have b := unhide HL
        omega
      have hE0 := unhide HE h0
      obtain ⟨hG3, hR3⟩ := unhide HG3 h0 hC
      have HM := hide (unhide HM1 h0)
      rw [hE0] at HCe
      rw [hC] at HCk
      rw [← hG3, ← hR3 pa0, ← hR3 pa1, ← hR3 pa2] at HSh
      have HF := hide (fun (e : upG S bs = 0) => by
        have q := all_facts (ps := S) (m := mas (cgL bs)) (X := upK fX bs) (Y := upK fY bs) (hG3 ▸ e)
        rw [← hR3 pa0, ← hR3 pa1, ← hR3 pa2] at q
        exact q)
      generalize upR S bs pa0 = r0 at *
      generalize upR S bs pa1 = r1 at *
      generalize upR S bs pa2 = r2 at *
      generalize upG S bs = G at *
      generalize upK fX bs = k0 at *
      generalize upK fY bs = k1 at *
      generalize upK fZ bs = k2 at *
      generalize mas (cgL bs) = m at *
      have HOk := hide (chE_ok hC)
      clear h hn hN hnl hNl hnn HM1 HM0 HL HLn HG1 HG3 HE hE0 h0 hC hS hnS hG hG3 hR3
      have e3 := fun W => eq3_same r0 r1 r2 W
      go_enter Tryz.func3, Tryz.ntmps3
      go_upto_region 2 with (go_at_call 5; (with_reducible refine (unhide HCg _ (by repeat' (first | (with_reducible exact up_refl _) | (with_reducible assumption) | (with_reducible refine up_alloc ?_ _) | (with_reducible refine up_drewN ?_ _) | (with_reducible refine up_drew ?_) | (with_reducible refine up_set ?_ (by first | (simp; done) | (simp; omega) | omega) _) | (refine up_trans ?_ (by with_reducible assumption))))).mono ?_); rintro e w2 ⟨⟨P, cp, rfl, hP⟩, u2⟩)
      refine at_wpC (fun W1 hW1 => ?_)
      have U1 : Up w W1 := by rw [hW1]; exact (by repeat' (first | (with_reducible exact up_refl _) | (with_reducible assumption) | (with_reducible refine up_alloc ?_ _) | (with_reducible refine up_drewN ?_ _) | (with_reducible refine up_drew ?_) | (with_reducible refine up_set ?_ (by first | (simp; done) | (simp; omega) | omega) _) | (refine up_trans ?_ (by with_reducible assumption))))
      have bX : Bx W1 w2.heap.size [.string cgN, .slice P n cp, .slice none 0 0, .int .i64 300] := by rw [hW1]; exact bx_new w2 _ _
      have hP1 := pcs_up hP (show Up w2 W1 by rw [hW1]; exact (by repeat' (first | (with_reducible exact up_refl _) | (with_reducible assumption) | (with_reducible refine up_alloc ?_ _) | (with_reducible refine up_drewN ?_ _) | (with_reducible refine up_drew ?_) | (with_reducible refine up_set ?_ (by first | (simp; done) | (simp; omega) | omega) _) | (refine up_trans ?_ (by with_reducible assumption)))))
      obtain ⟨g, hg⟩ : ∃ g, w2.heap.size = g := ⟨_, rfl⟩
      rw [hg] at bX ⊢
      clear hW1 hP u2 hg
      go_upto_region 3 with (go_at_call 6; (with_reducible refine (unhide HPl _ U1).mono ?_); rintro e w3 ⟨⟨C, ca, rfl, hSs⟩, u3⟩)
      have bX3 := bx_up bX u3
      have hP3 := pcs_up hP1 u3
      have U3 := up_trans U1 u3
      clear bX hP1 U1 u3
      have c0 := (bX3 0 _ rfl).1
      have c1 := (bX3 1 _ rfl).1
      have c2 := (bX3 2 _ rfl).1
      have c3 := (bX3 3 _ rfl).1
      go_upto_region 4 with (go_at_call 7; (with_reducible refine (unhide HSt _ _ _ _ _ hSs hP3).mono ?_); rintro e w4 ⟨rfl, u4⟩)
      refine at_wpC (fun W4 hW4 => ?_)
      have u34 : Up w3 W4 := by rw [hW4]; exact (by repeat' (first | (with_reducible exact up_refl _) | (with_reducible assumption) | (with_reducible refine up_alloc ?_ _) | (with_reducible refine up_drewN ?_ _) | (with_reducible refine up_drew ?_) | (with_reducible refine up_set ?_ (by first | (simp; done) | (simp; omega) | omega) _) | (refine up_trans ?_ (by with_reducible assumption))))
      have bR : Bx W4 w4.heap.size [.int .i64 r0, .int .i64 r1, .int .i64 r2] := by rw [hW4]; exact bx_new w4 _ _
      obtain ⟨gr, hgr⟩ : ∃ g, w4.heap.size = g := ⟨_, rfl⟩
      rw [hgr] at bR ⊢
      have bX4 := bx_up bX3 u34
      have hP4 := pcs_up hP3 u34
      have hS4 := sups_up hSs u34
      have U4 := up_trans U3 u34
      clear hW4 u34 bX3 hP3 hSs U3 c0 c1 c2 c3 u4 hgr
      have c0 := (bX4 0 _ rfl).1
      have c1 := (bX4 1 _ rfl).1
      have c2 := (bX4 2 _ rfl).1
      have c3 := (bX4 3 _ rfl).1
      go_upto_region 8 with (first
        | (go_at_call 8; (with_reducible refine (unhide HCk _ _ _ hS4).mono ?_); rintro e w5 ⟨rfl, u5⟩; have d0 := up_cell u5 c0; have d1 := up_cell u5 c1; have d2 := up_cell u5 c2; have d3 := up_cell u5 c3; have hP5 := pcs_up hP4 u5)
        | (go_at_call 10; (with_reducible refine (unhide HM _ _ _ hP5).mono ?_); rintro e w6 ⟨rfl, u6⟩))
      have u46 := up_trans u5 u6
      have bX6 := bx_up bX4 u46
      have bR6 := bx_up bR u46
      have hP6 := pcs_up hP4 u46
      have hS6 := sups_up hS4 u46
      have U6 := up_trans U4 u46
      clear bX4 hP4 hS4 U4 u5 u6 u46 c0 c1 c2 c3 d0 d1 d2 d3 hP5 bR
      have c0 := (bX6 0 _ rfl).1
      have c1 := (bX6 1 _ rfl).1
      have c2 := (bX6 2 _ rfl).1
      have c3 := (bX6 3 _ rfl).1
      go_upto_region 11 with (go_at_call 11; (with_reducible refine (unhide HCe _ _ _ hP6).mono ?_); rintro e w7 ⟨rfl, u7⟩)
      refine at_wpC (fun W8 hW8 => ?_)
      have u68 : Up w6 W8 := by rw [hW8]; exact (by repeat' (first | (with_reducible exact up_refl _) | (with_reducible assumption) | (with_reducible refine up_alloc ?_ _) | (with_reducible refine up_drewN ?_ _) | (with_reducible refine up_drew ?_) | (with_reducible refine up_set ?_ (by first | (simp; done) | (simp; omega) | omega) _) | (refine up_trans ?_ (by with_reducible assumption))))
      have bK : Bx W8 w7.heap.size [.int .i64 k0, .int .i64 k1, .int .i64 k2] := by rw [hW8]; exact bx_new w7 _ _
      obtain ⟨gk, hgk⟩ : ∃ g, w7.heap.size = g := ⟨_, rfl⟩
      rw [hgk] at bK ⊢
      have bR8 := bx_up bR6 u68
      have hS8 := sups_up hS6 u68
      have U8 := up_trans U6 u68
      clear hW8 u68 bX6 hP6 hS6 U6 c0 c1 c2 c3 u7 hgk bR6
      obtain ⟨c0, c1, c2⟩ := bx3 bK
      go_upto_region 12 with (go_at_call 12; (with_reducible refine (unhide HSh _ _ _ hS8).mono ?_); rintro e w9 ⟨rfl, u9⟩)
      refine at_wpC (fun WA hWA => ?_)
      have u8A : Up W8 WA := by rw [hWA]; exact (by repeat' (first | (with_reducible exact up_refl _) | (with_reducible assumption) | (with_reducible refine up_alloc ?_ _) | (with_reducible refine up_drewN ?_ _) | (with_reducible refine up_drew ?_) | (with_reducible refine up_set ?_ (by first | (simp; done) | (simp; omega) | omega) _) | (refine up_trans ?_ (by with_reducible assumption))))
      have bB : Bx WA w9.heap.size [.int .i64 r0, .int .i64 r1, .int .i64 r2] := by rw [hWA]; exact bx_new w9 _ _
      obtain ⟨gb, hgb⟩ : ∃ g, w9.heap.size = g := ⟨_, rfl⟩
      rw [hgb] at bB ⊢
      have bRA := bx_up bR8 u8A
      have hSA := sups_up hS8 u8A
      have UA := up_trans U8 u8A
      clear hWA u8A hS8 U8 c0 c1 c2 u9 hgb bR8 bK
      obtain ⟨b0, b1, b2⟩ := bx3 bB
      obtain ⟨a0, a1, a2⟩ := bx3 bRA
      by_cases hG0 : G = 0
      · subst hG0
        obtain ⟨_, ⟨m1, m2⟩, ⟨q0, q1, q2⟩, _, s1, s2⟩ := unhide HF rfl
        have HB := hide (fun k => psS_bd q0 q1 q2 (S.take k))
        have hcn := psS_cN (u0 := r0) (u1 := r1) (u2 := r2) (unhide HOk).1
        rw [← hcn] at s1 s2
        rw [unhide HNS] at s2
        have HS1 := hide s1
        have HS2 := hide s2
        have HQ := hide (⟨q0, q1, q2⟩ : _ ∧ _ ∧ _)
        clear HF hcn s1 s2 m2 m1 q0 q1 q2
        go_upto_region 18 with fail
        clear a0 a1 a2 b0 b1 b2
        go_loopw [16, 17] (fun s16 s17 wr => ∃ k : Nat, k ≤ nS ∧ s17 = .int .i64 k ∧ s16 = .int .i64 (psS r0 r1 r2 (S.take k)) ∧ Up WA wr) (fun _ s17 _ => nS - (intOf s17).toNat)
        case atStart => exact ⟨0, by omega, rfl, rfl, up_refl _⟩
        case round =>
          obtain ⟨k, hk, rfl, rfl, hu⟩ := hrel
          obtain ⟨a0, a1, a2⟩ := bx3 (bx_up bRA hu)
          by_cases hlt : k < nS
          · have hl : k < S.length := by rw [unhide HNS]; exact hlt
            obtain ⟨b, off, rfl, hc⟩ := (sups_up hSA hu).resolve_left (by intro e; rw [e] at hl; simp at hl)
            have x2 := (hc k hl).2.2.1
            have hgg := Gs.okS_yes (Gs.okA_get (unhide HOk).1 hl)
            obtain ⟨_, _, ⟨g1, g2⟩, _⟩ := hgg
            have hst := psS_take (u0 := r0) (u1 := r1) (u2 := r2) hl
            have hb0 := unhide HB k
            have hlen : (((S.take k).length : Nat) : Int) ≤ 12 := by rw [List.length_take]; omega
            obtain ⟨q0, q1, q2⟩ := unhide HQ
            have hb1 := sel_bd (g := S[k].g) q0 q1 q2
            generalize psS r0 r1 r2 (S.take k) = T at *
            generalize S[k].g = gg at *
            have hmT : T ≤ 32000 * 12 := Int.le_trans hb0.2 (by
              have := Int.mul_le_mul_of_nonneg_left hlen (show 0 ≤ m by omega)
              omega)
            have hT0 : 0 ≤ T := hb0.1
            have hwk : IntKind.i64.wrap ((k : Int) + 1) = (k : Int) + 1 := IntWalk.i64_in _ ⟨by omega, by omega⟩
            have HST := hide hst
            clear hb0 hlen hc hst
            have hg3 : gg = 0 ∨ gg = 1 ∨ gg = 2 := by omega
            rcases hg3 with rfl | rfl | rfl
            · have HH := hide (show sel 0 r0 r1 r2 = r0 from rfl)
              clear hb1 g1 g2
              go_wp2_with fail
              go_roundw
              case rel => exact ⟨k + 1, by omega, by go_num, by rw [unhide HST, unhide HH], hu⟩
              case measure => simp [intOf]; omega
            · have HH := hide (show sel 1 r0 r1 r2 = r1 from rfl)
              clear hb1 g1 g2
              go_wp2_with fail
              go_roundw
              case rel => exact ⟨k + 1, by omega, by go_num, by rw [unhide HST, unhide HH], hu⟩
              case measure => simp [intOf]; omega
            · have HH := hide (show sel 2 r0 r1 r2 = r2 from rfl)
              clear hb1 g1 g2
              go_wp2_with fail
              go_roundw
              case rel => exact ⟨k + 1, by omega, by go_num, by rw [unhide HST, unhide HH], hu⟩
              case measure => simp [intOf]; omega
          · obtain rfl : k = nS := by omega
            have hT : psS r0 r1 r2 (S.take k) = psS r0 r1 r2 S := by rw [List.take_of_length_le (by rw [unhide HNS]; omega)]
            rw [hT]
            have s1 := unhide HS1
            have s2 := unhide HS2
            clear hT
            generalize psS r0 r1 r2 S = T at *
            have hw2 : IntKind.i64.wrap (m + (k : Int)) = m + (k : Int) := IntWalk.i64_in _ ⟨by omega, by omega⟩
            clear a0 a1 a2
            go_wp2_with (go_at_call 9; (with_reducible refine (unhide HW _).mono ?_); rintro e wB ⟨rfl, uB⟩)
            go_ret
            exact ⟨rfl, up_trans (up_trans UA hu) uB⟩
      · have t1 : (G == 0) = false := by simp [hG0]
        have t2 : (G != 0) = true := by simp [hG0]
        clear hG0 HF
        go_wp2_with (go_at_call 9; (with_reducible refine (unhide HW _).mono ?_); rintro e wB ⟨rfl, uB⟩)
        go_ret
        exact ⟨rfl, up_trans UA uB⟩
  · rw [unhide HG1 hC] at HSt
    have t1 : (chE S == 0) = false := by simp [hC]
    have t2 : (chE S != 0) = true := by simp [hC]
    generalize chE S = E0 at *
    generalize upR S bs pa0 = r0 at *
    generalize upR S bs pa1 = r1 at *
    generalize upR S bs pa2 = r2 at *
    clear h hn hN hnl hNl hnn HM1 HM0 HL HLn HSh HG1 HG3 HE hC hS hnS hG HCe
    go_enter Tryz.func3, Tryz.ntmps3
    go_upto_region 2 with (go_at_call 5; (with_reducible refine (unhide HCg _ (by repeat' (first | (with_reducible exact up_refl _) | (with_reducible assumption) | (with_reducible refine up_alloc ?_ _) | (with_reducible refine up_drewN ?_ _) | (with_reducible refine up_drew ?_) | (with_reducible refine up_set ?_ (by first | (simp; done) | (simp; omega) | omega) _) | (refine up_trans ?_ (by with_reducible assumption))))).mono ?_); rintro e w2 ⟨⟨P, cp, rfl, hP⟩, u2⟩)
    refine at_wpC (fun W1 hW1 => ?_)
    have U1 : Up w W1 := by rw [hW1]; exact (by repeat' (first | (with_reducible exact up_refl _) | (with_reducible assumption) | (with_reducible refine up_alloc ?_ _) | (with_reducible refine up_drewN ?_ _) | (with_reducible refine up_drew ?_) | (with_reducible refine up_set ?_ (by first | (simp; done) | (simp; omega) | omega) _) | (refine up_trans ?_ (by with_reducible assumption))))
    have bX : Bx W1 w2.heap.size [.string cgN, .slice P n cp, .slice none 0 0, .int .i64 300] := by rw [hW1]; exact bx_new w2 _ _
    have hP1 := pcs_up hP (show Up w2 W1 by rw [hW1]; exact (by repeat' (first | (with_reducible exact up_refl _) | (with_reducible assumption) | (with_reducible refine up_alloc ?_ _) | (with_reducible refine up_drewN ?_ _) | (with_reducible refine up_drew ?_) | (with_reducible refine up_set ?_ (by first | (simp; done) | (simp; omega) | omega) _) | (refine up_trans ?_ (by with_reducible assumption)))))
    obtain ⟨g, hg⟩ : ∃ g, w2.heap.size = g := ⟨_, rfl⟩
    rw [hg] at bX ⊢
    clear hW1 hP u2 hg
    go_upto_region 3 with (go_at_call 6; (with_reducible refine (unhide HPl _ U1).mono ?_); rintro e w3 ⟨⟨C, ca, rfl, hSs⟩, u3⟩)
    have bX3 := bx_up bX u3
    have hP3 := pcs_up hP1 u3
    have U3 := up_trans U1 u3
    clear bX hP1 U1 u3
    have c0 := (bX3 0 _ rfl).1
    have c1 := (bX3 1 _ rfl).1
    have c2 := (bX3 2 _ rfl).1
    have c3 := (bX3 3 _ rfl).1
    go_upto_region 4 with (go_at_call 7; (with_reducible refine (unhide HSt _ _ _ _ _ hSs hP3).mono ?_); rintro e w4 ⟨rfl, u4⟩)
    refine at_wpC (fun W4 hW4 => ?_)
    have u34 : Up w3 W4 := by rw [hW4]; exact (by repeat' (first | (with_reducible exact up_refl _) | (with_reducible assumption) | (with_reducible refine up_alloc ?_ _) | (with_reducible refine up_drewN ?_ _) | (with_reducible refine up_drew ?_) | (with_reducible refine up_set ?_ (by first | (simp; done) | (simp; omega) | omega) _) | (refine up_trans ?_ (by with_reducible assumption))))
    have hS4 := sups_up hSs u34
    have U4 := up_trans U3 u34
    clear hW4 u34 bX3 hP3 hSs U3 c0 c1 c2 c3 u4
    go_wp2_with (first
      | (go_at_call 8; (with_reducible refine (unhide HCk _ _ _ hS4).mono ?_); rintro e w5 ⟨rfl, u5⟩)
      | (go_at_call 9; (with_reducible refine (unhide HW _).mono ?_); rintro e wB ⟨rfl, uB⟩))
    go_ret
    exact ⟨rfl, up_trans (up_trans U4 u5) uB⟩
end Go.Proofs.YtooochbfnmmnkaaGreat
