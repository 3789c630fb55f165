/- TopTogether: the law's function returns true. -/
import Derived.Test.YtooochbfnmmnkaaGreatTogM
import Derived.Test.YtooochbfnmmnkaaGreatJoinE
import Derived.Test.YtooochbfnmmnkaaGreatWk5
import Derived.Test.YtooochbfnmmnkaaGreatPkRefChk
import Derived.Test.YtooochbfnmmnkaaGreatUpQ
namespace Go.Proofs.YtooochbfnmmnkaaGreat
open Go.RowKit Go.Proofs.Gn
attribute [local go_sem] Oper.semAt_some
set_option linter.unusedVariables false
/-- Which loads have been looked at. -/
def TgA (Q1 Q2 : Prop) (s : Value) : Prop := s = .int .i64 0 ∨ (s = .int .i64 1 ∧ Q1) ∨ (s = .int .i64 2 ∧ Q1 ∧ Q2)
/-- Which corners have been looked at. -/
def TgB (P : Int → Int → Prop) (X Y : Int) (s : Value) : Prop := s = .int .i64 0 ∨ (s = .int .i64 1 ∧ P (X - 2) (Y - 2)) ∨ (s = .int .i64 2 ∧ P (X - 2) (Y - 2) ∧ P (X + 2) (Y - 2)) ∨ (s = .int .i64 3 ∧ P (X - 2) (Y - 2) ∧ P (X + 2) (Y - 2) ∧ P (X - 2) (Y + 2)) ∨ (s = .int .i64 4 ∧ Cor P X Y)
set_option maxRecDepth 100000 in
set_option maxHeartbeats 40000000 in
theorem l_Together (A B : Option Addr) (a b : List Bxe) (capa capb : Nat) (Al : Option Addr) (ls : List Lgg) (capl : Nat) (w : World) (hA : BxsOk w A a) (hna : a.length ≤ 9223372036854775807) (hB : BxsOk w B b) (hnb : b.length ≤ 9223372036854775807) (hG : LgsOk w Al ls) (hnl : ls.length ≤ 9223372036854775807) :
    Calls Tryz.prog 4 #[.slice A a.length capa, .slice B b.length capb, .slice Al ls.length capl] w fun e w' => e = .returned (.bool true) ∧ Up w w' := by
  have HCa := hide (fun W (hW : Up w W) => p_cargo A a capa W (bxes_up hA.1 hW) hA.2 hna)
  have HCb := hide (fun W (hW : Up w W) => p_cargo B b capb W (bxes_up hB.1 hW) hB.2 hnb)
  have HPl := hide (fun W (hW : Up w W) => p_platform Al ls capl W ⟨lggs_up hG.1 hW, hG.2⟩ hnl)
  have HW := hide (fun W => p_works05 W)
  have hS12 := pfL_len ls
  obtain ⟨S, hS⟩ : ∃ S, pfL ls = S := ⟨_, rfl⟩
  rw [hS] at HPl hS12
  have HCk := hide (fun C ca W (hSs : Sups W C S) => p_CheckS C S ca W hSs (by omega))
  have HTi := hide (fun C ca X Y W (hSs : Sups W C S) => p_Tips C S ca X Y (by omega) W hSs)
  have la := cgL_len a
  have lb := cgL_len b
  by_cases hne : a ≠ [] ∧ b ≠ []
  · obtain ⟨a0, b0⟩ := hne
    have Ea := cg_lo0 hA.2 a0
    have Eb := cg_lo0 hB.2 b0
    have Ej := cg_loJ hA.2 hB.2 a0 b0
    have HJ := hide (fun P1 P2 d1 d2 W (h1 : Pcs W P1 (cgL a)) (h2 : Pcs W P2 (cgL b)) => p_Joined P1 P2 (cgL a) (cgL b) d1 d2 W h1 h2 Ea Eb Ej (by have := la.2 a0; omega) (by have := lb.2 b0; omega))
    have HMa := hide (fun P cp W (h : Pcs W P (cgL a)) => p_massG (cgL a) P cp W h (by omega) Ea)
    have HMb := hide (fun P cp W (h : Pcs W P (cgL b)) => p_massG (cgL b) P cp W h (by omega) Eb)
    have HMj := hide (fun P cp W (h : Pcs W P (cgL a ++ cgL b)) => p_massG (cgL a ++ cgL b) P cp W h (by rw [List.length_append]; omega) Ej)
    have HKa := hide (fun P cp W (h : Pcs W P (cgL a)) => p_centreG (cgL a) P cp W h (by omega) Ea)
    have HKb := hide (fun P cp W (h : Pcs W P (cgL b)) => p_centreG (cgL b) P cp W h (by omega) Eb)
    have HKj := hide (fun P cp W (h : Pcs W P (cgL a ++ cgL b)) => p_centreG (cgL a ++ cgL b) P cp W h (by rw [List.length_append]; omega) Ej)
    have HTg := hide (fun (hC : chE S = 0) => tog hC hA.2 hB.2 a0 b0)
    have HXa := hide (ceG_bd hA.2 a0)
    have HXb := hide (ceG_bd hB.2 b0)
    have m1 := cgL_mas hA.2
    have m2 := cgL_mas hB.2
    have hmj := mas_append (cgL a) (cgL b)
    rw [hmj] at HMj HKj HTg
    obtain ⟨nS, hnS⟩ : ∃ n, S.length = n := ⟨_, rfl⟩
    rw [hnS] at HPl HCk HTi hS12
    obtain ⟨Na, hNa⟩ : ∃ N, a.length = N := ⟨_, rfl⟩
    rw [hNa] at HCa hna ⊢
    obtain ⟨Nb, hNb⟩ : ∃ N, b.length = N := ⟨_, rfl⟩
    rw [hNb] at HCb hnb ⊢
    obtain ⟨Nl, hNl⟩ : ∃ N, ls.length = N := ⟨_, rfl⟩
    rw [hNl] at HPl hnl ⊢
    obtain ⟨nj, hnj⟩ : ∃ n, (cgL a ++ cgL b).length = n := ⟨_, rfl⟩
    rw [hnj] at HJ HMj HKj
    obtain ⟨na, hnna⟩ : ∃ n, (cgL a).length = n := ⟨_, rfl⟩
    obtain ⟨nb, hnnb⟩ : ∃ n, (cgL b).length = n := ⟨_, rfl⟩
    rw [hnna] at HCa HJ HMa HKa m1 la
    rw [hnnb] at HCb HJ HMb HKb m2 lb
    have hm : (0 ≤ mas (cgL a) ∧ mas (cgL a) ≤ 32000) ∧ (0 ≤ mas (cgL b) ∧ mas (cgL b) ≤ 32000) := by omega
    generalize ceV (mo fX (cgL a ++ cgL b)) (mas (cgL a) + mas (cgL b)) = Xj at *
    generalize ceV (mo fY (cgL a ++ cgL b)) (mas (cgL a) + mas (cgL b)) = Yj at *
    generalize ceV (mo fZ (cgL a ++ cgL b)) (mas (cgL a) + mas (cgL b)) = Zj at *
    generalize ceV (mo fX (cgL a)) (mas (cgL a)) = Xa at *
    generalize ceV (mo fY (cgL a)) (mas (cgL a)) = Ya at *
    generalize ceV (mo fZ (cgL a)) (mas (cgL a)) = Za at *
    generalize ceV (mo fX (cgL b)) (mas (cgL b)) = Xb at *
    generalize ceV (mo fY (cgL b)) (mas (cgL b)) = Yb at *
    generalize ceV (mo fZ (cgL b)) (mas (cgL b)) = Zb at *
    generalize mas (cgL a) = M at *
    generalize mas (cgL b) = N at *
    generalize cgL a ++ cgL b = Lj at *
    generalize cgL a = La at *
    generalize cgL b = Lb at *
    have hwm : IntKind.i64.wrap (M + N) = M + N := IntWalk.i64_in _ ⟨by omega, by omega⟩
    clear hA hB hG hna hnb hnl hNa hNb hNl hnS hS hnj hnna hnnb Ea Eb Ej a0 b0 m1 m2 la lb hmj hm
    go_enter Tryz.func4, Tryz.ntmps4
    go_upto_region 2 with (first
      | (go_at_call 5; (with_reducible refine (unhide HCa _ (by repeat' (first | (with_reducible exact up_refl _) | (with_reducible assumption) | (with_reducible refine up_alloc ?_ _) | (with_reducible refine up_drewN ?_ _) | (with_reducible refine up_drew ?_) | (with_reducible refine up_set ?_ (by first | (simp; done) | (simp; omega) | omega) _) | (refine up_trans ?_ (by with_reducible assumption))))).mono ?_); rintro e w1 ⟨⟨P, cp, rfl, hP⟩, u1⟩)
      | (go_at_call 5; (with_reducible refine (unhide HCb _ u1).mono ?_); rintro e w2 ⟨⟨Q, cq, rfl, hQ⟩, u2⟩))
    refine at_wpC (fun W1 hW1 => ?_)
    have t12 : Up w2 W1 := by rw [hW1]; exact (by repeat' (first | (with_reducible exact up_refl _) | (with_reducible assumption) | (with_reducible refine up_alloc ?_ _) | (with_reducible refine up_drewN ?_ _) | (with_reducible refine up_drew ?_) | (with_reducible refine up_set ?_ (by first | (simp; done) | (simp; omega) | omega) _) | (refine up_trans ?_ (by with_reducible assumption))))
    obtain ⟨bX, bY⟩ : Bx W1 w2.heap.size [.string cgN, .slice P na cp, .slice none 0 0, .int .i64 300] ∧ Bx W1 (w2.heap.size + 1) [.string cgN, .slice Q nb cq, .slice none 0 0, .int .i64 300] := by
      rw [hW1]
      exact ⟨bx_alloc (bx_new w2 _ _) _, bx_new1 _ _ _ _⟩
    have U1 : Up w W1 := up_trans (up_trans u1 u2) t12
    have hP1 := pcs_up hP (up_trans u2 t12)
    have hQ1 := pcs_up hQ t12
    obtain ⟨g, hg⟩ : ∃ g, w2.heap.size = g := ⟨_, rfl⟩
    rw [hg] at bX bY ⊢
    clear hW1 hP hQ u1 u2 t12 hg HCa HCb
    go_upto_region 3 with (go_at_call 6; (with_reducible refine (unhide HPl _ U1).mono ?_); rintro e w3 ⟨⟨C, ca, rfl, hSs⟩, u3⟩)
    have bX3 := bx_up bX u3
    have bY3 := bx_up bY u3
    have hP3 := pcs_up hP1 u3
    have hQ3 := pcs_up hQ1 u3
    have U3 := up_trans U1 u3
    clear bX bY hP1 hQ1 U1 u3 HPl
    have c0 := (bX3 0 _ rfl).1
    have c1 := (bX3 1 _ rfl).1
    have c2 := (bX3 2 _ rfl).1
    have c3 := (bX3 3 _ rfl).1
    have d0 := (bY3 0 _ rfl).1
    have d1 := (bY3 1 _ rfl).1
    have d2 := (bY3 2 _ rfl).1
    have d3 := (bY3 3 _ rfl).1
    go_upto_region 4 with (go_at_call 13; (with_reducible refine (unhide HJ _ _ _ _ _ hP3 hQ3).mono ?_); rintro e w4 ⟨⟨R, cr, rfl, hR⟩, u4⟩)
    refine at_wpC (fun W4 hW4 => ?_)
    have t4 : Up w4 W4 := by rw [hW4]; exact (by repeat' (first | (with_reducible exact up_refl _) | (with_reducible assumption) | (with_reducible refine up_alloc ?_ _) | (with_reducible refine up_drewN ?_ _) | (with_reducible refine up_drew ?_) | (with_reducible refine up_set ?_ (by first | (simp; done) | (simp; omega) | omega) _) | (refine up_trans ?_ (by with_reducible assumption))))
    have bJ : Bx W4 w4.heap.size [.string cgN, .slice R nj cr, .slice none 0 0, .int .i64 300] := by rw [hW4]; exact bx_new w4 _ _
    have u34 := up_trans u4 t4
    have hR4 := pcs_up hR t4
    obtain ⟨gj, hgj⟩ : ∃ g, w4.heap.size = g := ⟨_, rfl⟩
    rw [hgj] at bJ ⊢
    have bX4 := bx_up bX3 u34
    have bY4 := bx_up bY3 u34
    have hP4 := pcs_up hP3 u34
    have hQ4 := pcs_up hQ3 u34
    have hS4 := sups_up hSs u34
    have U4 := up_trans U3 u34
    clear hW4 t4 u4 u34 hR hgj bX3 bY3 hP3 hQ3 hSs U3 c0 c1 c2 c3 d0 d1 d2 d3 HJ
    by_cases hC : chE S = 0
    · have HTg2 := hide (unhide HTg hC)
      rw [hC] at HCk
      clear HTg hC
      go_upto_region 6 with (go_at_call 8; (with_reducible refine (unhide HCk _ _ _ hS4).mono ?_); rintro e w5 ⟨rfl, u5⟩)
      have bX5 := bx_up bX4 u5
      have bY5 := bx_up bY4 u5
      have bJ5 := bx_up bJ u5
      have hP5 := pcs_up hP4 u5
      have hQ5 := pcs_up hQ4 u5
      have hR5 := pcs_up hR4 u5
      have hS5 := sups_up hS4 u5
      have U5 := up_trans U4 u5
      clear bX4 bY4 bJ hP4 hQ4 hR4 hS4 U4 u5 HCk
      have c0 := (bX5 0 _ rfl).1
      have c1 := (bX5 1 _ rfl).1
      have c2 := (bX5 2 _ rfl).1
      have c3 := (bX5 3 _ rfl).1
      go_upto_region 7 with (go_at_call 10; (with_reducible refine (unhide HMa _ _ _ hP5).mono ?_); rintro e w6 ⟨rfl, u6⟩)
      clear c0 c1 c2 c3 HMa
      have bY6 := bx_up bY5 u6
      have hQ6 := pcs_up hQ5 u6
      have c0 := (bY6 0 _ rfl).1
      have c1 := (bY6 1 _ rfl).1
      have c2 := (bY6 2 _ rfl).1
      have c3 := (bY6 3 _ rfl).1
      go_upto_region 8 with (go_at_call 10; (with_reducible refine (unhide HMb _ _ _ hQ6).mono ?_); rintro e w7 ⟨rfl, u7⟩)
      clear c0 c1 c2 c3 HMb hQ6
      have u67 := up_trans u6 u7
      have bJ7 := bx_up bJ5 u67
      have hR7 := pcs_up hR5 u67
      have c0 := (bJ7 0 _ rfl).1
      have c1 := (bJ7 1 _ rfl).1
      have c2 := (bJ7 2 _ rfl).1
      have c3 := (bJ7 3 _ rfl).1
      go_upto_region 11 with (go_at_call 10; (with_reducible refine (unhide HMj _ _ _ hR7).mono ?_); rintro e w8 ⟨rfl, u8⟩)
      have u58 := up_trans u67 u8
      clear c0 c1 c2 c3 HMj hwm
      have bX8 := bx_up bX5 u58
      have bY8 := bx_up bY5 u58
      have bJ8 := bx_up bJ5 u58
      have hP8 := pcs_up hP5 u58
      have hQ8 := pcs_up hQ5 u58
      have hR8 := pcs_up hR5 u58
      have hS8 := sups_up hS5 u58
      have U8 := up_trans U5 u58
      clear bX5 bY5 bJ5 hP5 hQ5 hR5 hS5 U5 u6 u7 u8 u67 u58 bY6 bJ7 hR7
      have c0 := (bX8 0 _ rfl).1
      have c1 := (bX8 1 _ rfl).1
      have c2 := (bX8 2 _ rfl).1
      have c3 := (bX8 3 _ rfl).1
      have d0 := (bY8 0 _ rfl).1
      have d1 := (bY8 1 _ rfl).1
      have d2 := (bY8 2 _ rfl).1
      have d3 := (bY8 3 _ rfl).1
      go_upto_region 12 with fail
      refine at_wpC (fun W9 hW9 => ?_)
      have u9 : Up w8 W9 := by rw [hW9]; exact (by repeat' (first | (with_reducible exact up_refl _) | (with_reducible assumption) | (with_reducible refine up_alloc ?_ _) | (with_reducible refine up_drewN ?_ _) | (with_reducible refine up_drew ?_) | (with_reducible refine up_set ?_ (by first | (simp; done) | (simp; omega) | omega) _) | (refine up_trans ?_ (by with_reducible assumption))))
      have bL : Bx W9 w8.heap.size [.string cgN, .slice P na cp, .slice none 0 0, .int .i64 300, .string cgN, .slice Q nb cq, .slice none 0 0, .int .i64 300] := by rw [hW9]; exact bx_new w8 _ _
      obtain ⟨gl, hgl⟩ : ∃ g, w8.heap.size = g := ⟨_, rfl⟩
      rw [hgl] at bL ⊢
      have hP9 := pcs_up hP8 u9
      have hQ9 := pcs_up hQ8 u9
      have hS9 := sups_up hS8 u9
      have HR9 := hide (pcs_up hR8 u9)
      have HJ9 := hide (bx_up bJ8 u9)
      have U9 := up_trans U8 u9
      clear hW9 u9 hgl bX8 bY8 bJ8 hP8 hQ8 hR8 hS8 U8 c0 c1 c2 c3 d0 d1 d2 d3
      go_loopw [81] (fun s81 wr => TgA (Cor (fun X Y => tiE S X Y = 5) Xa Ya) (Cor (fun X Y => tiE S X Y = 5) Xb Yb) s81 ∧ Up W9 wr) (fun s81 _ => 2 - (intOf s81).toNat)
      case atStart => exact ⟨.inl rfl, up_refl _⟩
      case round =>
        obtain ⟨hs, hu⟩ := hrel
        obtain ⟨wo, rfl⟩ : ∃ wo, wo = wr := ⟨_, rfl⟩
        rcases hs with rfl | ⟨rfl, q1⟩ | ⟨rfl, q1, q2⟩
        · have bL1 := bx_up bL hu
          have c0 := (bL1 0 _ rfl).1
          have c1 := (bL1 1 _ rfl).1
          have c2 := (bL1 2 _ rfl).1
          have c3 := (bL1 3 _ rfl).1
          go_upto_region 14 with fail
          refine at_wpC (fun WA hWA => ?_)
          have uA : Up wo WA := by rw [hWA]; exact (by repeat' (first | (with_reducible exact up_refl _) | (with_reducible assumption) | (with_reducible refine up_alloc ?_ _) | (with_reducible refine up_drewN ?_ _) | (with_reducible refine up_drew ?_) | (with_reducible refine up_set ?_ (by first | (simp; done) | (simp; omega) | omega) _) | (refine up_trans ?_ (by with_reducible assumption))))
          have bA : Bx WA wo.heap.size [.string cgN, .slice P na cp, .slice none 0 0, .int .i64 300] := by rw [hWA]; exact bx_new wo _ _
          have hPA := pcs_up hP9 (up_trans hu uA)
          clear hWA c0 c1 c2 c3 bL1
          have c0 := (bA 0 _ rfl).1
          have c1 := (bA 1 _ rfl).1
          have c2 := (bA 2 _ rfl).1
          have c3 := (bA 3 _ rfl).1
          go_upto_region 15 with (go_at_call 11; (with_reducible refine (unhide HKa _ _ _ hPA).mono ?_); rintro e wB ⟨rfl, uB⟩)
          refine at_wpC (fun WC hWC => ?_)
          have uC : Up wB WC := by rw [hWC]; exact (by repeat' (first | (with_reducible exact up_refl _) | (with_reducible assumption) | (with_reducible refine up_alloc ?_ _) | (with_reducible refine up_drewN ?_ _) | (with_reducible refine up_drew ?_) | (with_reducible refine up_set ?_ (by first | (simp; done) | (simp; omega) | omega) _) | (refine up_trans ?_ (by with_reducible assumption))))
          have bK : Bx WC wB.heap.size [.int .i64 Xa, .int .i64 Ya, .int .i64 Za] := by rw [hWC]; exact bx_new wB _ _
          obtain ⟨gk, hgk⟩ : ∃ g, wB.heap.size = g := ⟨_, rfl⟩
          rw [hgk] at bK ⊢
          have uoC := up_trans (up_trans uA uB) uC
          have u9C := up_trans hu uoC
          have HSC := hide (sups_up hS9 u9C)
          have HK := hide bK
          clear hWC uA uB uC uoC c0 c1 c2 c3 bA hPA hgk bK hu
          obtain ⟨⟨x1, x2⟩, y1, y2⟩ := unhide HXa
          have HU := hide u9C
          clear u9C
          go_upto_region 18 with fail
          go_loopw [21] (fun s21 wx => TgB (fun X Y => tiE S X Y = 5) Xa Ya s21 ∧ Up WC wx) (fun s21 _ => 4 - (intOf s21).toNat)
          case atStart => exact ⟨.inl rfl, up_refl _⟩
          case round =>
            obtain ⟨ht, hv⟩ := hrel
            obtain ⟨wq, rfl⟩ : ∃ wq, wq = wr := ⟨_, rfl⟩
            have HV := hide hv
            have e0 := up_cell hv (unhide HK 0 _ rfl).1
            have e1 := up_cell hv (unhide HK 1 _ rfl).1
            have hSq := sups_up (unhide HSC) hv
            clear hv
            have v1 : IntKind.i64.wrap (Xa - 2) = Xa - 2 := IntWalk.i64_in _ ⟨by omega, by omega⟩
            have v2 : IntKind.i64.wrap (Ya - 2) = Ya - 2 := IntWalk.i64_in _ ⟨by omega, by omega⟩
            have v3 : IntKind.i64.wrap (Xa - 2 + 4) = Xa + 2 := by rw [IntWalk.i64_in _ ⟨by omega, by omega⟩]; omega
            have v4 : IntKind.i64.wrap (Ya - 2 + 4) = Ya + 2 := by rw [IntWalk.i64_in _ ⟨by omega, by omega⟩]; omega
            have HE3 := hide (show Xa - 2 + 4 = Xa + 2 by omega)
            have HE4 := hide (show Ya - 2 + 4 = Ya + 2 by omega)
            rcases ht with rfl | ⟨rfl, r1⟩ | ⟨rfl, r1, r2⟩ | ⟨rfl, r1, r2, r3⟩ | ⟨rfl, rC⟩
            · have HT := hide (unhide HTi C ca (Xa - 2) (Ya - 2) wq hSq)
              by_cases h5 : tiE S (Xa - 2) (Ya - 2) = 5
              · rw [h5] at HT
                have H5 := hide h5
                clear h5
                generalize tiV S (Xa - 2) (Ya - 2) = tv at HT
                go_wp2_with (go_at_call 14; (try rw [unhide HE3]); (try rw [unhide HE4]); (with_reducible refine (unhide HT).mono ?_); rintro e wz ⟨rfl, uz⟩)
                go_roundw
                case rel => exact ⟨by have h5 := unhide H5; exact .inr (.inl ⟨rfl, h5⟩), up_trans (unhide HV) uz⟩
                case measure => simp [intOf]
              · have tf : (tiE S (Xa - 2) (Ya - 2) == 5) = false := by simp [h5]
                have tf2 : (tiE S (Xa - 2) (Ya - 2) != 5) = true := by simp [h5]
                clear h5
                generalize tiE S (Xa - 2) (Ya - 2) = te at HT tf tf2
                generalize tiV S (Xa - 2) (Ya - 2) = tv at HT
                go_wp2_with (first
                  | (go_at_call 14; (try rw [unhide HE3]); (try rw [unhide HE4]); (with_reducible refine (unhide HT).mono ?_); rintro e wz ⟨rfl, uz⟩)
                  | (go_at_call 9; (with_reducible refine (unhide HW _).mono ?_); rintro e wy ⟨rfl, uy⟩))
                go_ret
                exact ⟨rfl, up_trans (up_trans (up_trans (up_trans U9 (unhide HU)) (unhide HV)) uz) uy⟩
            · have HR1 := hide r1
              clear r1
              have HT := hide (unhide HTi C ca (Xa + 2) (Ya - 2) wq hSq)
              by_cases h5 : tiE S (Xa + 2) (Ya - 2) = 5
              · rw [h5] at HT
                have H5 := hide h5
                clear h5
                generalize tiV S (Xa + 2) (Ya - 2) = tv at HT
                go_wp2_with (go_at_call 14; (try rw [unhide HE3]); (try rw [unhide HE4]); (with_reducible refine (unhide HT).mono ?_); rintro e wz ⟨rfl, uz⟩)
                go_roundw
                case rel => exact ⟨by have h5 := unhide H5; exact .inr (.inr (.inl ⟨rfl, unhide HR1, h5⟩)), up_trans (unhide HV) uz⟩
                case measure => simp [intOf]
              · have tf : (tiE S (Xa + 2) (Ya - 2) == 5) = false := by simp [h5]
                have tf2 : (tiE S (Xa + 2) (Ya - 2) != 5) = true := by simp [h5]
                clear h5
                generalize tiE S (Xa + 2) (Ya - 2) = te at HT tf tf2
                generalize tiV S (Xa + 2) (Ya - 2) = tv at HT
                go_wp2_with (first
                  | (go_at_call 14; (try rw [unhide HE3]); (try rw [unhide HE4]); (with_reducible refine (unhide HT).mono ?_); rintro e wz ⟨rfl, uz⟩)
                  | (go_at_call 9; (with_reducible refine (unhide HW _).mono ?_); rintro e wy ⟨rfl, uy⟩))
                go_ret
                exact ⟨rfl, up_trans (up_trans (up_trans (up_trans U9 (unhide HU)) (unhide HV)) uz) uy⟩
            · have HR1 := hide (⟨r1, r2⟩ : _ ∧ _)
              clear r1 r2
              have HT := hide (unhide HTi C ca (Xa - 2) (Ya + 2) wq hSq)
              by_cases h5 : tiE S (Xa - 2) (Ya + 2) = 5
              · rw [h5] at HT
                have H5 := hide h5
                clear h5
                generalize tiV S (Xa - 2) (Ya + 2) = tv at HT
                go_wp2_with (go_at_call 14; (try rw [unhide HE3]); (try rw [unhide HE4]); (with_reducible refine (unhide HT).mono ?_); rintro e wz ⟨rfl, uz⟩)
                go_roundw
                case rel => exact ⟨by have h5 := unhide H5; exact .inr (.inr (.inr (.inl ⟨rfl, (unhide HR1).1, (unhide HR1).2, h5⟩))), up_trans (unhide HV) uz⟩
                case measure => simp [intOf]
              · have tf : (tiE S (Xa - 2) (Ya + 2) == 5) = false := by simp [h5]
                have tf2 : (tiE S (Xa - 2) (Ya + 2) != 5) = true := by simp [h5]
                clear h5
                generalize tiE S (Xa - 2) (Ya + 2) = te at HT tf tf2
                generalize tiV S (Xa - 2) (Ya + 2) = tv at HT
                go_wp2_with (first
                  | (go_at_call 14; (try rw [unhide HE3]); (try rw [unhide HE4]); (with_reducible refine (unhide HT).mono ?_); rintro e wz ⟨rfl, uz⟩)
                  | (go_at_call 9; (with_reducible refine (unhide HW _).mono ?_); rintro e wy ⟨rfl, uy⟩))
                go_ret
                exact ⟨rfl, up_trans (up_trans (up_trans (up_trans U9 (unhide HU)) (unhide HV)) uz) uy⟩
            · have HR1 := hide (⟨r1, r2, r3⟩ : _ ∧ _ ∧ _)
              clear r1 r2 r3
              have HT := hide (unhide HTi C ca (Xa + 2) (Ya + 2) wq hSq)
              by_cases h5 : tiE S (Xa + 2) (Ya + 2) = 5
              · rw [h5] at HT
                have H5 := hide h5
                clear h5
                generalize tiV S (Xa + 2) (Ya + 2) = tv at HT
                go_wp2_with (go_at_call 14; (try rw [unhide HE3]); (try rw [unhide HE4]); (with_reducible refine (unhide HT).mono ?_); rintro e wz ⟨rfl, uz⟩)
                go_roundw
                case rel => exact ⟨by have h5 := unhide H5; exact .inr (.inr (.inr (.inr ⟨rfl, (unhide HR1).1, (unhide HR1).2.1, (unhide HR1).2.2, h5⟩))), up_trans (unhide HV) uz⟩
                case measure => simp [intOf]
              · have tf : (tiE S (Xa + 2) (Ya + 2) == 5) = false := by simp [h5]
                have tf2 : (tiE S (Xa + 2) (Ya + 2) != 5) = true := by simp [h5]
                clear h5
                generalize tiE S (Xa + 2) (Ya + 2) = te at HT tf tf2
                generalize tiV S (Xa + 2) (Ya + 2) = tv at HT
                go_wp2_with (first
                  | (go_at_call 14; (try rw [unhide HE3]); (try rw [unhide HE4]); (with_reducible refine (unhide HT).mono ?_); rintro e wz ⟨rfl, uz⟩)
                  | (go_at_call 9; (with_reducible refine (unhide HW _).mono ?_); rintro e wy ⟨rfl, uy⟩))
                go_ret
                exact ⟨rfl, up_trans (up_trans (up_trans (up_trans U9 (unhide HU)) (unhide HV)) uz) uy⟩
            · have HRC := hide rC
              clear rC e0 e1 v1 v2 v3 v4
              go_wp2_with fail
              go_roundw
              case rel => exact ⟨.inr (.inl ⟨rfl, unhide HRC⟩), up_trans (unhide HU) (unhide HV)⟩
              case measure => simp [intOf]
        · have HQ1 := hide q1
          clear q1
          have bL1 := bx_up bL hu
          have c0 := (bL1 4 _ rfl).1
          have c1 := (bL1 5 _ rfl).1
          have c2 := (bL1 6 _ rfl).1
          have c3 := (bL1 7 _ rfl).1
          go_upto_region 14 with fail
          refine at_wpC (fun WA hWA => ?_)
          have uA : Up wo WA := by rw [hWA]; exact (by repeat' (first | (with_reducible exact up_refl _) | (with_reducible assumption) | (with_reducible refine up_alloc ?_ _) | (with_reducible refine up_drewN ?_ _) | (with_reducible refine up_drew ?_) | (with_reducible refine up_set ?_ (by first | (simp; done) | (simp; omega) | omega) _) | (refine up_trans ?_ (by with_reducible assumption))))
          have bA : Bx WA wo.heap.size [.string cgN, .slice Q nb cq, .slice none 0 0, .int .i64 300] := by rw [hWA]; exact bx_new wo _ _
          have hPA := pcs_up hQ9 (up_trans hu uA)
          clear hWA c0 c1 c2 c3 bL1
          have c0 := (bA 0 _ rfl).1
          have c1 := (bA 1 _ rfl).1
          have c2 := (bA 2 _ rfl).1
          have c3 := (bA 3 _ rfl).1
          go_upto_region 15 with (go_at_call 11; (with_reducible refine (unhide HKb _ _ _ hPA).mono ?_); rintro e wB ⟨rfl, uB⟩)
          refine at_wpC (fun WC hWC => ?_)
          have uC : Up wB WC := by rw [hWC]; exact (by repeat' (first | (with_reducible exact up_refl _) | (with_reducible assumption) | (with_reducible refine up_alloc ?_ _) | (with_reducible refine up_drewN ?_ _) | (with_reducible refine up_drew ?_) | (with_reducible refine up_set ?_ (by first | (simp; done) | (simp; omega) | omega) _) | (refine up_trans ?_ (by with_reducible assumption))))
          have bK : Bx WC wB.heap.size [.int .i64 Xb, .int .i64 Yb, .int .i64 Zb] := by rw [hWC]; exact bx_new wB _ _
          obtain ⟨gk, hgk⟩ : ∃ g, wB.heap.size = g := ⟨_, rfl⟩
          rw [hgk] at bK ⊢
          have uoC := up_trans (up_trans uA uB) uC
          have u9C := up_trans hu uoC
          have HSC := hide (sups_up hS9 u9C)
          have HK := hide bK
          clear hWC uA uB uC uoC c0 c1 c2 c3 bA hPA hgk bK hu
          obtain ⟨⟨x1, x2⟩, y1, y2⟩ := unhide HXb
          have HU := hide u9C
          clear u9C
          go_upto_region 18 with fail
          go_loopw [21] (fun s21 wx => TgB (fun X Y => tiE S X Y = 5) Xb Yb s21 ∧ Up WC wx) (fun s21 _ => 4 - (intOf s21).toNat)
          case atStart => exact ⟨.inl rfl, up_refl _⟩
          case round =>
            obtain ⟨ht, hv⟩ := hrel
            obtain ⟨wq, rfl⟩ : ∃ wq, wq = wr := ⟨_, rfl⟩
            have HV := hide hv
            have e0 := up_cell hv (unhide HK 0 _ rfl).1
            have e1 := up_cell hv (unhide HK 1 _ rfl).1
            have hSq := sups_up (unhide HSC) hv
            clear hv
            have v1 : IntKind.i64.wrap (Xb - 2) = Xb - 2 := IntWalk.i64_in _ ⟨by omega, by omega⟩
            have v2 : IntKind.i64.wrap (Yb - 2) = Yb - 2 := IntWalk.i64_in _ ⟨by omega, by omega⟩
            have v3 : IntKind.i64.wrap (Xb - 2 + 4) = Xb + 2 := by rw [IntWalk.i64_in _ ⟨by omega, by omega⟩]; omega
            have v4 : IntKind.i64.wrap (Yb - 2 + 4) = Yb + 2 := by rw [IntWalk.i64_in _ ⟨by omega, by omega⟩]; omega
            have HE3 := hide (show Xb - 2 + 4 = Xb + 2 by omega)
            have HE4 := hide (show Yb - 2 + 4 = Yb + 2 by omega)
            rcases ht with rfl | ⟨rfl, r1⟩ | ⟨rfl, r1, r2⟩ | ⟨rfl, r1, r2, r3⟩ | ⟨rfl, rC⟩
            · have HT := hide (unhide HTi C ca (Xb - 2) (Yb - 2) wq hSq)
              by_cases h5 : tiE S (Xb - 2) (Yb - 2) = 5
              · rw [h5] at HT
                have H5 := hide h5
                clear h5
                generalize tiV S (Xb - 2) (Yb - 2) = tv at HT
                go_wp2_with (go_at_call 14; (try rw [unhide HE3]); (try rw [unhide HE4]); (with_reducible refine (unhide HT).mono ?_); rintro e wz ⟨rfl, uz⟩)
                go_roundw
                case rel => exact ⟨by have h5 := unhide H5; exact .inr (.inl ⟨rfl, h5⟩), up_trans (unhide HV) uz⟩
                case measure => simp [intOf]
              · have tf : (tiE S (Xb - 2) (Yb - 2) == 5) = false := by simp [h5]
                have tf2 : (tiE S (Xb - 2) (Yb - 2) != 5) = true := by simp [h5]
                clear h5
                generalize tiE S (Xb - 2) (Yb - 2) = te at HT tf tf2
                generalize tiV S (Xb - 2) (Yb - 2) = tv at HT
                go_wp2_with (first
                  | (go_at_call 14; (try rw [unhide HE3]); (try rw [unhide HE4]); (with_reducible refine (unhide HT).mono ?_); rintro e wz ⟨rfl, uz⟩)
                  | (go_at_call 9; (with_reducible refine (unhide HW _).mono ?_); rintro e wy ⟨rfl, uy⟩))
                go_ret
                exact ⟨rfl, up_trans (up_trans (up_trans (up_trans U9 (unhide HU)) (unhide HV)) uz) uy⟩
            · have HR1 := hide r1
              clear r1
              have HT := hide (unhide HTi C ca (Xb + 2) (Yb - 2) wq hSq)
              by_cases h5 : tiE S (Xb + 2) (Yb - 2) = 5
              · rw [h5] at HT
                have H5 := hide h5
                clear h5
                generalize tiV S (Xb + 2) (Yb - 2) = tv at HT
                go_wp2_with (go_at_call 14; (try rw [unhide HE3]); (try rw [unhide HE4]); (with_reducible refine (unhide HT).mono ?_); rintro e wz ⟨rfl, uz⟩)
                go_roundw
                case rel => exact ⟨by have h5 := unhide H5; exact .inr (.inr (.inl ⟨rfl, unhide HR1, h5⟩)), up_trans (unhide HV) uz⟩
                case measure => simp [intOf]
              · have tf : (tiE S (Xb + 2) (Yb - 2) == 5) = false := by simp [h5]
                have tf2 : (tiE S (Xb + 2) (Yb - 2) != 5) = true := by simp [h5]
                clear h5
                generalize tiE S (Xb + 2) (Yb - 2) = te at HT tf tf2
                generalize tiV S (Xb + 2) (Yb - 2) = tv at HT
                go_wp2_with (first
                  | (go_at_call 14; (try rw [unhide HE3]); (try rw [unhide HE4]); (with_reducible refine (unhide HT).mono ?_); rintro e wz ⟨rfl, uz⟩)
                  | (go_at_call 9; (with_reducible refine (unhide HW _).mono ?_); rintro e wy ⟨rfl, uy⟩))
                go_ret
                exact ⟨rfl, up_trans (up_trans (up_trans (up_trans U9 (unhide HU)) (unhide HV)) uz) uy⟩
            · have HR1 := hide (⟨r1, r2⟩ : _ ∧ _)
              clear r1 r2
              have HT := hide (unhide HTi C ca (Xb - 2) (Yb + 2) wq hSq)
              by_cases h5 : tiE S (Xb - 2) (Yb + 2) = 5
              · rw [h5] at HT
                have H5 := hide h5
                clear h5
                generalize tiV S (Xb - 2) (Yb + 2) = tv at HT
                go_wp2_with (go_at_call 14; (try rw [unhide HE3]); (try rw [unhide HE4]); (with_reducible refine (unhide HT).mono ?_); rintro e wz ⟨rfl, uz⟩)
                go_roundw
                case rel => exact ⟨by have h5 := unhide H5; exact .inr (.inr (.inr (.inl ⟨rfl, (unhide HR1).1, (unhide HR1).2, h5⟩))), up_trans (unhide HV) uz⟩
                case measure => simp [intOf]
              · have tf : (tiE S (Xb - 2) (Yb + 2) == 5) = false := by simp [h5]
                have tf2 : (tiE S (Xb - 2) (Yb + 2) != 5) = true := by simp [h5]
                clear h5
                generalize tiE S (Xb - 2) (Yb + 2) = te at HT tf tf2
                generalize tiV S (Xb - 2) (Yb + 2) = tv at HT
                go_wp2_with (first
                  | (go_at_call 14; (try rw [unhide HE3]); (try rw [unhide HE4]); (with_reducible refine (unhide HT).mono ?_); rintro e wz ⟨rfl, uz⟩)
                  | (go_at_call 9; (with_reducible refine (unhide HW _).mono ?_); rintro e wy ⟨rfl, uy⟩))
                go_ret
                exact ⟨rfl, up_trans (up_trans (up_trans (up_trans U9 (unhide HU)) (unhide HV)) uz) uy⟩
            · have HR1 := hide (⟨r1, r2, r3⟩ : _ ∧ _ ∧ _)
              clear r1 r2 r3
              have HT := hide (unhide HTi C ca (Xb + 2) (Yb + 2) wq hSq)
              by_cases h5 : tiE S (Xb + 2) (Yb + 2) = 5
              · rw [h5] at HT
                have H5 := hide h5
                clear h5
                generalize tiV S (Xb + 2) (Yb + 2) = tv at HT
                go_wp2_with (go_at_call 14; (try rw [unhide HE3]); (try rw [unhide HE4]); (with_reducible refine (unhide HT).mono ?_); rintro e wz ⟨rfl, uz⟩)
                go_roundw
                case rel => exact ⟨by have h5 := unhide H5; exact .inr (.inr (.inr (.inr ⟨rfl, (unhide HR1).1, (unhide HR1).2.1, (unhide HR1).2.2, h5⟩))), up_trans (unhide HV) uz⟩
                case measure => simp [intOf]
              · have tf : (tiE S (Xb + 2) (Yb + 2) == 5) = false := by simp [h5]
                have tf2 : (tiE S (Xb + 2) (Yb + 2) != 5) = true := by simp [h5]
                clear h5
                generalize tiE S (Xb + 2) (Yb + 2) = te at HT tf tf2
                generalize tiV S (Xb + 2) (Yb + 2) = tv at HT
                go_wp2_with (first
                  | (go_at_call 14; (try rw [unhide HE3]); (try rw [unhide HE4]); (with_reducible refine (unhide HT).mono ?_); rintro e wz ⟨rfl, uz⟩)
                  | (go_at_call 9; (with_reducible refine (unhide HW _).mono ?_); rintro e wy ⟨rfl, uy⟩))
                go_ret
                exact ⟨rfl, up_trans (up_trans (up_trans (up_trans U9 (unhide HU)) (unhide HV)) uz) uy⟩
            · have HRC := hide rC
              clear rC e0 e1 v1 v2 v3 v4
              go_wp2_with fail
              go_roundw
              case rel => exact ⟨.inr (.inr ⟨rfl, unhide HQ1, unhide HRC⟩), up_trans (unhide HU) (unhide HV)⟩
              case measure => simp [intOf]
        · have h5 := unhide HTg2 q1 q2
          have U10 := up_trans U9 hu
          have bJ := bx_up (unhide HJ9) hu
          have hRr := pcs_up (unhide HR9) hu
          have hSr := sups_up hS9 hu
          have c0 := (bJ 0 _ rfl).1
          have c1 := (bJ 1 _ rfl).1
          have c2 := (bJ 2 _ rfl).1
          have c3 := (bJ 3 _ rfl).1
          clear q1 q2
          have HT := hide (fun W (hW : Up wo W) => unhide HTi C ca Xj Yj W (sups_up hSr hW))
          rw [h5] at HT
          clear h5
          generalize tiV S Xj Yj = tv at HT
          go_wp2_with (first
            | (go_at_call 11; (with_reducible refine (unhide HKj _ _ _ hRr).mono ?_); rintro e wz ⟨rfl, uz⟩; clear c0 c1 c2 c3; obtain ⟨c0, c1, c2⟩ := bx3 (bx_new wz [.int .i64 Xj, .int .i64 Yj, .int .i64 Zj] 31))
            | (go_at_call 14; (with_reducible refine (unhide HT _ (by repeat' (first | (with_reducible exact up_refl _) | (with_reducible assumption) | (with_reducible refine up_alloc ?_ _) | (with_reducible refine up_drewN ?_ _) | (with_reducible refine up_drew ?_) | (with_reducible refine up_set ?_ (by first | (simp; done) | (simp; omega) | omega) _) | (refine up_trans ?_ (by with_reducible assumption))))).mono ?_); rintro e wy ⟨rfl, uy⟩)
            | (go_at_call 9; (with_reducible refine (unhide HW _).mono ?_); rintro e wv ⟨rfl, uv⟩))
          go_ret
          exact ⟨rfl, up_trans (up_trans (up_trans U10 uz) (up_trans (up_alloc (up_refl _) _) uy)) uv⟩
    · have t1 : (chE S == 0) = false := by simp [hC]
      have t2 : (chE S != 0) = true := by simp [hC]
      generalize chE S = E0 at *
      clear hC HTg
      go_wp2_with (first
        | (go_at_call 8; (with_reducible refine (unhide HCk _ _ _ hS4).mono ?_); rintro e w5 ⟨rfl, u5⟩)
        | (go_at_call 9; (with_reducible refine (unhide HW _).mono ?_); rintro e w6 ⟨rfl, u6⟩))
      go_ret
      exact ⟨rfl, up_trans (up_trans U4 u5) u6⟩
  · have hE : loE cgN (cgL a) [] 300 = 6 ∨ (loE cgN (cgL a) [] 300 = 0 ∧ loE cgN (cgL b) [] 300 = 6) := by
      by_cases a0 : a = []
      · left
        rw [a0]
        exact cg_lo6
      · right
        have b0 : b = [] := by
          apply Decidable.byContradiction
          intro b0
          exact hne ⟨a0, b0⟩
        refine ⟨cg_lo0 hA.2 a0, ?_⟩
        rw [b0]
        exact cg_lo6
    have HJ := hide (fun P1 P2 d1 d2 W (h1 : Pcs W P1 (cgL a)) (h2 : Pcs W P2 (cgL b)) => p_JoinedE P1 P2 (cgL a) (cgL b) d1 d2 W h1 h2 hE (by omega) (by omega))
    obtain ⟨nS, hnS⟩ : ∃ n, S.length = n := ⟨_, rfl⟩
    rw [hnS] at HPl HCk HTi hS12
    obtain ⟨Na, hNa⟩ : ∃ N, a.length = N := ⟨_, rfl⟩
    rw [hNa] at HCa hna ⊢
    obtain ⟨Nb, hNb⟩ : ∃ N, b.length = N := ⟨_, rfl⟩
    rw [hNb] at HCb hnb ⊢
    obtain ⟨Nl, hNl⟩ : ∃ N, ls.length = N := ⟨_, rfl⟩
    rw [hNl] at HPl hnl ⊢
    obtain ⟨na, hnna⟩ : ∃ n, (cgL a).length = n := ⟨_, rfl⟩
    obtain ⟨nb, hnnb⟩ : ∃ n, (cgL b).length = n := ⟨_, rfl⟩
    rw [hnna] at HCa HJ la
    rw [hnnb] at HCb HJ lb
    generalize cgL a = La at *
    generalize cgL b = Lb at *
    clear hA hB hG hna hnb hnl hNa hNb hNl hnS hS hnna hnnb la lb hE hne HCk HTi
    go_enter Tryz.func4, Tryz.ntmps4
    go_upto_region 2 with (first
      | (go_at_call 5; (with_reducible refine (unhide HCa _ (by repeat' (first | (with_reducible exact up_refl _) | (with_reducible assumption) | (with_reducible refine up_alloc ?_ _) | (with_reducible refine up_drewN ?_ _) | (with_reducible refine up_drew ?_) | (with_reducible refine up_set ?_ (by first | (simp; done) | (simp; omega) | omega) _) | (refine up_trans ?_ (by with_reducible assumption))))).mono ?_); rintro e w1 ⟨⟨P, cp, rfl, hP⟩, u1⟩)
      | (go_at_call 5; (with_reducible refine (unhide HCb _ u1).mono ?_); rintro e w2 ⟨⟨Q, cq, rfl, hQ⟩, u2⟩))
    refine at_wpC (fun W1 hW1 => ?_)
    have t12 : Up w2 W1 := by rw [hW1]; exact (by repeat' (first | (with_reducible exact up_refl _) | (with_reducible assumption) | (with_reducible refine up_alloc ?_ _) | (with_reducible refine up_drewN ?_ _) | (with_reducible refine up_drew ?_) | (with_reducible refine up_set ?_ (by first | (simp; done) | (simp; omega) | omega) _) | (refine up_trans ?_ (by with_reducible assumption))))
    obtain ⟨bX, bY⟩ : Bx W1 w2.heap.size [.string cgN, .slice P na cp, .slice none 0 0, .int .i64 300] ∧ Bx W1 (w2.heap.size + 1) [.string cgN, .slice Q nb cq, .slice none 0 0, .int .i64 300] := by
      rw [hW1]
      exact ⟨bx_alloc (bx_new w2 _ _) _, bx_new1 _ _ _ _⟩
    have U1 : Up w W1 := up_trans (up_trans u1 u2) t12
    have hP1 := pcs_up hP (up_trans u2 t12)
    have hQ1 := pcs_up hQ t12
    obtain ⟨g, hg⟩ : ∃ g, w2.heap.size = g := ⟨_, rfl⟩
    rw [hg] at bX bY ⊢
    clear hW1 hP hQ u1 u2 t12 hg HCa HCb
    go_upto_region 3 with (go_at_call 6; (with_reducible refine (unhide HPl _ U1).mono ?_); rintro e w3 ⟨⟨C, ca, rfl, hSs⟩, u3⟩)
    have bX3 := bx_up bX u3
    have bY3 := bx_up bY u3
    have hP3 := pcs_up hP1 u3
    have hQ3 := pcs_up hQ1 u3
    have U3 := up_trans U1 u3
    clear bX bY hP1 hQ1 U1 u3 HPl
    have c0 := (bX3 0 _ rfl).1
    have c1 := (bX3 1 _ rfl).1
    have c2 := (bX3 2 _ rfl).1
    have c3 := (bX3 3 _ rfl).1
    have d0 := (bY3 0 _ rfl).1
    have d1 := (bY3 1 _ rfl).1
    have d2 := (bY3 2 _ rfl).1
    have d3 := (bY3 3 _ rfl).1
    go_wp2_with (first
      | (go_at_call 13; (with_reducible refine (unhide HJ _ _ _ _ _ hP3 hQ3).mono ?_); rintro e w4 ⟨rfl, u4⟩)
      | (go_at_call 9; (with_reducible refine (unhide HW _).mono ?_); rintro e w6 ⟨rfl, u6⟩))
    go_ret
    exact ⟨rfl, up_trans (up_trans U3 u4) (up_trans (up_alloc (up_refl _) _) u6)⟩
end Go.Proofs.YtooochbfnmmnkaaGreat
