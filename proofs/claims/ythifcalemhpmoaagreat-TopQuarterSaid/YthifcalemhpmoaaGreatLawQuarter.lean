/- TopQuarter: the law's function returns true. -/
import Derived.Test.YthifcalemhpmoaaGreatQtR
import Derived.Test.YthifcalemhpmoaaGreatPkHulls
import Derived.Test.YthifcalemhpmoaaGreatWk5
import Derived.Test.YthifcalemhpmoaaGreatUpQ
import Derived.Test.YthifcalemhpmoaaGreatPkFeetB
import Derived.Deep.Cut
import Derived.Deep.DeepCutAuto
namespace Go.Proofs.YthifcalemhpmoaaGreat
open Go.RowKit Go.Proofs.Gn
attribute [local go_sem] Oper.semAt_some
set_option linter.unusedVariables false
set_option maxRecDepth 100000 in
set_option maxHeartbeats 32000000 in
theorem l_Quarter0 (A : Option Addr) (cap : Nat) (Al : Option Addr) (nl : Nat) (capl : Nat) (lift : Int) (w : World) :
    Calls Tryz.prog 3 #[.slice A 0 cap, .slice Al nl capl, .int .u8 lift] w fun e w' => e = .returned (.bool true) ∧ Up w w' := by
  have HCg := hide (fun W (hW : Up w W) => p_cargo A [] cap W (.inl rfl) (by simp) (by simp))
  have HW := hide (fun W => p_works05 W)
  have HCe := hide (fun P cp W (hP : Pcs W P (cgL [])) => p_centreC [] P cp W hP)
  rw [cg_lo6] at HCe
  generalize upK fX [] = k0 at *
  generalize upK fY [] = k1 at *
  generalize upK fZ [] = k2 at *
  have e0 : (cgL []).length = 0 := rfl
  rw [e0] at HCg HCe
  simp only [List.length_nil] at HCg
  clear e0
  go_enter Tryz.func3, Tryz.ntmps3
  go_upto_region 2 with (go_at_call 5; (with_reducible refine (unhide HCg _ (by repeat' (first | (with_reducible exact up_refl _) | (with_reducible assumption) | (with_reducible refine up_alloc ?_ _) | (with_reducible refine up_drewN ?_ _) | (with_reducible refine up_drew ?_) | (with_reducible refine up_set ?_ (by first | (simp; done) | (simp; omega) | omega) _) | (refine up_trans ?_ (by with_reducible assumption))))).mono ?_); rintro e w2 ⟨⟨P, cp, rfl, hP⟩, u2⟩)
  refine at_wpC (fun W1 hW1 => ?_)
  have U1 : Up w W1 := by rw [hW1]; exact (by repeat' (first | (with_reducible exact up_refl _) | (with_reducible assumption) | (with_reducible refine up_alloc ?_ _) | (with_reducible refine up_drewN ?_ _) | (with_reducible refine up_drew ?_) | (with_reducible refine up_set ?_ (by first | (simp; done) | (simp; omega) | omega) _) | (refine up_trans ?_ (by with_reducible assumption))))
  have bX : Bx W1 w2.heap.size [.string cgN, .slice P 0 cp, .slice none 0 0, .int .i64 300] := by rw [hW1]; exact bx_new w2 _ _
  have hP1 := pcs_up hP (show Up w2 W1 by rw [hW1]; exact (by repeat' (first | (with_reducible exact up_refl _) | (with_reducible assumption) | (with_reducible refine up_alloc ?_ _) | (with_reducible refine up_drewN ?_ _) | (with_reducible refine up_drew ?_) | (with_reducible refine up_set ?_ (by first | (simp; done) | (simp; omega) | omega) _) | (refine up_trans ?_ (by with_reducible assumption)))))
  obtain ⟨g, hg⟩ : ∃ g, w2.heap.size = g := ⟨_, rfl⟩
  rw [hg] at bX ⊢
  clear hW1 hP u2 hg
  have c0 := (bX 0 _ rfl).1
  have c1 := (bX 1 _ rfl).1
  have c2 := (bX 2 _ rfl).1
  have c3 := (bX 3 _ rfl).1
  go_wp2_with (first
    | (go_at_call 6; (with_reducible refine (unhide HCe _ _ _ hP1).mono ?_); rintro e w7 ⟨rfl, u7⟩)
    | (go_at_call 7; (with_reducible refine (unhide HW _).mono ?_); rintro e w8 ⟨rfl, u8⟩))
  go_ret
  exact ⟨rfl, up_trans (up_trans U1 u7) (up_trans (up_alloc (up_refl _) _) u8)⟩
set_option maxRecDepth 100000 in
set_option maxHeartbeats 32000000 in
theorem l_Quarter1 (A : Option Addr) (bs : List Bxe) (cap : Nat) (Al : Option Addr) (ls : List (Int × Int)) (capl : Nat) (lift : Int) (w : World) (h : BxsOk w A bs) (hn : bs.length ≤ 9223372036854775807) (hG : QtsOk w Al ls) (hnl : ls.length ≤ 9223372036854775807) (hL : 0 ≤ lift ∧ lift ≤ 255) (h0 : bs ≠ []) :
    Calls Tryz.prog 3 #[.slice A bs.length cap, .slice Al ls.length capl, .int .u8 lift] w fun e w' => e = .returned (.bool true) ∧ Up w w' := by
  have hlo := cg_lo0 h.2 h0
  have hlt := lo_tr hlo
  have hln := cgL_len bs
  obtain ⟨S, hS⟩ : ∃ S, qtL lift ls = S := ⟨_, rfl⟩
  have hS8 := qtL_len lift ls
  rw [hS] at hS8
  have HCg := hide (fun W (hW : Up w W) => p_cargo A bs cap W (bxes_up h.1 hW) h.2 hn)
  have HW := hide (fun W => p_works05 W)
  have HCx := hide (fun P cp W (hP : Pcs W P (cgL bs)) => p_centreG (cgL bs) P cp W hP (by omega) hlo)
  have HCy := hide (fun P cp W (hP : Pcs W P ((cgL bs).map trP)) => p_centreG ((cgL bs).map trP) P cp W hP (by rw [List.length_map]; omega) hlt)
  have HT := hide (fun P cp W (hP : Pcs W P (cgL bs)) => p_Turned P (cgL bs) cp W hP hlo)
  have HM := hide (fun P cp W (hP : Pcs W P (cgL bs)) => p_massG (cgL bs) P cp W hP (by omega) hlo)
  have HS1 := hide (fun C ca P cp W (hSs : Sups W C S) (hP : Pcs W P (cgL bs)) => p_Stands C S ca cgN P (cgL bs) cp none [] 0 300 0 0 0 0 W hSs hP (.inl rfl) (by omega) (by omega) (by simp))
  have HS2 := hide (fun C ca P cp W (hSs : Sups W C (S.map trS)) (hP : Pcs W P ((cgL bs).map trP)) => p_Stands C (S.map trS) ca cgN P ((cgL bs).map trP) cp none [] 0 300 0 0 0 0 W hSs hP (.inl rfl) (by rw [List.length_map]; omega) (by rw [List.length_map]; omega) (by simp))
  have HS4 := hide (fun C ca P cp W (hSs : Sups W C (sq4 (ceV (mo fX (cgL bs)) (mas (cgL bs))) (ceV (mo fY (cgL bs)) (mas (cgL bs))) (lift + 1))) (hP : Pcs W P (cgL bs)) => p_Stands C (sq4 (ceV (mo fX (cgL bs)) (mas (cgL bs))) (ceV (mo fY (cgL bs)) (mas (cgL bs))) (lift + 1)) ca cgN P (cgL bs) cp none [] 0 300 0 0 0 0 W hSs hP (.inl rfl) (by show 4 ≤ _; omega) (by omega) (by simp))
  obtain ⟨f0, f1, f2, f3⟩ := qt_four h.2 h0 (s := lift + 1) (by omega)
  rw [f0, f1, f2, f3] at HS4
  have HEq := hide (fun x => qt_same (S := S) (L := cgL bs) hlo x)
  obtain ⟨bk0, bk1⟩ := cg_ce h.2 h0
  have hm : 1 ≤ mas (cgL bs) ∧ mas (cgL bs) ≤ 32000 := by
    have a := cgL_mas h.2
    have b := hln.2 h0
    omega
  simp only [mas_tr, moX_tr, moY_tr, moZ_tr, List.length_map] at HCy HS2
  simp only [List.length_nil] at HS1 HS2 HS4
  rw [show (sq4 (ceV (mo fX (cgL bs)) (mas (cgL bs))) (ceV (mo fY (cgL bs)) (mas (cgL bs))) (lift + 1)).length = 4 from rfl] at HS4
  generalize sdE (S.map trS) cgN ((cgL bs).map trP) [] 300 0 0 0 0 = G' at *
  generalize sdV (S.map trS) cgN ((cgL bs).map trP) [] 300 0 0 0 0 pa0 = r0' at *
  generalize sdV (S.map trS) cgN ((cgL bs).map trP) [] 300 0 0 0 0 pa1 = r1' at *
  generalize sdV (S.map trS) cgN ((cgL bs).map trP) [] 300 0 0 0 0 pa2 = r2' at *
  generalize sdE S cgN (cgL bs) [] 300 0 0 0 0 = G at *
  generalize sdV S cgN (cgL bs) [] 300 0 0 0 0 pa0 = r0 at *
  generalize sdV S cgN (cgL bs) [] 300 0 0 0 0 pa1 = r1 at *
  generalize sdV S cgN (cgL bs) [] 300 0 0 0 0 pa2 = r2 at *
  generalize ceV (-(mo fY (cgL bs))) (mas (cgL bs)) = d0 at *
  generalize ceV (mo fX (cgL bs)) (mas (cgL bs)) = k0 at *
  generalize ceV (mo fY (cgL bs)) (mas (cgL bs)) = k1 at *
  generalize ceV (mo fZ (cgL bs)) (mas (cgL bs)) = k2 at *
  generalize mas (cgL bs) = m at *
  obtain ⟨N, hN⟩ : ∃ N, bs.length = N := ⟨_, rfl⟩
  rw [hN] at HCg hn ⊢
  obtain ⟨n, hnn⟩ : ∃ n, (cgL bs).length = n := ⟨_, rfl⟩
  rw [hnn] at HCg HCx HCy HT HM HS1 HS2 HS4
  obtain ⟨nS, hnS⟩ : ∃ n, S.length = n := ⟨_, rfl⟩
  rw [hnS] at HS1 HS2 hS8
  obtain ⟨Nl, hNl⟩ : ∃ N, ls.length = N := ⟨_, rfl⟩
  rw [hNl] at hnl ⊢
  have HNl := hide hNl
  have HnS := hide hnS
  have HSS := hide hS
  have HQ := hide hG.1
  have HQb := hide hG.2
  have x1 : IntKind.i64.wrap (-k1) = -k1 := IntWalk.i64_in _ ⟨by omega, by omega⟩
  have x2 : IntKind.i64.wrap lift = lift := IntWalk.i64_in _ ⟨by omega, by omega⟩
  have x3 : IntKind.i64.wrap (lift + 1) = lift + 1 := IntWalk.i64_in _ ⟨by omega, by omega⟩
  have x4 : IntKind.i64.wrap (k0 - (lift + 1)) = k0 - (lift + 1) := IntWalk.i64_in _ ⟨by omega, by omega⟩
  have x5 : IntKind.i64.wrap (k0 + (lift + 1)) = k0 + (lift + 1) := IntWalk.i64_in _ ⟨by omega, by omega⟩
  have x6 : IntKind.i64.wrap (k1 - (lift + 1)) = k1 - (lift + 1) := IntWalk.i64_in _ ⟨by omega, by omega⟩
  have x7 : IntKind.i64.wrap (k1 + (lift + 1)) = k1 + (lift + 1) := IntWalk.i64_in _ ⟨by omega, by omega⟩
  have x8 : IntKind.i64.wrap (m + 3) = m + 3 := IntWalk.i64_in _ ⟨by omega, by omega⟩
  have HX := hide (⟨x1, x2, x3, x4, x5, x6, x7, x8⟩ : _ ∧ _ ∧ _ ∧ _ ∧ _ ∧ _ ∧ _ ∧ _)
  clear x1 x2 x3 x4 x5 x6 x7 x8 h hG hlo hlt hln h0 f0 f1 f2 f3 hN hnn hnS hNl hS
  obtain ⟨i0', hi, hz0, hz1, hz2⟩ := info_parts info_sp
  have HI := hide hi
  clear hi
  go_enter Tryz.func3, Tryz.ntmps3
  go_upto_region 2 with (go_at_call 5; (with_reducible refine (unhide HCg _ (by repeat' (first | (with_reducible exact up_refl _) | (with_reducible assumption) | (with_reducible refine up_alloc ?_ _) | (with_reducible refine up_drewN ?_ _) | (with_reducible refine up_drew ?_) | (with_reducible refine up_set ?_ (by first | (simp; done) | (simp; omega) | omega) _) | (refine up_trans ?_ (by with_reducible assumption))))).mono ?_); rintro e w2 ⟨⟨P, cp, rfl, hP⟩, u2⟩)
  refine at_wpC (fun W1 hW1 => ?_)
  have U1 : Up w W1 := by rw [hW1]; exact (by repeat' (first | (with_reducible exact up_refl _) | (with_reducible assumption) | (with_reducible refine up_alloc ?_ _) | (with_reducible refine up_drewN ?_ _) | (with_reducible refine up_drew ?_) | (with_reducible refine up_set ?_ (by first | (simp; done) | (simp; omega) | omega) _) | (refine up_trans ?_ (by with_reducible assumption))))
  have bX : Bx W1 w2.heap.size [.string cgN, .slice P n cp, .slice none 0 0, .int .i64 300] := by rw [hW1]; exact bx_new w2 _ _
  have hP1 := pcs_up hP (show Up w2 W1 by rw [hW1]; exact (by repeat' (first | (with_reducible exact up_refl _) | (with_reducible assumption) | (with_reducible refine up_alloc ?_ _) | (with_reducible refine up_drewN ?_ _) | (with_reducible refine up_drew ?_) | (with_reducible refine up_set ?_ (by first | (simp; done) | (simp; omega) | omega) _) | (refine up_trans ?_ (by with_reducible assumption)))))
  obtain ⟨gx, hg⟩ : ∃ g, w2.heap.size = g := ⟨_, rfl⟩
  rw [hg] at bX ⊢
  clear hW1 hP u2 hg HCg
  have c0 := (bX 0 _ rfl).1
  have c1 := (bX 1 _ rfl).1
  have c2 := (bX 2 _ rfl).1
  have c3 := (bX 3 _ rfl).1
  go_upto_region 5 with (go_at_call 6; (with_reducible refine (unhide HCx _ _ _ hP1).mono ?_); rintro e w3 ⟨rfl, u3⟩)
  refine at_wpC (fun W3 hW3 => ?_)
  have u13 : Up W1 W3 := by rw [hW3]; exact (by repeat' (first | (with_reducible exact up_refl _) | (with_reducible assumption) | (with_reducible refine up_alloc ?_ _) | (with_reducible refine up_drewN ?_ _) | (with_reducible refine up_drew ?_) | (with_reducible refine up_set ?_ (by first | (simp; done) | (simp; omega) | omega) _) | (refine up_trans ?_ (by with_reducible assumption))))
  have bK : Bx W3 w3.heap.size [.int .i64 k0, .int .i64 k1, .int .i64 k2] := by rw [hW3]; exact bx_new w3 _ _
  obtain ⟨gk, hg⟩ : ∃ g, w3.heap.size = g := ⟨_, rfl⟩
  rw [hg] at bK ⊢
  have bX3 := bx_up bX u13
  have hP3 := pcs_up hP1 u13
  have U3 := up_trans U1 u13
  clear hW3 u3 hg bX hP1 U1 u13 c0 c1 c2 c3 HCx
  have c0 := (bX3 0 _ rfl).1
  have c1 := (bX3 1 _ rfl).1
  have c2 := (bX3 2 _ rfl).1
  have c3 := (bX3 3 _ rfl).1
  go_upto_region 8 with (go_at_call 8; (with_reducible refine (unhide HT _ _ _ hP3).mono ?_); rintro e w4 ⟨⟨P', cp', rfl, hQ⟩, u4⟩)
  refine at_wpC (fun W4 hW4 => ?_)
  have u34 : Up W3 W4 := by rw [hW4]; exact (by repeat' (first | (with_reducible exact up_refl _) | (with_reducible assumption) | (with_reducible refine up_alloc ?_ _) | (with_reducible refine up_drewN ?_ _) | (with_reducible refine up_drew ?_) | (with_reducible refine up_set ?_ (by first | (simp; done) | (simp; omega) | omega) _) | (refine up_trans ?_ (by with_reducible assumption))))
  have bY : Bx W4 w4.heap.size [.string cgN, .slice P' n cp', .slice none 0 0, .int .i64 300] := by rw [hW4]; exact bx_new w4 _ _
  have hQ4 := pcs_up hQ (show Up w4 W4 by rw [hW4]; exact (by repeat' (first | (with_reducible exact up_refl _) | (with_reducible assumption) | (with_reducible refine up_alloc ?_ _) | (with_reducible refine up_drewN ?_ _) | (with_reducible refine up_drew ?_) | (with_reducible refine up_set ?_ (by first | (simp; done) | (simp; omega) | omega) _) | (refine up_trans ?_ (by with_reducible assumption)))))
  obtain ⟨gy, hg⟩ : ∃ g, w4.heap.size = g := ⟨_, rfl⟩
  rw [hg] at bY ⊢
  have bX4 := bx_up bX3 u34
  have bK4 := bx_up bK u34
  have hP4 := pcs_up hP3 u34
  have U4 := up_trans U3 u34
  clear hW4 u4 hg bX3 bK hP3 U3 u34 c0 c1 c2 c3 HT hQ
  have c0 := (bY 0 _ rfl).1
  have c1 := (bY 1 _ rfl).1
  have c2 := (bY 2 _ rfl).1
  have c3 := (bY 3 _ rfl).1
  go_upto_region 11 with (go_at_call 6; (with_reducible refine (unhide HCy _ _ _ hQ4).mono ?_); rintro e w5 ⟨rfl, u5⟩)
  refine at_wpC (fun W5 hW5 => ?_)
  have u45 : Up W4 W5 := by rw [hW5]; exact (by repeat' (first | (with_reducible exact up_refl _) | (with_reducible assumption) | (with_reducible refine up_alloc ?_ _) | (with_reducible refine up_drewN ?_ _) | (with_reducible refine up_drew ?_) | (with_reducible refine up_set ?_ (by first | (simp; done) | (simp; omega) | omega) _) | (refine up_trans ?_ (by with_reducible assumption))))
  have bD : Bx W5 w5.heap.size [.int .i64 d0, .int .i64 k0, .int .i64 k2] := by rw [hW5]; exact bx_new w5 _ _
  obtain ⟨gd, hg⟩ : ∃ g, w5.heap.size = g := ⟨_, rfl⟩
  rw [hg] at bD ⊢
  have BX := hide (bx_up bX4 u45)
  have BK := hide (bx_up bK4 u45)
  have BY := hide (bx_up bY u45)
  have BD := hide bD
  have PX := hide (pcs_up hP4 u45)
  have PY := hide (pcs_up hQ4 u45)
  have U5 := hide (up_trans U4 u45)
  clear hW5 u5 hg bX4 bK4 bY bD hP4 hQ4 U4 u45 c0 c1 c2 c3 HCy
  go_upto_region 13 with fail
  have BX0 := unhide BX
  go_loopw [12, 13, 14] (fun s12 s13 s14 wr => ∃ k : Nat, k ≤ Nl ∧ k ≤ 8 ∧ s14 = .int .i64 k ∧ TwQ W5 k k ((ls.take k).mapIdx (qtS lift)) (((ls.take k).mapIdx (qtS lift)).map trS) s12 s13 wr) (fun _ _ s14 _ => Nl - (intOf s14).toNat)
  case atStart => exact ⟨0, by omega, by omega, rfl, World.ownsRow_nil _ _ _ _, World.ownsRow_nil _ _ _ _, apQ_nil _, up_refl _⟩
  case round =>
    clear BX0
    obtain ⟨k, hk, hk8, rfl, hT⟩ := hrel
    by_cases hlt : k < Nl ∧ k < 8
    · have hl : k < ls.length := by rw [unhide HNl]; exact hlt.1
      obtain ⟨b, off, rfl, hcc⟩ := (qts_up (unhide HQ) (up_trans (unhide U5) hT.up)).resolve_left (by intro e; rw [e] at hl; simp at hl)
      obtain ⟨a0, a1⟩ := hcc k hl
      obtain ⟨o0, o1⟩ := unhide HQb k hl
      have hst := qt_snoc lift hl
      have HC := hide (show cellsSp ((ls.take (k + 1)).mapIdx (qtS lift)) = cellsSp ((ls.take k).mapIdx (qtS lift)) ++ [.int .i64 (40 * ls[k].1), .int .i64 (40 * ls[k].2 - 5000), .int .i64 ((k : Int) % 3), .int .i64 (4000 + 100 * lift), .int .i64 0, .int .i64 100] by rw [hst, cellsSp_snoc]; rfl)
      have HD := hide (show cellsSp (((ls.take (k + 1)).mapIdx (qtS lift)).map trS) = cellsSp (((ls.take k).mapIdx (qtS lift)).map trS) ++ [.int .i64 (-(40 * ls[k].2 - 5000)), .int .i64 (40 * ls[k].1), .int .i64 ((k : Int) % 3), .int .i64 (4000 + 100 * lift), .int .i64 0, .int .i64 100] by rw [hst, List.map_append, List.map_cons, List.map_nil, cellsSp_snoc]; rfl)
      clear hcc hst
      generalize ls[k].1 = X at *
      generalize ls[k].2 = Y at *
      generalize hp1 : (ls.take (k + 1)).mapIdx (qtS lift) = p1 at *
      generalize hp0 : (ls.take k).mapIdx (qtS lift) = p0 at *
      have HP1 := hide hp1
      clear hp0 hp1
      obtain ⟨hk1, hk2⟩ := hlt
      have i0 : (0 : Int) ≤ (k : Int) := by omega
      have i1 : (k : Int) < (Nl : Int) := by omega
      have i2 : (k : Int) < 8 := by omega
      have i3 : (k : Int).toNat = k := by omega
      have hwk : IntKind.i64.wrap ((k : Int) + 1) = (k : Int) + 1 := IntWalk.i64_in _ ⟨by omega, by omega⟩
      have m1 : (k : Int).tmod 3 = (k : Int) % 3 := Int.tmod_eq_emod_of_nonneg (by omega)
      have b0 : IntKind.i64.wrap X = X := IntWalk.i64_in _ ⟨by omega, by omega⟩
      have b1 : IntKind.i64.wrap Y = Y := IntWalk.i64_in _ ⟨by omega, by omega⟩
      have b2 : IntKind.i64.wrap lift = lift := IntWalk.i64_in _ ⟨by omega, by omega⟩
      have b3 : IntKind.i64.wrap (40 * X) = 40 * X := IntWalk.i64_in _ ⟨by omega, by omega⟩
      have b4 : IntKind.i64.wrap (40 * Y) = 40 * Y := IntWalk.i64_in _ ⟨by omega, by omega⟩
      have b5 : IntKind.i64.wrap (40 * Y - 5000) = 40 * Y - 5000 := IntWalk.i64_in _ ⟨by omega, by omega⟩
      have b6 : IntKind.i64.wrap (100 * lift) = 100 * lift := IntWalk.i64_in _ ⟨by omega, by omega⟩
      have b7 : IntKind.i64.wrap (4000 + 100 * lift) = 4000 + 100 * lift := IntWalk.i64_in _ ⟨by omega, by omega⟩
      have b8 : IntKind.i64.wrap (-(40 * Y - 5000)) = -(40 * Y - 5000) := IntWalk.i64_in _ ⟨by omega, by omega⟩
      have b9 : IntKind.i64.wrap ((k : Int) % 3) = (k : Int) % 3 := IntWalk.i64_in _ ⟨by omega, by omega⟩
      have HTw := hide hT
      clear hT
      go_upto_region 15 with fail
      go_cut [15] (fun s15 wx => ∃ q : Nat, s15 = .pointer (some ⟨q, 0, none⟩) ∧ wr.heap.size ≤ q ∧ Bx wx q [.int .i64 (40 * X), .int .i64 (40 * Y - 5000), .int .i64 ((k : Int) % 3), .int .i64 (4000 + 100 * lift), .int .i64 0, .int .i64 100] ∧ Up wr wx)
      case first =>
        have HM2 := hide (fun wx (hq : Up wr wx) => (⟨up_cell hq a0, up_cell hq a1, hq⟩ : wx.cell? ⟨b, off + k * 2, none⟩ = some (.int .u8 X) ∧ wx.cell? ⟨b, off + k * 2 + 1, none⟩ = some (.int .u8 Y) ∧ Up wr wx))
        go_region_held3 (fun wx => wx.cell? ⟨b, off + k * 2, none⟩ = some (.int .u8 X) ∧ wx.cell? ⟨b, off + k * 2 + 1, none⟩ = some (.int .u8 Y) ∧ Up wr wx) ((go_split_ands; exact unhide HM2 _ (by repeat' (first | (with_reducible exact up_refl _) | (with_reducible assumption) | (with_reducible refine up_alloc ?_ _) | (with_reducible refine up_drewN ?_ _) | (with_reducible refine up_drew ?_) | (with_reducible refine up_set ?_ (by first | (simp; done) | (simp; omega) | omega) _) | (refine up_trans ?_ (by with_reducible assumption)))))) (fail)
        all_goals go_wp2_with fail
        all_goals go_meet
        all_goals exact ⟨wr.heap.size, by with_reducible rfl, Nat.le_refl _, bx_new wr _ 39, (by repeat' (first | (with_reducible exact up_refl _) | (with_reducible assumption) | (with_reducible refine up_alloc ?_ _) | (with_reducible refine up_drewN ?_ _) | (with_reducible refine up_drew ?_) | (with_reducible refine up_set ?_ (by first | (simp; done) | (simp; omega) | omega) _) | (refine up_trans ?_ (by with_reducible assumption))))⟩
      case rest =>
        obtain ⟨q, rfl, hq, bQ, u5⟩ := hcut
        obtain ⟨W6, rfl⟩ : ∃ z : World, z = wc := ⟨_, rfl⟩
        have hqs : q < W6.heap.size := bx_lt bQ (by simp)
        have n12 : ∀ g, u12.ownBlock = some g → g < wr.heap.size := fun g e => ((unhide HTw).o1.lt g e).2
        have n13 : ∀ g, u13.ownBlock = some g → g < wr.heap.size := fun g e => ((unhide HTw).o2.lt g e).2
        have h5w : W5.heap.size ≤ wr.heap.size := (unhide HTw).up.size
        have T6 := hide ((unhide HTw).ups u5)
        have hw6 : wr.heap.size ≤ W6.heap.size := u5.size
        clear HTw u5 a0 a1 o0 o1
        obtain ⟨z0, z1, z2, z3, z4, z5⟩ : W6.cell? ⟨q, 0, none⟩ = some (.int .i64 (40 * X)) ∧ W6.cell? ⟨q, 1, none⟩ = some (.int .i64 (40 * Y - 5000)) ∧ W6.cell? ⟨q, 2, none⟩ = some (.int .i64 ((k : Int) % 3)) ∧ W6.cell? ⟨q, 3, none⟩ = some (.int .i64 (4000 + 100 * lift)) ∧ W6.cell? ⟨q, 4, none⟩ = some (.int .i64 0) ∧ W6.cell? ⟨q, 5, none⟩ = some (.int .i64 100) := ⟨(bQ 0 _ rfl).1, (bQ 1 _ rfl).1, (bQ 2 _ rfl).1, (bQ 3 _ rfl).1, (bQ 4 _ rfl).1, (bQ 5 _ rfl).1⟩
        have HbQ := hide bQ
        clear bQ
        go_upto_region 17 with (at_builtin; refine wpList_append_own_at _ rfl _ _ 36 rfl W5.heap.size 39 i0' _ 6 48 Tryz.underlying36 (unhide HI) hz0 hz1 hz2 rfl (by decide) u12 k (cellsSp p0) rfl ((unhide T6).ups (up_alloc (up_refl _) _)).o1 ⟨W6.heap.size, 0, none⟩ 1 1 [.int .i64 (40 * X), .int .i64 (40 * Y - 5000), .int .i64 ((k : Int) % 3), .int .i64 (4000 + 100 * lift), .int .i64 0, .int .i64 100] rfl rfl (news_sp _ _ _) (by intro u hu; simp at hu; rcases hu with rfl | rfl | rfl | rfl | rfl | rfl <;> rfl) (by unfold maxLen; omega) (by omega) (by simp; omega) ?_; intro v12 W7 hown hgr _ hat)
        have T7 := ((unhide T6).ups (up_alloc (up_refl _) _)).app (by rw [unhide HC]; exact hown) hgr hat
        have m12 : v12.ownBlock ≠ some q := fun e => by
          rcases hat with x | x
          · rw [x] at e
            have := n12 q e
            omega
          · rw [x] at e
            simp at e
            omega
        have m13 : u13.ownBlock ≠ some q := fun e => by
          have := n13 q e
          omega
        have bQ7 := bx_grownC (bx_up (unhide HbQ) (up_alloc (up_refl _) _)) hgr (fun e => by have := n12 q e; omega)
        clear hown hgr hat T6 HbQ z0 z1 z2 z3 z4 z5
        obtain ⟨z0, z1⟩ : W7.cell? ⟨q, 0, none⟩ = some (.int .i64 (40 * X)) ∧ W7.cell? ⟨q, 1, none⟩ = some (.int .i64 (40 * Y - 5000)) := ⟨(bQ7 0 _ rfl).1, (bQ7 1 _ rfl).1⟩
        have y0 := (bQ7 0 _ rfl).2
        have y1 := (bQ7 1 _ rfl).2
        go_upto_region 18 with fail
        refine at_wpC (fun W8 hW8 => ?_)
        have T8 : TwQ W5 (k + 1) k p1 (p0.map trS) v12 u13 W8 := by
          rw [hW8]
          exact (T7.set (z := ⟨q, 0, none⟩) (by simp only; omega) m12 m13 _).set (z := ⟨q, 1, none⟩) (by simp only; omega) m12 m13 _
        have bQ8 : Bx W8 q [.int .i64 (-(40 * Y - 5000)), .int .i64 (40 * X), .int .i64 ((k : Int) % 3), .int .i64 (4000 + 100 * lift), .int .i64 0, .int .i64 100] := by
          rw [hW8]
          exact bx_set (bx_set bQ7 0 _) 1 _
        have T8' := hide T8.swap
        have hs8 : W5.heap.size ≤ W8.heap.size := T8.up.size
        clear hW8 T8 T7 bQ7 z0 z1 y0 y1 m12 m13
        obtain ⟨z0, z1, z2, z3, z4, z5⟩ : W8.cell? ⟨q, 0, none⟩ = some (.int .i64 (-(40 * Y - 5000))) ∧ W8.cell? ⟨q, 1, none⟩ = some (.int .i64 (40 * X)) ∧ W8.cell? ⟨q, 2, none⟩ = some (.int .i64 ((k : Int) % 3)) ∧ W8.cell? ⟨q, 3, none⟩ = some (.int .i64 (4000 + 100 * lift)) ∧ W8.cell? ⟨q, 4, none⟩ = some (.int .i64 0) ∧ W8.cell? ⟨q, 5, none⟩ = some (.int .i64 100) := ⟨(bQ8 0 _ rfl).1, (bQ8 1 _ rfl).1, (bQ8 2 _ rfl).1, (bQ8 3 _ rfl).1, (bQ8 4 _ rfl).1, (bQ8 5 _ rfl).1⟩
        clear bQ8
        go_wp2_with (at_builtin; refine wpList_append_own_at _ rfl _ _ 36 rfl W5.heap.size 39 i0' _ 6 48 Tryz.underlying36 (unhide HI) hz0 hz1 hz2 rfl (by decide) u13 k (cellsSp (p0.map trS)) rfl ((unhide T8').ups (up_alloc (up_refl _) _)).o1 ⟨W8.heap.size, 0, none⟩ 1 1 [.int .i64 (-(40 * Y - 5000)), .int .i64 (40 * X), .int .i64 ((k : Int) % 3), .int .i64 (4000 + 100 * lift), .int .i64 0, .int .i64 100] rfl rfl (news_sp _ _ _) (by intro u hu; simp at hu; rcases hu with rfl | rfl | rfl | rfl | rfl | rfl <;> rfl) (by unfold maxLen; omega) (by omega) (by simp; omega) ?_; intro v13 W9 hown hgr _ hat; have T9 := hide (((unhide T8').ups (up_alloc (up_refl _) _)).app (by rw [unhide HD]; exact hown) hgr hat).swap; clear hown hgr hat)
        go_roundw
        case rel => exact ⟨k + 1, by omega, by omega, by go_num, by rw [unhide HP1]; exact unhide T9⟩
        case measure => simp [intOf]; omega
    · have hE : ls.take k = ls.take 8 := by
        by_cases h4 : k = 8
        · rw [h4]
        · rw [List.take_of_length_le (by rw [unhide HNl]; omega), List.take_of_length_le (by rw [unhide HNl]; omega)]
      rw [hE, show (ls.take 8).mapIdx (qtS lift) = S from unhide HSS] at hT
      obtain ⟨C, ca, e12, hC⟩ := own_sps hT.o1
      obtain ⟨D, cd, e13, hD⟩ := own_sps hT.o2
      rw [List.length_map] at e13
      rw [unhide HnS] at e12 e13
      subst e12 e13
      have U6 := hide hT.up
      have HC := hide hC
      have HD := hide hD
      clear hT hE hC hD
      go_upto_region 13 with fail
      go_cut [61] (fun s wx => s = .bool false ∧ Up wr wx)
      case first =>
        by_cases hlN : k < Nl
        · have i1 : (k : Int) < (Nl : Int) := by omega
          have i2 : ¬ (k : Int) < 8 := by omega
          go_wp2
          go_meet
          exact ⟨rfl, up_refl _⟩
        · have i1 : ¬ (k : Int) < (Nl : Int) := by omega
          go_wp2
          go_meet
          exact ⟨rfl, up_refl _⟩
      case rest =>
        obtain ⟨rfl, u7⟩ := hcut
        obtain ⟨W7, rfl⟩ : ∃ z : World, z = wc := ⟨_, rfl⟩
        have V := up_trans (unhide U6) u7
        have bX := bx_up (unhide BX) V
        have bK := bx_up (unhide BK) V
        have bY := bx_up (unhide BY) V
        have bD := bx_up (unhide BD) V
        have hP := pcs_up (unhide PX) V
        have hQ := pcs_up (unhide PY) V
        have hC := sups_up (unhide HC) u7
        have hD := sups_up (unhide HD) u7
        have U7 := up_trans (unhide U5) V
        clear V BX BK BY BD PX PY HC HD U6 u7 U5 HQ HQb HSS HnS HNl HI hz0 hz1 hz2 hk hk8 hlt
        have c0 := (bX 0 _ rfl).1
        have c1 := (bX 1 _ rfl).1
        have c2 := (bX 2 _ rfl).1
        have c3 := (bX 3 _ rfl).1
        go_upto_region 20 with (go_at_call 9; (with_reducible refine (unhide HS1 _ _ _ _ _ hC hP).mono ?_); rintro e w8 ⟨rfl, u8⟩)
        refine at_wpC (fun W8 hW8 => ?_)
        have u78 : Up W7 W8 := by rw [hW8]; exact (by repeat' (first | (with_reducible exact up_refl _) | (with_reducible assumption) | (with_reducible refine up_alloc ?_ _) | (with_reducible refine up_drewN ?_ _) | (with_reducible refine up_drew ?_) | (with_reducible refine up_set ?_ (by first | (simp; done) | (simp; omega) | omega) _) | (refine up_trans ?_ (by with_reducible assumption))))
        have bR : Bx W8 w8.heap.size [.int .i64 r0, .int .i64 r1, .int .i64 r2] := by rw [hW8]; exact bx_new w8 _ _
        obtain ⟨gr, hg⟩ : ∃ g, w8.heap.size = g := ⟨_, rfl⟩
        rw [hg] at bR ⊢
        have bX8 := bx_up bX u78
        have bK8 := bx_up bK u78
        have bY8 := bx_up bY u78
        have bD8 := bx_up bD u78
        have hP8 := pcs_up hP u78
        have hQ8 := pcs_up hQ u78
        have hD8 := sups_up hD u78
        have U8 := up_trans U7 u78
        clear hW8 u8 hg bX bK bY bD hP hQ hC hD U7 u78 c0 c1 c2 c3 HS1
        have c0 := (bY8 0 _ rfl).1
        have c1 := (bY8 1 _ rfl).1
        have c2 := (bY8 2 _ rfl).1
        have c3 := (bY8 3 _ rfl).1
        go_upto_region 21 with (go_at_call 9; (with_reducible refine (unhide HS2 _ _ _ _ _ hD8 hQ8).mono ?_); rintro e w9 ⟨rfl, u9⟩)
        refine at_wpC (fun W9 hW9 => ?_)
        have u89 : Up W8 W9 := by rw [hW9]; exact (by repeat' (first | (with_reducible exact up_refl _) | (with_reducible assumption) | (with_reducible refine up_alloc ?_ _) | (with_reducible refine up_drewN ?_ _) | (with_reducible refine up_drew ?_) | (with_reducible refine up_set ?_ (by first | (simp; done) | (simp; omega) | omega) _) | (refine up_trans ?_ (by with_reducible assumption))))
        have bS : Bx W9 w9.heap.size [.int .i64 r0', .int .i64 r1', .int .i64 r2'] := by rw [hW9]; exact bx_new w9 _ _
        obtain ⟨gs, hg⟩ : ∃ g, w9.heap.size = g := ⟨_, rfl⟩
        rw [hg] at bS ⊢
        have bR9 := bx_up bR u89
        have bX9 := bx_up bX8 u89
        have bK9 := bx_up bK8 u89
        have bD9 := bx_up bD8 u89
        have hP9 := pcs_up hP8 u89
        have U9 := up_trans U8 u89
        clear hW9 u9 hg bX8 bK8 bY8 bD8 hP8 hQ8 hD8 U8 u89 bR c0 c1 c2 c3 HS2
        obtain ⟨x1, x2, x3, x4, x5, x6, x7, x8⟩ := unhide HX
        obtain ⟨a0, a1, a2⟩ := bx3 bR9
        obtain ⟨b0, b1, b2⟩ := bx3 bS
        obtain ⟨k0', k1', k2'⟩ := bx3 bK9
        obtain ⟨d0', d1', d2'⟩ := bx3 bD9
        go_cut [136] (fun s wx => s = .bool false ∧ wx = W9)
        case first =>
          by_cases hd : d0 = -k1
          · obtain ⟨q0, q1, q2, q3⟩ := unhide HEq hd
            subst q0 q1 q2 q3 hd
            have e1 := fun a b c W => eq3_same a b c W
            go_wp2
            go_meet
            exact ⟨by first | rfl | simp, rfl⟩
          · have e1 : ∀ W, (Op.equalIn 10000 29 (.agg #[.int .i64 d0, .int .i64 k0, .int .i64 k2]) (.agg #[.int .i64 (-k1), .int .i64 k0, .int .i64 k2])).run Tryz.prog W = .ok false W := fun W => by
              rw [eq3]
              have : (d0 == -k1) = false := by simp [hd]
              rw [this]
              rfl
            go_wp2
            go_meet
            exact ⟨by first | rfl | simp, rfl⟩
        case rest =>
          obtain ⟨rfl, rfl⟩ := hcut
          clear a0 a1 a2 b0 b1 b2 d0' d1' d2' bR9 bS bD9 HEq
          have c0 := (bX9 0 _ rfl).1
          have c1 := (bX9 1 _ rfl).1
          have c2 := (bX9 2 _ rfl).1
          have c3 := (bX9 3 _ rfl).1
          go_upto_region 25 with (go_at_call 10; (with_reducible refine (unhide HM _ _ _ hP9).mono ?_); rintro e wA ⟨rfl, uA⟩)
          have bKA := bx_up bK9 uA
          have bXA := bx_up bX9 uA
          have hPA := pcs_up hP9 uA
          have UA := up_trans U9 uA
          clear bK9 bX9 hP9 U9 uA c0 c1 c2 c3 k0' k1' k2' HM
          obtain ⟨k0', k1', k2'⟩ := bx3 bKA
          go_upto_region 26 with fail
          refine at_wpC (fun WB hWB => ?_)
          have uAB : Up wA WB := by rw [hWB]; exact (by repeat' (first | (with_reducible exact up_refl _) | (with_reducible assumption) | (with_reducible refine up_alloc ?_ _) | (with_reducible refine up_drewN ?_ _) | (with_reducible refine up_drew ?_) | (with_reducible refine up_set ?_ (by first | (simp; done) | (simp; omega) | omega) _) | (refine up_trans ?_ (by with_reducible assumption))))
          have b4 : Bx WB wA.heap.size (cellsSp (sq4 k0 k1 (lift + 1))) := by rw [hWB]; exact bx_new wA _ _
          have hF := sups_bx b4
          obtain ⟨gf, hg⟩ : ∃ g, wA.heap.size = g := ⟨_, rfl⟩
          rw [hg] at hF ⊢
          have bXB := bx_up bXA uAB
          have hPB := pcs_up hPA uAB
          have UB := up_trans UA uAB
          clear hWB hg b4 bXA bKA hPA UA uAB k0' k1' k2'
          have c0 := (bXB 0 _ rfl).1
          have c1 := (bXB 1 _ rfl).1
          have c2 := (bXB 2 _ rfl).1
          have c3 := (bXB 3 _ rfl).1
          have e1 := fun a b c W => eq3_same a b c W
          have y1 : (m + 3).tdiv 4 = (m + 3) / 4 := Int.tdiv_eq_ediv_of_nonneg (by omega)
          have y2 : IntKind.i64.wrap ((m + 3) / 4) = (m + 3) / 4 := IntWalk.i64_in _ ⟨by omega, by omega⟩
          clear x1 x2 x3 x4 x5 x6 x7
          go_wp2_with (first
            | (go_at_call 9; (with_reducible refine (unhide HS4 _ _ _ _ _ hF hPB).mono ?_); rintro e wC ⟨rfl, uC⟩)
            | (go_at_call 7; (with_reducible refine (unhide HW _).mono ?_); rintro e wD ⟨rfl, uD⟩))
          go_ret
          exact ⟨rfl, up_trans (up_trans UB uC) (up_trans (up_alloc (up_refl _) _) uD)⟩
set_option maxRecDepth 100000 in
theorem l_Quarter (A : Option Addr) (bs : List Bxe) (cap : Nat) (Al : Option Addr) (ls : List (Int × Int)) (capl : Nat) (lift : Int) (w : World) (h : BxsOk w A bs) (hn : bs.length ≤ 9223372036854775807) (hG : QtsOk w Al ls) (hnl : ls.length ≤ 9223372036854775807) (hL : 0 ≤ lift ∧ lift ≤ 255) :
    Calls Tryz.prog 3 #[.slice A bs.length cap, .slice Al ls.length capl, .int .u8 lift] w fun e w' => e = .returned (.bool true) ∧ Up w w' := by
  by_cases h0 : bs = []
  · subst h0
    exact l_Quarter0 A cap Al ls.length capl lift w
  · exact l_Quarter1 A bs cap Al ls capl lift w h hn hG hnl hL h0
end Go.Proofs.YthifcalemhpmoaaGreat
