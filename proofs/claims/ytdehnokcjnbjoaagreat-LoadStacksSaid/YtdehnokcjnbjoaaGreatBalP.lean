/- Whether the centre of pieces is above a base: load.balances. -/
import Derived.Test.YtdehnokcjnbjoaaGreatBal
import Derived.Test.YtdehnokcjnbjoaaGreatPkLdE
namespace Go.Proofs.YtdehnokcjnbjoaaGreat
open Go.RowKit Go.Proofs.Gn
attribute [local go_sem] Oper.semAt_some
set_option linter.unusedVariables false
theorem blB_no {h : Pl} {X Y S : Int} {k : Nat} (hk : k < h.length) (hn : ¬ 0 ≤ blS h X Y S k) : blB h X Y S = false := by
  unfold blB
  rw [List.all_eq_false]
  exact ⟨k, List.mem_range.2 hk, by simpa using hn⟩
theorem blB_yes {h : Pl} {X Y S : Int} (hy : ∀ k, k < h.length → 0 ≤ blS h X Y S k) : blB h X Y S = true := by
  unfold blB
  rw [List.all_eq_true]
  exact fun k hk => by simpa using hy k (List.mem_range.1 hk)
theorem bl_mod {n k : Nat} (h : k < n) : ((k : Int) + 1).tmod (n : Int) = (((k + 1) % n : Nat) : Int) := by
  rw [Int.tmod_eq_emod_of_nonneg (by omega)]
  norm_cast
set_option maxRecDepth 100000 in
set_option maxHeartbeats 16000000 in
theorem p_balances (A : Option Addr) (h : Pl) (cA : Nat) (B : Option Addr) (ps : List Pce) (cB : Nat) (w : World) (hA : Pts w A h) (hB : Pcs w B ps) (hok : okPs ps = true) (hn : ps.length ≤ 32) (hh : h.length ≤ 1000) (hnr : ∀ q ∈ h, Nr 131072 q) (hms : mas ps ≤ 16777216) :
    Calls Tryz.prog 115 #[.slice A h.length cA, .slice B ps.length cB] w fun e w' => e = .returned (.bool (blB h (mo fX ps) (mo fY ps) (2 * mas ps))) ∧ Up w w' := by
  have HMo := hide (fun W (hW : Up w W) => p_moments B ps cB W (pcs_up hB hW) hok hn)
  have HMa := hide (fun W (hW : Up w W) => p_mass B ps cB W (pcs_up hB hW) hok hn)
  have hm0 : 0 ≤ mas ps := by
    have q := mas_bd hok ps.length (Nat.le_refl _)
    rw [List.take_length] at q
    exact q.1
  have hX := mo_mas fX fX_mas hok
  have hY := mo_mas fY fY_mas hok
  have hX' : -4398046511104 ≤ mo fX ps ∧ mo fX ps ≤ 4398046511104 := by omega
  have hY' : -4398046511104 ≤ mo fY ps ∧ mo fY ps ≤ 4398046511104 := by omega
  have r1 : IntKind.i64.wrap (2 * mas ps) = 2 * mas ps := IntWalk.i64_in _ ⟨by omega, by omega⟩
  have hS : 0 ≤ 2 * mas ps ∧ 2 * mas ps ≤ 33554432 := by omega
  generalize mo fX ps = X at *
  generalize mo fY ps = Y at *
  generalize mo fZ ps = Z at *
  have HNo := hide (fun k (hk : k < h.length) hn => blB_no (X := X) (Y := Y) (S := 2 * mas ps) hk hn)
  have HYes := hide (fun hy => blB_yes (h := h) (X := X) (Y := Y) (S := 2 * mas ps) hy)
  have HBl := hide (fun k => (show blS h X Y (2 * mas ps) k = ((h.getD ((k + 1) % h.length) (0, 0)).1 - (h.getD k (0, 0)).1) * (Y - 2 * mas ps * (h.getD k (0, 0)).2) - ((h.getD ((k + 1) % h.length) (0, 0)).2 - (h.getD k (0, 0)).2) * (X - 2 * mas ps * (h.getD k (0, 0)).1) from rfl))
  have HSm := hide (fun (a b : Int × Int) (ha : Nr 131072 a) (hb : Nr 131072 b) => bl_small (S := 2 * mas ps) (X := X) (Y := Y) (a1 := a.1) (a2 := a.2) (b1 := b.1) (b2 := b.2) hS hX' hY' ha hb)
  have HNr := hide (fun k (hk : k < h.length) => (show Nr 131072 (h.getD k (0, 0)) by rw [List.getD_eq_getElem?_getD, List.getElem?_eq_getElem hk]; exact hnr _ (List.getElem_mem hk)))
  have HPt := hide (show ∀ k, k < h.length → ∃ b off, A = some ⟨b, off, none⟩ ∧ ∀ j, j < h.length → ∀ W, Up w W → W.cell? ⟨b, off + j * 2, none⟩ = some (.int .i64 (h.getD j (0, 0)).1) ∧ W.cell? ⟨b, off + j * 2 + 1, none⟩ = some (.int .i64 (h.getD j (0, 0)).2) from fun k hk => by
    have hne : h ≠ [] := by intro e; rw [e] at hk; simp at hk
    obtain ⟨b, off, e, hc⟩ := hA.resolve_left hne
    refine ⟨b, off, e, fun j hj W hW => ?_⟩
    have e2 : h.getD j (0, 0) = h[j] := by rw [List.getD_eq_getElem?_getD, List.getElem?_eq_getElem hj]; rfl
    rw [e2]
    exact ⟨up_cell hW (hc j hj).1, up_cell hW (hc j hj).2⟩)
  generalize blB h X Y (2 * mas ps) = V at *
  have HXY := hide (⟨hX', hY'⟩ : _ ∧ _)
  clear hA hB hok hnr hm0 hX hY hX' hY' hS hms
  generalize mas ps = M at *
  generalize ps.length = m at *
  generalize hG : (fun k => blS h X Y (2 * M) k) = G at *
  have hG' : ∀ k, blS h X Y (2 * M) k = G k := fun k => congrFun hG k
  simp only [hG'] at HNo HYes HBl
  generalize hH : (fun k => h.getD k (0, 0)) = H at *
  have hH' : ∀ k, h.getD k (0, 0) = H k := fun k => congrFun hH k
  simp only [hH'] at HBl HNr HPt
  clear hG hG' hH hH'
  generalize h.length = n at *
  go_enter Tryz.func115, Tryz.ntmps115
  have hu0 := up_refl w
  go_upto_region 2 with (first
    | (go_at_call 53; (with_reducible refine (unhide HMo _ hu0).mono ?_); rintro e w1 ⟨rfl, v1⟩)
    | (go_at_call 51; (with_reducible refine (unhide HMa _ v1).mono ?_); rintro e w2 ⟨rfl, v2⟩))
  refine at_wpC (fun W2 hW2 => ?_)
  have y2 : Up w2 W2 := by rw [hW2]; exact (by repeat' (first | (with_reducible exact up_refl _) | (with_reducible assumption) | (with_reducible refine up_alloc ?_ _) | (with_reducible refine up_drewN ?_ _) | (with_reducible refine up_drew ?_) | (with_reducible refine up_set ?_ (by first | (simp; done) | (simp; omega) | omega) _) | (refine up_trans ?_ (by with_reducible assumption))))
  have b5 : Bx W2 w2.heap.size [.int .i64 X, .int .i64 Y, .int .i64 Z] := by rw [hW2]; exact bx_new w2 _ _
  clear hW2
  generalize w2.heap.size = g5 at *
  have U2 := up_trans (up_trans v1 v2) y2
  clear hu0 v1 v2 y2 HMo HMa
  go_upto_region 3 with fail
  go_loopw [18] (fun s18 wr => ∃ k : Nat, k ≤ n ∧ s18 = .int .i64 k ∧ (∀ j, j < k → 0 ≤ G j) ∧ Bx wr g5 [.int .i64 X, .int .i64 Y, .int .i64 Z] ∧ Up w wr) (fun s18 _ => n - (intOf s18).toNat)
  case atStart => exact ⟨0, by omega, rfl, fun j hj => by omega, b5, U2⟩
  case round =>
    clear b5 U2
    obtain ⟨k, hk, rfl, hg, b5, hu⟩ := hrel
    by_cases hlt : k < n
    · obtain ⟨b, off, rfl, hc⟩ := unhide HPt k hlt
      have hk1 : (k + 1) % n < n := Nat.mod_lt _ (by omega)
      have hbl := unhide HBl k
      have hNa := unhide HNr k hlt
      have hNb := unhide HNr _ hk1
      have hsm := unhide HSm _ _ hNa hNb
      have hmod := bl_mod hlt
      have hno := hide (unhide HNo k hlt)
      have HCa := hide (hc k hlt)
      have HCb := hide (hc _ hk1)
      generalize (k + 1) % n = k1 at *
      obtain ⟨a1, ha1⟩ : ∃ z, (H k).1 = z := ⟨_, rfl⟩
      obtain ⟨a2, ha2⟩ : ∃ z, (H k).2 = z := ⟨_, rfl⟩
      obtain ⟨c1, hc1⟩ : ∃ z, (H k1).1 = z := ⟨_, rfl⟩
      obtain ⟨c2, hc2⟩ : ∃ z, (H k1).2 = z := ⟨_, rfl⟩
      unfold Nr at hNa hNb
      rw [ha1, ha2] at hNa
      rw [hc1, hc2] at hNb
      rw [ha1, ha2, hc1, hc2] at hbl hsm
      have q0 := unhide HCa
      have q1 := unhide HCb
      rw [ha1, ha2] at q0
      rw [hc1, hc2] at q1
      have HCa := hide q0
      have HCb := hide q1
      have i0 : (0 : Int) ≤ (k : Int) := by omega
      have i1 : (k : Int) < (n : Int) := by omega
      have i3 : (k : Int).toNat = k := by omega
      have n0 : ((n : Int) == 0) = false := by simp; omega
      have n1 : ¬ n = 0 := by omega
      have wk1 : IntKind.i64.wrap (k1 : Int) = (k1 : Int) := IntWalk.i64_in _ ⟨by omega, by omega⟩
      have j0 : (0 : Int) ≤ (k1 : Int) := by omega
      have j1 : (k1 : Int) < (n : Int) := by omega
      have j3 : (k1 : Int).toNat = k1 := by omega
      have hwk : IntKind.i64.wrap ((k : Int) + 1) = (k : Int) + 1 := IntWalk.i64_in _ ⟨by omega, by omega⟩
      have z1 : IntKind.i64.wrap (c1 - a1) = c1 - a1 := IntWalk.i64_in _ ⟨by omega, by omega⟩
      have z2 : IntKind.i64.wrap (c2 - a2) = c2 - a2 := IntWalk.i64_in _ ⟨by omega, by omega⟩
      obtain ⟨⟨⟨s1, s2⟩, s3, s4⟩, ⟨s5, s6⟩, s7, s8⟩ := hsm
      have z3 : IntKind.i64.wrap (2 * M * a1) = 2 * M * a1 := IntWalk.i64_in _ ⟨by omega, by omega⟩
      have z4 : IntKind.i64.wrap (2 * M * a2) = 2 * M * a2 := IntWalk.i64_in _ ⟨by omega, by omega⟩
      obtain ⟨hX', hY'⟩ := unhide HXY
      have z5 : IntKind.i64.wrap (X - 2 * M * a1) = X - 2 * M * a1 := IntWalk.i64_in _ ⟨by omega, by omega⟩
      have z6 : IntKind.i64.wrap (Y - 2 * M * a2) = Y - 2 * M * a2 := IntWalk.i64_in _ ⟨by omega, by omega⟩
      clear hX' hY'
      have z7 : IntKind.i64.wrap ((c1 - a1) * (Y - 2 * M * a2)) = (c1 - a1) * (Y - 2 * M * a2) := IntWalk.i64_in _ ⟨by omega, by omega⟩
      have z8 : IntKind.i64.wrap ((c2 - a2) * (X - 2 * M * a1)) = (c2 - a2) * (X - 2 * M * a1) := IntWalk.i64_in _ ⟨by omega, by omega⟩
      have z9 : IntKind.i64.wrap ((c1 - a1) * (Y - 2 * M * a2) - (c2 - a2) * (X - 2 * M * a1)) = (c1 - a1) * (Y - 2 * M * a2) - (c2 - a2) * (X - 2 * M * a1) := IntWalk.i64_in _ ⟨by omega, by omega⟩
      have HMi := hide (fun W => p_minusL c1 c2 a1 a2 W z1 z2)
      have HCr := hide (fun W => p_crossL (c1 - a1) (c2 - a2) (X - 2 * M * a1) (Y - 2 * M * a2) W z7 z8 z9)
      have HBL := hide hbl
      clear hbl hNa hNb s1 s2 s3 s4 s5 s6 s7 s8 z1 z2 z7 z8 z9 ha1 ha2 hc1 hc2 q0 q1 hc
      obtain ⟨a0, a9⟩ := unhide HCa _ hu
      go_upto_region 5 with fail
      refine at_wpC (fun W4 hW4 => ?_)
      have y4 : Up wr W4 := by rw [hW4]; exact (by repeat' (first | (with_reducible exact up_refl _) | (with_reducible assumption) | (with_reducible refine up_alloc ?_ _) | (with_reducible refine up_drewN ?_ _) | (with_reducible refine up_drew ?_) | (with_reducible refine up_set ?_ (by first | (simp; done) | (simp; omega) | omega) _) | (refine up_trans ?_ (by with_reducible assumption))))
      have b8 : Bx W4 wr.heap.size [.int .i64 a1, .int .i64 a2] := by rw [hW4]; exact bx_new wr _ _
      have hu4 := up_trans hu y4
      have b54 := bx_up b5 y4
      have hE := unhide HCb _ hu4
      clear hW4 b5 hu a0 a9 y4
      generalize wr.heap.size = g8 at *
      go_cut [9] (fun s9 wx => ∃ g9, s9 = .pointer (some ⟨g9, 0, none⟩) ∧ Bx wx g9 [.int .i64 (c1 - a1), .int .i64 (c2 - a2)] ∧ Up W4 wx)
      case first => as_aux_lemma =>
        have x0 := (b8 0 _ rfl).1
        have x1 := (b8 1 _ rfl).1
        have HS := hide (fun W (hW : Up W4 W) => (⟨up_cell hW x0, up_cell hW x1, up_cell hW hE.1, up_cell hW hE.2, hW⟩ : W.cell? ⟨g8, 0, none⟩ = some (.int .i64 a1) ∧ W.cell? ⟨g8, 1, none⟩ = some (.int .i64 a2) ∧ W.cell? ⟨b, off + k1 * 2, none⟩ = some (.int .i64 c1) ∧ W.cell? ⟨b, off + k1 * 2 + 1, none⟩ = some (.int .i64 c2) ∧ Up W4 W))
        clear b8 b54 hE HCr HBL hno
        go_region_held3 (fun wx => wx.cell? ⟨g8, 0, none⟩ = some (.int .i64 a1) ∧ wx.cell? ⟨g8, 1, none⟩ = some (.int .i64 a2) ∧ wx.cell? ⟨b, off + k1 * 2, none⟩ = some (.int .i64 c1) ∧ wx.cell? ⟨b, off + k1 * 2 + 1, none⟩ = some (.int .i64 c2) ∧ Up W4 wx) ((first | exact unhide HS _ (by repeat' (first | (with_reducible exact up_refl _) | (with_reducible assumption) | (with_reducible refine up_alloc ?_ _) | (with_reducible refine up_drewN ?_ _) | (with_reducible refine up_drew ?_) | (with_reducible refine up_set ?_ (by first | (simp; done) | (simp; omega) | omega) _) | (refine up_trans ?_ (by with_reducible assumption)))) | exact unhide HS _ (up_trans (by repeat' (first | (with_reducible exact up_refl _) | (with_reducible assumption) | (with_reducible refine up_alloc ?_ _) | (with_reducible refine up_drewN ?_ _) | (with_reducible refine up_drew ?_) | (with_reducible refine up_set ?_ (by first | (simp; done) | (simp; omega) | omega) _) | (refine up_trans ?_ (by with_reducible assumption)))) v3))) ((go_at_call 144; (with_reducible refine (unhide HMi _).mono ?_); rintro e w3 ⟨rfl, v3⟩; (first | (have nb := bx_up (bx_drew (bx_new W4 [.int .i64 0, .int .i64 0] 55)) v3; obtain ⟨nb0, nb1⟩ := bx2 nb; obtain ⟨nb2, nb3⟩ := bxf2 nb) | skip)))
        all_goals (go_wp2_with fail)
        all_goals (go_meet)
        all_goals first
          | exact ⟨_, rfl, bx_new w3 _ _, up_alloc (up_trans (by repeat' (first | (with_reducible exact up_refl _) | (with_reducible assumption) | (with_reducible refine up_alloc ?_ _) | (with_reducible refine up_drewN ?_ _) | (with_reducible refine up_drew ?_) | (with_reducible refine up_set ?_ (by first | (simp; done) | (simp; omega) | omega) _) | (refine up_trans ?_ (by with_reducible assumption)))) v3) _⟩
          | exact ⟨_, rfl, bx_new w3 _ _, up_alloc v3 _⟩
          | exact ⟨_, rfl, bx_set (bx_set nb 0 _) 1 _, up_set (up_set (up_trans (by repeat' (first | (with_reducible exact up_refl _) | (with_reducible assumption) | (with_reducible refine up_alloc ?_ _) | (with_reducible refine up_drewN ?_ _) | (with_reducible refine up_drew ?_) | (with_reducible refine up_set ?_ (by first | (simp; done) | (simp; omega) | omega) _) | (refine up_trans ?_ (by with_reducible assumption)))) v3) (Nat.le_refl _) _) (Nat.le_refl _) _⟩
      case rest =>
        obtain ⟨g9, rfl, b9, v5⟩ := hcut
        have bc5 := bx_up b54 v5
        have bc8 := bx_up b8 v5
        have hu5 := up_trans hu4 v5
        clear b54 b8 v5 hu4 hE HMi
        have x0 := (bc5 0 _ rfl).1
        have x1 := (bc5 1 _ rfl).1
        have y0 := (bc8 0 _ rfl).1
        have y1 := (bc8 1 _ rfl).1
        go_upto_region 7 with fail
        refine at_wpC (fun W6 hW6 => ?_)
        have y6 : Up wc W6 := by rw [hW6]; exact (by repeat' (first | (with_reducible exact up_refl _) | (with_reducible assumption) | (with_reducible refine up_alloc ?_ _) | (with_reducible refine up_drewN ?_ _) | (with_reducible refine up_drew ?_) | (with_reducible refine up_set ?_ (by first | (simp; done) | (simp; omega) | omega) _) | (refine up_trans ?_ (by with_reducible assumption))))
        have b10 : Bx W6 wc.heap.size [.int .i64 (X - 2 * M * a1), .int .i64 (Y - 2 * M * a2)] := by rw [hW6]; exact bx_new wc _ _
        have b96 := bx_up b9 y6
        have b56 := bx_up bc5 y6
        have hu6 := up_trans hu5 y6
        clear hW6 b9 bc5 bc8 x0 x1 y0 y1 hu5 y6
        generalize wc.heap.size = g10 at *
        have x0 := (b10 0 _ rfl).1
        have x1 := (b10 1 _ rfl).1
        have y0 := (b96 0 _ rfl).1
        have y1 := (b96 1 _ rfl).1
        obtain ⟨D, hD⟩ : ∃ D, (c1 - a1) * (Y - 2 * M * a2) - (c2 - a2) * (X - 2 * M * a1) = D := ⟨_, rfl⟩
        rw [hD] at HCr HBL
        by_cases hneg : D < 0
        · have HG := hide (show G k < 0 by rw [unhide HBL]; exact hneg)
          go_wp2_with (go_at_call 145; (with_reducible refine (unhide HCr _).mono ?_); rintro e w7 ⟨rfl, v7⟩)
          go_ret
          have hV := unhide hno (by have := unhide HG; omega)
          exact ⟨by rw [hV]; rfl, up_trans hu6 v7⟩
        · have HG := hide (show 0 ≤ G k by rw [unhide HBL]; omega)
          have HGG := hide hg
          clear hg
          go_wp2_with (go_at_call 145; (with_reducible refine (unhide HCr _).mono ?_); rintro e w7 ⟨rfl, v7⟩; have b57 := bx_up b56 v7)
          go_roundw
          case rel => exact ⟨k + 1, by omega, by go_num, fun j hj => by
            by_cases e : j < k
            · exact unhide HGG j e
            · obtain rfl : j = k := by omega
              exact unhide HG, b57, up_trans hu6 v7⟩
          case measure => simp [intOf]; omega
    · obtain rfl : k = n := by omega
      have i1 : ¬ (k : Int) < (k : Int) := by omega
      have hV := unhide HYes (fun j hj => hg j hj)
      go_wp2_with fail
      go_ret
      exact ⟨by first | rfl | (rw [hV]; rfl), hu⟩
end Go.Proofs.YtdehnokcjnbjoaaGreat
