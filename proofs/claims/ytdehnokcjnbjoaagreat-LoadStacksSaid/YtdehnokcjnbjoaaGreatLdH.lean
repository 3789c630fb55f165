/- load.sum of the one hull of the example. -/
import Derived.Test.YtdehnokcjnbjoaaGreatLdG
namespace Go.Proofs.YtdehnokcjnbjoaaGreat
open Go.RowKit Go.Proofs.Gn
attribute [local go_sem] Oper.semAt_some
set_option linter.unusedVariables false
theorem waL_nr : ∀ p ∈ waL, Nr 4000 p := by
  intro p hp
  unfold waL at hp
  simp at hp
  unfold Nr
  rcases hp with rfl | rfl | rfl | rfl | rfl | rfl | rfl | rfl <;> decide
theorem waP_sr : ∀ k, k < 7 → 0 ≤ cwF (waP (k + 1)).1 (waP (k + 1)).2 (waP k).1 (waP k).2 := by decide
theorem waP_at {k : Nat} (h : k < waL.length) : waL[k] = waP k := by unfold waP; simp [h]
theorem waL_sr : SrW waL := by
  intro k h
  have h8 : k + 1 < 8 := by simpa [waL] using h
  rw [waP_at, waP_at]
  exact waP_sr k (by omega)
theorem waP_nr : ∀ k, k < 8 → Nr 4000 (waP k) := by unfold Nr; decide
theorem waP_ne : ∀ k, k < 7 → cwF (waP k).1 (waP k).2 (waP (k + 1)).1 (waP (k + 1)).2 ≠ 0 := by decide
theorem huP_add : ∀ k, k < 8 → ((huP k).1 + (waP k).1, (huP k).2 + (waP k).2) = huP ((k + 1) % 8) := by decide
theorem bx_waP {W : World} {g : Nat} (h : Bx W g (cellsLd waL)) (k : Nat) (hk : k < 8) : W.cell? ⟨g, k * 2, none⟩ = some (.int .i64 (waP k).1) ∧ W.cell? ⟨g, k * 2 + 1, none⟩ = some (.int .i64 (waP k).2) := by
  have hl : k < waL.length := by simp [waL]; omega
  have e : waP k = waL[k] := by unfold waP; simp [hl]
  rw [e]
  obtain ⟨a0, a1⟩ := cellsLd_at hl
  exact ⟨(h _ _ a0).1, (h _ _ a1).1⟩
theorem cellsLd_one {l : List (Int × Int)} : ∀ u ∈ cellsLd l, u.oneCell' = true := by
  intro u hu
  unfold cellsLd at hu
  obtain ⟨p, _, hp⟩ := List.mem_flatMap.1 hu
  simp at hp
  rcases hp with rfl | rfl <;> rfl
theorem addr_addL (b o j : Nat) : (⟨b, o, none⟩ : Addr).add j = ⟨b, o + j, none⟩ := by
  unfold Addr.add
  split <;> simp_all
set_option maxRecDepth 100000 in
set_option maxHeartbeats 16000000 in
theorem p_sumH (gh g c cg : Nat) (w : World) (h : w.cell? ⟨gh, 0, none⟩ = some (.slice (some ⟨g, 0, none⟩) 8 cg)) (hP : Pts w (some ⟨g, 0, none⟩) huL) :
    Calls Tryz.prog 124 #[.slice (some ⟨gh, 0, none⟩) 1 c] w fun e w' => (∃ q cq, e = .returned (.slice (some ⟨q, 0, none⟩) 8 cq) ∧ Bx w' q (cellsLd huL) ∧ w.heap.size ≤ q) ∧ Up w w' := by
  obtain ⟨b0, o0, e0, hc0⟩ := hP.resolve_left (by simp [huL])
  obtain ⟨rfl, rfl⟩ : b0 = g ∧ o0 = 0 := by
    simp only [Option.some.injEq, Addr.mk.injEq, and_true] at e0
    exact ⟨e0.1.symm, e0.2.symm⟩
  have hu0 := pts_huP hc0 0 (by omega)
  rw [huP_0] at hu0
  simp only [Nat.zero_mul, Nat.zero_add] at hu0
  have HPl := hide (fun x y p q W e1 e2 => p_plusL x y p q W e1 e2)
  have HSi := hide (fun W (hW : Up w W) => p_sidesH (some ⟨b0, 0, none⟩) cg W (pts_up hP hW))
  have HSo := hide (fun A cap W (hA : Pts W A waL) => p_sortW A waL cap W hA waL_sr waL_nr rfl)
  have HCw := hide (fun x y p q W e1 e2 e3 => p_ways x y p q W e1 e2 e3)
  obtain ⟨i0', hi, hz0, hz1, hz2⟩ := info_parts info_pt
  have HI := hide hi
  have HC := hide h
  have HU0 := hide hu0
  clear hP hc0 hi hu0 h e0
  go_enter Tryz.func124, Tryz.ntmps124
  go_upto_region 2 with fail
  refine at_wpC (fun W0 hW0 => ?_)
  have U0 : Up w W0 := by rw [hW0]; exact (by repeat' (first | (with_reducible exact up_refl _) | (with_reducible assumption) | (with_reducible refine up_alloc ?_ _) | (with_reducible refine up_drewN ?_ _) | (with_reducible refine up_drew ?_) | (with_reducible refine up_set ?_ (by first | (simp; done) | (simp; omega) | omega) _) | (refine up_trans ?_ (by with_reducible assumption))))
  have bT : Bx W0 w.heap.size [.int .i64 0, .int .i64 0] := by rw [hW0]; exact bx_new w _ _
  obtain ⟨gt, hg⟩ : ∃ g, w.heap.size = g := ⟨_, rfl⟩
  rw [hg] at bT ⊢
  have HG := hide hg
  clear hW0 hg
  go_upto_region 4 with fail
  go_loopw [4, 12] (fun s4 s12 wr => ((s12 = .int .i64 0 ∧ s4 = .slice none 0 0 ∧ Bx wr gt [.int .i64 0, .int .i64 0]) ∨ (s12 = .int .i64 1 ∧ (∃ q cq, s4 = .slice (some ⟨q, 0, none⟩) 8 cq ∧ Bx wr q (cellsLd waL) ∧ gt < q) ∧ Bx wr gt [.int .i64 (-1500), .int .i64 0])) ∧ Up w wr) (fun _ s12 _ => 1 - (intOf s12).toNat)
  case atStart => exact ⟨.inl ⟨rfl, rfl, bT⟩, U0⟩
  case round =>
    clear bT U0
    obtain ⟨hO, hu⟩ := hrel
    rcases hO with ⟨rfl, rfl, bT⟩ | ⟨rfl, ⟨q, cq, rfl, bW, hgq⟩, bT⟩
    · have c0 := up_cell hu (unhide HC)
      obtain ⟨d0, d1⟩ := unhide HU0
      have d0' := up_cell hu d0
      have d1' := up_cell hu d1
      obtain ⟨y0, y1⟩ := bx2 bT
      obtain ⟨f0, f1⟩ := bxf2 bT
      have HP0 := hide (fun W => unhide HPl 0 0 (-1500) 0 W (i64_small (by omega)) (i64_small (by omega)))
      clear d0 d1
      go_upto_region 6 with fail
      clear c0
      go_region_law (refine step_callL _ rfl 123 #[pt 0 0, pt (-1500) 0] (by first | (go_simp; done) | kernel_rfl) ?_; refine (unhide HP0 _).mono ?_; rintro e w7 ⟨rfl, u7⟩; refine ⟨_, rfl, ?_⟩; have z0 := up_cell u7 y0; have z1 := up_cell u7 y1; have z2 := up_frozen u7 y0 f0; have z3 := up_frozen u7 y1 f1)
      all_goals
        have bT8 := bx_set (bx_set (bx_up bT (up_trans (by repeat' (first | (with_reducible exact up_refl _) | (with_reducible assumption) | (with_reducible refine up_alloc ?_ _) | (with_reducible refine up_drewN ?_ _) | (with_reducible refine up_drew ?_) | (with_reducible refine up_set ?_ (by first | (simp; done) | (simp; omega) | omega) _) | (refine up_trans ?_ (by with_reducible assumption)))) u7)) 0 (.int .i64 (-1500))) 1 (.int .i64 0)
        have U8 := up_set (up_set (up_trans hu (up_trans (by repeat' (first | (with_reducible exact up_refl _) | (with_reducible assumption) | (with_reducible refine up_alloc ?_ _) | (with_reducible refine up_drewN ?_ _) | (with_reducible refine up_drew ?_) | (with_reducible refine up_set ?_ (by first | (simp; done) | (simp; omega) | omega) _) | (refine up_trans ?_ (by with_reducible assumption)))) u7)) (p := ⟨gt, 0, none⟩) (by simp only; have := unhide HG; omega) (.int .i64 (-1500))) (p := ⟨gt, 1, none⟩) (by simp only; have := unhide HG; omega) (.int .i64 0)
        generalize (w7.setCell ⟨gt, 0, none⟩ (.int .i64 (-1500))).setCell ⟨gt, 1, none⟩ (.int .i64 0) = W8 at bT8 U8 ⊢
        clear bT u7 z0 z1 z2 z3 y0 y1 f0 f1 d0' d1' hu HP0
        go_wp2_with (first
          | (go_at_call 152; (with_reducible refine (unhide HSi _ U8).mono ?_); rintro e w9 ⟨⟨qs, cs, rfl, hos⟩, u9⟩; have HOS := hide (bx_ownL hos); clear hos)
          | (at_builtin; refine wpList_append_own_at _ rfl _ _ 37 rfl w9.heap.size 55 i0' _ 2 16 Tryz.underlying37 (unhide HI) hz0 hz1 hz2 rfl (by decide) (.slice none 0 0) 0 [] rfl (World.ownsRow_nil _ _ _ _) ⟨qs, 0, none⟩ 8 cs (cellsLd waL) rfl rfl (fun j u hj => by rw [addr_addL, Nat.zero_add]; exact (unhide HOS j u hj).1) cellsLd_one (by unfold maxLen; omega) (by omega) (Nat.le_refl _) ?_; intro v4 WA hown hgr _ _))
        have bT9 := bx_grownC (bx_up bT8 u9) hgr (fun e => by simp [Value.ownBlock] at e)
        have U9 := (up_trans U8 u9).grown hgr (up_trans U8 u9).size (fun j e => by simp [Value.ownBlock] at e)
        obtain ⟨q, cq, rfl, bq, hqq⟩ : ∃ q cq, v4 = .slice (some ⟨q, 0, none⟩) 8 cq ∧ Bx WA q (cellsLd waL) ∧ w9.heap.size ≤ q := by
          rcases hown.2 with ⟨_, h2⟩ | ⟨g', c', cur, h1, h3, _⟩
          · omega
          · exact ⟨g', c', h1, by rw [h1] at hown; exact bx_ownL hown, h3⟩
        have hgt : gt < w9.heap.size := bx_lt (bx_up bT8 u9) (by simp)
        clear hown hgr
        go_roundw
        case rel => exact ⟨.inr ⟨rfl, ⟨q, cq, rfl, bq, by omega⟩, bT9⟩, U9⟩
        case measure => simp [intOf]
    · have i1 : ¬ (1 : Int) < 1 := by omega
      have hPW := pts_bxL bW
      go_upto_region 10 with (go_at_call 153; (with_reducible refine (unhide HSo _ _ _ hPW).mono ?_); rintro e w3 ⟨rfl, u3⟩)
      have bW3 := bx_up bW u3
      have bT3 := bx_up bT u3
      have U3 := up_trans hu u3
      clear bW bT hu u3 hPW HSo HSi
      obtain ⟨y0, y1⟩ := bx2 bT3
      go_upto_region 11 with fail
      refine at_wpC (fun W4 hW4 => ?_)
      have u34 : Up w3 W4 := by rw [hW4]; exact (by repeat' (first | (with_reducible exact up_refl _) | (with_reducible assumption) | (with_reducible refine up_alloc ?_ _) | (with_reducible refine up_drewN ?_ _) | (with_reducible refine up_drew ?_) | (with_reducible refine up_set ?_ (by first | (simp; done) | (simp; omega) | omega) _) | (refine up_trans ?_ (by with_reducible assumption))))
      have ow4 : W4.ownsRow w3.heap.size 55 2 (.slice (some ⟨w3.heap.size, 0, none⟩) 1 1) 1 (cellsLd (huL.take 1)) := by
        rw [hW4, show huL.take 1 = [(-1500, 0)] from rfl]
        exact World.ownsRow_lit w3 #[.int .i64 (-1500), .int .i64 0] 1 (Nat.le_refl _) (by unfold maxLen; omega) rfl
      have hq3 : q < w3.heap.size := bx_lt bW3 (by simp [cellsLd, waL])
      have hg3 : gt < w3.heap.size := bx_lt bT3 (by simp)
      have hw3 : w.heap.size ≤ w3.heap.size := U3.size
      have bW4 := bx_up bW3 u34
      have bT4 := bx_up bT3 u34
      have U4 := up_trans U3 u34
      clear hW4 u34 bW3 bT3 U3 y0 y1
      go_upto_region 12 with fail
      go_loopw [7, 32] (fun s7 s32 wx => ∃ (k : Nat) (x y : Int), k ≤ 8 ∧ s32 = .int .i64 k ∧ huP (k % 8) = (x, y) ∧ Bx wx gt [.int .i64 x, .int .i64 y] ∧ Bx wx q (cellsLd waL) ∧ wx.ownsRow w3.heap.size 55 2 s7 (min (k + 1) 8) (cellsLd (huL.take (min (k + 1) 8))) ∧ Up w wx) (fun _ s32 _ => 8 - (intOf s32).toNat)
      case atStart => exact ⟨0, -1500, 0, by omega, rfl, huP_0, bT4, bW4, ow4, U4⟩
      case round =>
        clear bT4 bW4 ow4 U4
        obtain ⟨k, x, y, hk, rfl, hxy, bT, bW, ow, hu⟩ := hrel
        by_cases hlt : k < 8
        · rw [Nat.mod_eq_of_lt hlt] at hxy
          obtain ⟨c0, c1⟩ := bx_waP bW k hlt
          have n1 := huP_nr k hlt
          have n2 := waP_nr k hlt
          have hadd := huP_add k hlt
          rw [hxy] at n1 hadd
          unfold Nr at n1 n2
          dsimp only at n1 hadd
          have hne : k < 7 → cwF (waP k).1 (waP k).2 (waP (k + 1)).1 (waP (k + 1)).2 ≠ 0 := fun h => waP_ne k h
          have n3 : k < 7 → Nr 4000 (waP (k + 1)) := fun h => waP_nr (k + 1) (by omega)
          unfold Nr at n3
          have hc1 : k < 7 → wr.cell? ⟨q, (k + 1) * 2, none⟩ = some (.int .i64 (waP (k + 1)).1) ∧ wr.cell? ⟨q, (k + 1) * 2 + 1, none⟩ = some (.int .i64 (waP (k + 1)).2) := fun h => bx_waP bW (k + 1) (by omega)
          have HP1 := hide (fun W => unhide HPl x y (waP k).1 (waP k).2 W (i64_small (by omega)) (i64_small (by omega)))
          generalize (waP k).1 = wx at *
          generalize (waP k).2 = wy at *
          obtain ⟨x', hx'⟩ : ∃ r, x + wx = r := ⟨_, rfl⟩
          obtain ⟨y', hy'⟩ : ∃ r, y + wy = r := ⟨_, rfl⟩
          rw [hx', hy'] at HP1 hadd
          have HAdd := hide hadd
          have HNe := hide hne
          have HN3 := hide n3
          have HN2 := hide n2
          have HC1 := hide hc1
          have OW := hide ow
          have k0 : (0 : Int) ≤ (k : Int) := by omega
          have k1 : (k : Int) < 8 := by omega
          have k3 : (k : Int).toNat = k := by omega
          have hwk : IntKind.i64.wrap ((k : Int) + 1) = (k : Int) + 1 := IntWalk.i64_in _ ⟨by omega, by omega⟩
          clear hx' hy' hadd hne n1 n2 n3 hc1 ow hxy
          go_upto_region 14 with fail
          refine at_wpC (fun W5 hW5 => ?_)
          have u5 : Up wr W5 := by rw [hW5]; exact (by repeat' (first | (with_reducible exact up_refl _) | (with_reducible assumption) | (with_reducible refine up_alloc ?_ _) | (with_reducible refine up_drewN ?_ _) | (with_reducible refine up_drew ?_) | (with_reducible refine up_set ?_ (by first | (simp; done) | (simp; omega) | omega) _) | (refine up_trans ?_ (by with_reducible assumption))))
          have b9 : Bx W5 wr.heap.size [.int .i64 wx, .int .i64 wy] := by rw [hW5]; exact bx_new wr _ _
          obtain ⟨g9, hg⟩ : ∃ g, wr.heap.size = g := ⟨_, rfl⟩
          have hgt9 : gt < g9 := by rw [← hg]; exact bx_lt bT (by simp)
          have hq9 : q < g9 := by rw [← hg]; exact World.block_lt_of_cell? _ _ c0
          rw [hg] at b9 ⊢
          have OW5 := hide (own_up (unhide OW) u5)
          have HOb := hide (show ∀ r, u7.ownBlock = some r → r < g9 from fun r e => by rw [← hg]; exact ((unhide OW).lt r e).2)
          have bT5 := bx_up bT u5
          have bW5 := bx_up bW u5
          have U5 := up_trans hu u5
          have HC15 := hide (fun h => (⟨up_cell u5 (unhide HC1 h).1, up_cell u5 (unhide HC1 h).2⟩ : _ ∧ _))
          clear hW5 hg u5 bT bW hu OW c0 c1 HC1
          obtain ⟨y0, y1⟩ := bx2 bT5
          obtain ⟨z0, z1⟩ := bx2 b9
          go_upto_region 15 with (go_at_call 123; (with_reducible refine (unhide HP1 _).mono ?_); rintro e w6 ⟨rfl, u6⟩; have bT6 := bx_up bT5 u6; obtain ⟨f0, f1⟩ := bxf2 bT6; obtain ⟨t0, t1⟩ := bx2 bT6)
          have hw3' : w.heap.size ≤ gt := Nat.le_of_eq (unhide HG)
          have BT := bx_set (bx_set bT6 0 (.int .i64 x')) 1 (.int .i64 y')
          have B9 := bx_far (bx_far (bx_up b9 u6) (p := ⟨gt, 0, none⟩) (by simp only; omega) (.int .i64 x')) (p := ⟨gt, 1, none⟩) (by simp only; omega) (.int .i64 y')
          have BW := bx_far (bx_far (bx_up bW5 u6) (p := ⟨gt, 0, none⟩) (by simp only; omega) (.int .i64 x')) (p := ⟨gt, 1, none⟩) (by simp only; omega) (.int .i64 y')
          have OW6 := ownsRow_setCell_below (ownsRow_setCell_below (own_up (unhide OW5) u6) (a := ⟨gt, 0, none⟩) (by simp only; omega) (.int .i64 x')) (a := ⟨gt, 1, none⟩) (by simp only; omega) (.int .i64 y')
          have U6 := up_set (up_set (up_trans U5 u6) (p := ⟨gt, 0, none⟩) (by simp only; omega) (.int .i64 x')) (p := ⟨gt, 1, none⟩) (by simp only; omega) (.int .i64 y')
          clear f0 f1 t0 t1 y0 y1 z0 z1 bT5 b9 bW5 OW5 U5 bT6 u6 HC15
          generalize (w6.setCell ⟨gt, 0, none⟩ (.int .i64 x')).setCell ⟨gt, 1, none⟩ (.int .i64 y') = W6 at *
          by_cases h7 : k < 7
          · obtain ⟨d0, d1⟩ := bx_waP BW (k + 1) (by omega)
            have n3 := unhide HN3 h7
            have n2 := unhide HN2
            have e1 := mul_nr (x := wx) (y := (waP (k + 1)).2) n2.1 n3.2 (by omega)
            have e2 := mul_nr (x := wy) (y := (waP (k + 1)).1) n2.2 n3.1 (by omega)
            have HCm := hide (fun W => unhide HCw wx wy (waP (k + 1)).1 (waP (k + 1)).2 W (i64_small (by omega)) (i64_small (by omega)) (i64_small (by omega)))
            have hne := unhide HNe h7
            generalize (waP (k + 1)).1 = vx at *
            generalize (waP (k + 1)).2 = vy at *
            obtain ⟨cc, hcc⟩ : ∃ c, cwF wx wy vx vy = c := ⟨_, rfl⟩
            rw [hcc] at HCm hne
            have q1 : (cc == 0) = false := by simp [hne]
            have q2 : (k : Int) < 7 := by omega
            have q3 : decide ((k : Int) < 7) = true := decide_eq_true q2
            have q4 : decide (k < 7) = true := decide_eq_true h7
            have j0 : (0 : Int) ≤ (k : Int) + 1 := by omega
            have j1 : (k : Int) + 1 < 8 := by omega
            have j3 : ((k : Int) + 1).toNat = k + 1 := by omega
            have m0 : ∀ r : UpW W6, r.v.cell? ⟨g9, 0, none⟩ = some (.int .i64 wx) := fun r => (bx_up B9 r.up 0 _ rfl).1
            have m1 : ∀ r : UpW W6, r.v.cell? ⟨g9, 1, none⟩ = some (.int .i64 wy) := fun r => (bx_up B9 r.up 1 _ rfl).1
            have m2 := fun r : UpW W6 => up_cell r.up d0
            have m3 := fun r : UpW W6 => up_cell r.up d1
            clear d0 d1 hcc hne n3 n2 e1 e2
            refine wp_upq (by kernel_rfl) (by kernel_rfl) ?_; (repeat (go_big_quiet_step ((go_at_call 154; exact upq (unhide HCm _))))); refine wpQuiet_nil ?_; intro _ hw'; obtain ⟨pq, hw''⟩ := hw'; subst hw''; have hpq := pq.up
            generalize pq.v = W7 at hpq ⊢
            have BT7 := bx_up BT hpq
            have BW7 := bx_up BW hpq
            have OW7 := hide (own_up OW6 hpq)
            have U7 := up_trans U6 hpq
            have hs7 : w3.heap.size ≤ W7.heap.size := by
              rcases OW6.2 with ⟨_, h2⟩ | ⟨g', c', cur, h1, h3, h4, _⟩
              · omega
              · have := (Array.getElem?_eq_some_iff.1 h4).1
                have := hpq.size
                omega
            have hmk : min (k + 1) 8 = k + 1 := by omega
            have hmk2 : min (k + 1 + 1) 8 = k + 1 + 1 := by omega
            have HCx := hide (show cellsLd (huL.take (min (k + 1 + 1) 8)) = cellsLd (huL.take (min (k + 1) 8)) ++ [.int .i64 x', .int .i64 y'] by
              have ha := unhide HAdd
              rw [Nat.mod_eq_of_lt (by omega)] at ha
              rw [hmk, hmk2, huL_take (k + 1) (by omega), ← ha, cellsLd_snoc])
            clear m0 m1 m2 m3 BT BW OW6 U6 hpq B9 HCm
            obtain ⟨y0, y1⟩ := bx2 BT7
            go_wp2_with (at_builtin; refine wpList_append_own_at _ rfl _ _ 37 rfl w3.heap.size 55 i0' _ 2 16 Tryz.underlying37 (unhide HI) hz0 hz1 hz2 rfl (by decide) u7 (min (k + 1) 8) (cellsLd (huL.take (min (k + 1) 8))) rfl ((unhide OW7).alloc _) ⟨W7.heap.size, 0, none⟩ 1 1 [.int .i64 x', .int .i64 y'] rfl rfl (news_pt _ _ _) (by intro u hu; simp at hu; rcases hu with rfl | rfl <;> rfl) (by unfold maxLen; omega) (by omega) (by simp; omega) ?_; intro v7 W8 hown hgr _ _)
            have R1 := hide (show W8.ownsRow w3.heap.size 55 2 v7 (min (k + 1 + 1) 8) (cellsLd (huL.take (min (k + 1 + 1) 8))) by
              rw [unhide HCx, show min (k + 1 + 1) 8 = min (k + 1) 8 + 1 by omega]
              exact hown)
            have R2 := bx_grownC (bx_up BT7 (up_alloc (up_refl _) _)) hgr (fun e => by have := ((unhide OW7).lt gt e).1; omega)
            have R3 := bx_grownC (bx_up BW7 (up_alloc (up_refl _) _)) hgr (fun e => by have := ((unhide OW7).lt q e).1; omega)
            have R4 : Up w W8 := (up_alloc U7 _).grown hgr (up_alloc U7 _).size (fun j e => by have := ((unhide OW7).lt j e).1; omega)
            clear hown hgr
            go_roundw
            case rel => exact ⟨k + 1, x', y', by omega, by go_num, (unhide HAdd).symm, R2, R3, unhide R1, R4⟩
            case measure => simp [intOf]; omega
          · have hk7 := hide (show k = 7 by omega)
            have q2 : ¬ (k : Int) < 7 := by omega
            have q3 : decide ((k : Int) < 7) = false := decide_eq_false q2
            have q4 : decide (k < 7) = false := decide_eq_false h7
            have OW7 := hide OW6
            clear OW6
            refine wp_upq (by kernel_rfl) (by kernel_rfl) ?_; (repeat (go_big_quiet_step (fail))); refine wpQuiet_nil ?_; intro _ hw'; obtain ⟨pq, hw''⟩ := hw'; subst hw''; have hpq := pq.up
            generalize pq.v = W7 at hpq ⊢
            have R1 := hide (show W7.ownsRow w3.heap.size 55 2 u7 (min (k + 1 + 1) 8) (cellsLd (huL.take (min (k + 1 + 1) 8))) by
              have h7' := unhide hk7
              rw [show min (k + 1 + 1) 8 = min (k + 1) 8 by omega]
              exact own_up (unhide OW7) hpq)
            have R2 := bx_up BT hpq
            have R3 := bx_up BW hpq
            have R4 := up_trans U6 hpq
            clear BT BW OW7 U6 hpq B9
            go_wp2_with fail
            go_roundw
            case rel => exact ⟨k + 1, x', y', by omega, by go_num, (unhide HAdd).symm, R2, R3, unhide R1, R4⟩
            case measure => simp [intOf]; omega
        · obtain rfl : k = 8 := by omega
          have i1 : ¬ ((8 : Nat) : Int) < 8 := by omega
          rw [show min (8 + 1) 8 = 8 from rfl, show huL.take 8 = huL from rfl] at ow
          obtain ⟨q4, c4, rfl, hq4⟩ : ∃ q c, u7 = .slice (some ⟨q, 0, none⟩) 8 c ∧ w3.heap.size ≤ q := by
            rcases ow.2 with ⟨_, h2⟩ | ⟨g', c', cur, h1, h3, _⟩
            · omega
            · exact ⟨g', c', h1, h3⟩
          have BQ := hide (bx_ownL ow)
          have hwq : w.heap.size ≤ q4 := by omega
          clear ow bT bW hxy
          go_wp2_with fail
          go_ret
          exact ⟨⟨q4, ⟨c4, rfl⟩, unhide BQ, hwq⟩, hu⟩
end Go.Proofs.YtdehnokcjnbjoaaGreat
