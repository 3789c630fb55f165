/- load.hold of the example's load, without lashings. -/
import Derived.Test.YtdehnokcjnbjoaaGreatLdL
namespace Go.Proofs.YtdehnokcjnbjoaaGreat
open Go.RowKit Go.Proofs.Gn
attribute [local go_sem] Oper.semAt_some
set_option linter.unusedVariables false
/-- The first of the directions that proves that what is needed cannot be reached. -/
def hoF (my : Int × Int) : Int × Int × Int := match diL.find? (fun n => huL.all fun d => prF d my n) with
  | some n => (n.1, n.2, 20)
  | none => (0, 0, 0)
theorem diP_nr : ∀ k, k < 8 → Nr 4000 (diP k) := by unfold Nr; decide
theorem hoF_at {m : Int × Int} {k : Nat} (hk : k < 8) (h0 : ∀ j, j < k → (huL.all fun d => prF d m (diP j)) = false) (h : (huL.all fun d => prF d m (diP k)) = true) : hoF m = ((diP k).1, (diP k).2, 20) := by
  have e : diL = (List.range 8).map diP := by decide
  have q : diL.find? (fun n => huL.all fun d => prF d m n) = some (diP k) := by
    have hs : diL = diL.take k ++ diP k :: diL.drop (k + 1) := by
      revert k
      intro k hk _ _
      have : ∀ k, k < 8 → diL = diL.take k ++ diP k :: diL.drop (k + 1) := by decide
      exact this k hk
    rw [hs, List.find?_append]
    have hn : (diL.take k).find? (fun n => huL.all fun d => prF d m n) = none := by
      rw [List.find?_eq_none]
      intro n hn
      obtain ⟨j, hj, rfl⟩ := List.mem_iff_getElem.1 hn
      have hj2 : j < k := by
        have := hj
        rw [List.length_take] at this
        omega
      have : (diL.take k)[j] = diP j := by
        rw [List.getElem_take]
        have hl : j < diL.length := by simp [diL]; omega
        unfold diP
        simp [hl]
      rw [this, h0 j hj2]
      decide
    rw [hn, List.find?_cons_of_pos (by exact h)]
    rfl
  unfold hoF
  rw [q]
theorem hoF_no {m : Int × Int} (h0 : ∀ j, j < 8 → (huL.all fun d => prF d m (diP j)) = false) : hoF m = (0, 0, 0) := by
  have q : diL.find? (fun n => huL.all fun d => prF d m n) = none := by
    rw [List.find?_eq_none]
    intro n hn
    have e : diL = (List.range 8).map diP := by decide
    rw [e] at hn
    obtain ⟨j, hj, rfl⟩ := List.mem_map.1 hn
    rw [h0 j (List.mem_range.1 hj)]
    decide
  unfold hoF
  rw [q]
theorem hoF_slips : hoF (1505, 0) = (1060, -440, 20) := by decide
theorem hoF_holds : hoF (1500, 0) = (0, 0, 0) := by decide
theorem bx_diP {W : World} {g : Nat} (h : Bx W g (cellsLd diL)) (k : Nat) (hk : k < 8) : W.cell? ⟨g, k * 2, none⟩ = some (.int .i64 (diP k).1) ∧ W.cell? ⟨g, k * 2 + 1, none⟩ = some (.int .i64 (diP k).2) := by
  have hl : k < diL.length := by simp [diL]; omega
  have e : diP k = diL[k] := by unfold diP; simp [hl]
  rw [e]
  obtain ⟨a0, a1⟩ := cellsLd_at hl
  exact ⟨(h _ _ a0).1, (h _ _ a1).1⟩
set_option maxRecDepth 100000 in
set_option maxHeartbeats 16000000 in
theorem p_holdH (s : ByteArray) (A : Option Addr) (ps : List Pce) (capA : Nat) (B : Option Addr) (m capB : Nat) (x : Int) (w : World) (hA : Pcs w A ps) (ho : okPs ps = true) (hn : ps.length ≤ 32) (hm : mas ps = 5000) (hx : 0 ≤ x ∧ x ≤ 301) :
    Calls Tryz.prog 87 #[loV s A ps.length capA B m capB 300, .slice none 0 0, shV x] w fun e w' => e = .returned (.tuple #[pt (hoF ((5000 * x + 999) / 1000, 0)).1 (hoF ((5000 * x + 999) / 1000, 0)).2.1, .int .i64 (hoF ((5000 * x + 999) / 1000, 0)).2.2]) ∧ Up w w' := by
  have HN := hide (fun W (hW : Up w W) => p_needH s A ps capA B m capB x W (pcs_up hA hW) ho hn hm hx)
  have HR := hide (fun W (hW : Up w W) => p_reachH s A ps capA B m capB x W (pcs_up hA hW) ho hn hm)
  have HD := hide (fun q c W h => p_dirsH (some ⟨q, 0, none⟩) c W h)
  obtain ⟨n, hnn⟩ : ∃ n, ps.length = n := ⟨_, rfl⟩
  rw [hnn] at HN HR ⊢
  obtain ⟨r, hr⟩ : ∃ r, (5000 * x + 999) / 1000 = r := ⟨_, rfl⟩
  have hr1 : -4000 ≤ r ∧ r ≤ 4000 := by omega
  rw [hr] at HN ⊢
  have HP := hide (fun q c nx ny W h hn => p_provesH (some ⟨q, 0, none⟩) c r 0 nx ny W h ⟨hr1, by dsimp only; omega⟩ hn)
  have H0 := hide (fun k (hk : k < 8) h0 h => hoF_at (m := (r, 0)) hk h0 h)
  have H1 := hide (fun h0 => hoF_no (m := (r, 0)) h0)
  clear hA ho hn hm hnn hr
  go_enter Tryz.func87, Tryz.ntmps87
  go_upto_region 1 with fail
  refine at_wpC (fun W0 hW0 => ?_)
  have U0 : Up w W0 := by rw [hW0]; exact (by repeat' (first | (with_reducible exact up_refl _) | (with_reducible assumption) | (with_reducible refine up_alloc ?_ _) | (with_reducible refine up_drewN ?_ _) | (with_reducible refine up_drew ?_) | (with_reducible refine up_set ?_ (by first | (simp; done) | (simp; omega) | omega) _) | (refine up_trans ?_ (by with_reducible assumption))))
  obtain ⟨bL, bS, bR⟩ : Bx W0 w.heap.size [.string s, .slice A n capA, .slice B m capB, .int .i64 300] ∧ Bx W0 (w.heap.size + 1) [.int .i64 x, .int .i64 0, .int .i64 1000] ∧ Bx W0 (w.heap.size + 1 + 1) [.int .i64 0, .int .i64 0] := by
    rw [hW0]
    exact bxd3 w [.string s, .slice A n capA, .slice B m capB, .int .i64 300] [.int .i64 x, .int .i64 0, .int .i64 1000] [.int .i64 0, .int .i64 0] _ _ _
  clear hW0
  have HS := hide (fun W (hW : Up W0 W) => (⟨bx_cell (bx_up bL hW) (k := 0) rfl, bx_cell (bx_up bL hW) (k := 1) rfl, bx_cell (bx_up bL hW) (k := 2) rfl, bx_cell (bx_up bL hW) (k := 3) rfl, bx_cell (bx_up bS hW) (k := 0) rfl, bx_cell (bx_up bS hW) (k := 1) rfl, bx_cell (bx_up bS hW) (k := 2) rfl, hW⟩ : (fun wx => wx.cell? ⟨w.heap.size, 0, none⟩ = some (.string s) ∧ wx.cell? ⟨w.heap.size, 1, none⟩ = some (.slice A n capA) ∧ wx.cell? ⟨w.heap.size, 2, none⟩ = some (.slice B m capB) ∧ wx.cell? ⟨w.heap.size, 3, none⟩ = some (.int .i64 300) ∧ wx.cell? ⟨w.heap.size + 1, 0, none⟩ = some (.int .i64 x) ∧ wx.cell? ⟨w.heap.size + 1, 1, none⟩ = some (.int .i64 0) ∧ wx.cell? ⟨w.heap.size + 1, 2, none⟩ = some (.int .i64 1000) ∧ Up W0 wx) W))
  clear bL bS
  go_cut [8, 9] (fun s8 s9 wx => ∃ gr cr gm : Nat, s8 = .slice (some ⟨gr, 0, none⟩) 8 cr ∧ s9 = .pointer (some ⟨gm, 0, none⟩) ∧ Bx wx gr (cellsLd huL) ∧ Bx wx gm [.int .i64 r, .int .i64 0] ∧ W0.heap.size ≤ gm ∧ Up W0 wx)
  case first =>
   go_region_held3 (fun wx => wx.cell? ⟨w.heap.size, 0, none⟩ = some (.string s) ∧ wx.cell? ⟨w.heap.size, 1, none⟩ = some (.slice A n capA) ∧ wx.cell? ⟨w.heap.size, 2, none⟩ = some (.slice B m capB) ∧ wx.cell? ⟨w.heap.size, 3, none⟩ = some (.int .i64 300) ∧ wx.cell? ⟨w.heap.size + 1, 0, none⟩ = some (.int .i64 x) ∧ wx.cell? ⟨w.heap.size + 1, 1, none⟩ = some (.int .i64 0) ∧ wx.cell? ⟨w.heap.size + 1, 2, none⟩ = some (.int .i64 1000) ∧ Up W0 wx) (first | (exact unhide HS _ (by repeat' (first | (with_reducible exact up_refl _) | (with_reducible assumption) | (with_reducible refine up_alloc ?_ _) | (with_reducible refine up_drewN ?_ _) | (with_reducible refine up_drew ?_) | (with_reducible refine up_set ?_ (by first | (simp; done) | (simp; omega) | omega) _) | (refine up_trans ?_ (by with_reducible assumption))))) | (with_reducible assumption))
    (first
      | (go_at_call 85; (with_reducible refine (unhide HN _ (up_trans U0 (by repeat' (first | (with_reducible exact up_refl _) | (with_reducible assumption) | (with_reducible refine up_alloc ?_ _) | (with_reducible refine up_drewN ?_ _) | (with_reducible refine up_drew ?_) | (with_reducible refine up_set ?_ (by first | (simp; done) | (simp; omega) | omega) _) | (refine up_trans ?_ (by with_reducible assumption)))))).mono ?_); rintro e w7 ⟨rfl, u7⟩; have u87 : Up w8 w7 := (by repeat' (first | (with_reducible exact up_refl _) | (with_reducible assumption) | (with_reducible refine up_alloc ?_ _) | (with_reducible refine up_drewN ?_ _) | (with_reducible refine up_drew ?_) | (with_reducible refine up_set ?_ (by first | (simp; done) | (simp; omega) | omega) _) | (refine up_trans ?_ (by with_reducible assumption)))); have U7 : Up W0 w7 := up_trans U8 u87; have hz7 := U7.size; have hz87 := u87.size; (first | (have bm := bx_up bn u87; obtain ⟨n0, n1⟩ := bx2 bm; obtain ⟨n2, n3⟩ := bxf2 bm) | (have bm := bx_up (bx_new w8 [.int .i64 0, .int .i64 0] 55) u7; obtain ⟨n0, n1⟩ := bx2 bm; obtain ⟨n2, n3⟩ := bxf2 bm) | (have bm := bx_up (bx_drew (bx_new w8 [.int .i64 0, .int .i64 0] 55)) u7; obtain ⟨n0, n1⟩ := bx2 bm; obtain ⟨n2, n3⟩ := bxf2 bm) | (have bm := bx_up (bx_new w8.drew [.int .i64 0, .int .i64 0] 55) u7; obtain ⟨n0, n1⟩ := bx2 bm; obtain ⟨n2, n3⟩ := bxf2 bm) | skip))
      | (go_at_call 81; (with_reducible refine (unhide HR _ (up_trans U0 (by repeat' (first | (with_reducible exact up_refl _) | (with_reducible assumption) | (with_reducible refine up_alloc ?_ _) | (with_reducible refine up_drewN ?_ _) | (with_reducible refine up_drew ?_) | (with_reducible refine up_set ?_ (by first | (simp; done) | (simp; omega) | omega) _) | (refine up_trans ?_ (by with_reducible assumption)))))).mono ?_); rintro e w8 ⟨⟨gr, cr, rfl, br, hgr⟩, u8⟩; have U8 : Up W0 w8 := (by repeat' (first | (with_reducible exact up_refl _) | (with_reducible assumption) | (with_reducible refine up_alloc ?_ _) | (with_reducible refine up_drewN ?_ _) | (with_reducible refine up_drew ?_) | (with_reducible refine up_set ?_ (by first | (simp; done) | (simp; omega) | omega) _) | (refine up_trans ?_ (by with_reducible assumption)))); have hz8 := U8.size; have hg8 := bx_lt br (by simp [cellsLd, huL]); (try simp at hgr); have hgr0 : W0.heap.size ≤ gr := (by omega); (first | (have bn := bx_up (bx_drew (bx_new W0 [.int .i64 0, .int .i64 0] 55)) u8) | (have bn := bx_up (bx_new W0 [.int .i64 0, .int .i64 0] 55) u8) | (have bn := bx_up (bx_new W0.drew [.int .i64 0, .int .i64 0] 55) u8) | skip)))
   all_goals
     go_wp2_with fail
     go_meet
     first
       | exact ⟨gr, cr, w7.heap.size, rfl, rfl, bx_alloc (bx_up br u87) _, bx_new w7 [.int .i64 r, .int .i64 0] 55, hz7, up_alloc U7 _⟩
       | exact ⟨gr, cr, w8.heap.size, rfl, rfl, bx_far (bx_far (bx_up br u87) (p := ⟨w8.heap.size, 0, none⟩) (by simp only; omega) _) (p := ⟨w8.heap.size, 1, none⟩) (by simp only; omega) _, bx_set (bx_set bm 0 (.int .i64 r)) 1 (.int .i64 0), hz8, up_set (up_set U7 (p := ⟨w8.heap.size, 0, none⟩) (by simp only; omega) _) (p := ⟨w8.heap.size, 1, none⟩) (by simp only; omega) _⟩
       | exact ⟨gr, cr, W0.heap.size, rfl, rfl, bx_far (bx_far (bx_up br u87) (p := ⟨W0.heap.size, 0, none⟩) (by simp only; omega) _) (p := ⟨W0.heap.size, 1, none⟩) (by simp only; omega) _, bx_set (bx_set bm 0 (.int .i64 r)) 1 (.int .i64 0), Nat.le_refl _, up_set (up_set U7 (p := ⟨W0.heap.size, 0, none⟩) (by simp only; omega) _) (p := ⟨W0.heap.size, 1, none⟩) (by simp only; omega) _⟩
  case rest =>
  obtain ⟨gr, cr, gm, rfl, rfl, bG, bM, hgm, U1⟩ := hcut
  have bR1 := bx_up bR U1
  have U := up_trans U0 U1
  have hwR : w.heap.size ≤ w.heap.size + 1 + 1 := by omega
  have hdi := pts_bxL bG
  clear bR U1 U0 hgm
  go_upto_region 3 with (go_at_call 129; (with_reducible refine (unhide HD gr cr _ hdi).mono ?_); rintro e w3 ⟨⟨gd, cd, rfl, bD⟩, u3⟩; have bG3 := bx_up bG u3; have bM3 := bx_up bM u3; have bR3 := bx_up bR1 u3; have U3 := up_trans U u3; clear bG bM bR1 U u3 hdi)
  generalize w.heap.size + 1 + 1 = gR at *
  go_loopw [22] (fun s22 wr => ∃ k : Nat, k ≤ 8 ∧ s22 = .int .i64 k ∧ (∀ j, j < k → (huL.all fun d => prF d (r, 0) (diP j)) = false) ∧ Bx wr gr (cellsLd huL) ∧ Bx wr gm [.int .i64 r, .int .i64 0] ∧ Bx wr gd (cellsLd diL) ∧ Bx wr gR [.int .i64 0, .int .i64 0] ∧ Up w wr) (fun s22 _ => 8 - (intOf s22).toNat)
  case atStart => exact ⟨0, by omega, rfl, fun j hj => absurd hj (by omega), bG3, bM3, bD, bR3, U3⟩
  case round =>
    clear bG3 bM3 bD bR3 U3
    obtain ⟨k, hk, rfl, hall, bG, bM, bD, bR, hu⟩ := hrel
    by_cases hlt : k < 8
    · obtain ⟨c0, c1⟩ := bx_diP bD k hlt
      have n1 := diP_nr k hlt
      have HA := hide hall
      have H0k := hide (fun h => unhide H0 k hlt hall h)
      have HPk := hide (fun W h => unhide HP gr cr (diP k).1 (diP k).2 W h n1)
      have i0 : (0 : Int) ≤ (k : Int) := by omega
      have i1 : (k : Int) < 8 := by omega
      have i3 : (k : Int).toNat = k := by omega
      have hwk : IntKind.i64.wrap ((k : Int) + 1) = (k : Int) + 1 := IntWalk.i64_in _ ⟨by omega, by omega⟩
      rw [show ((diP k).1, (diP k).2) = diP k from rfl] at HPk
      obtain ⟨B, hB⟩ : ∃ B, (huL.all fun d => prF d (r, 0) (diP k)) = B := ⟨_, rfl⟩
      rw [hB] at HPk H0k
      have HB := hide hB
      generalize (diP k).1 = nx at *
      generalize (diP k).2 = ny at *
      clear hall n1 hB
      go_upto_region 5 with fail
      refine at_wpC (fun W6 hW6 => ?_)
      have u6 : Up wr W6 := by rw [hW6]; exact (by repeat' (first | (with_reducible exact up_refl _) | (with_reducible assumption) | (with_reducible refine up_alloc ?_ _) | (with_reducible refine up_drewN ?_ _) | (with_reducible refine up_drew ?_) | (with_reducible refine up_set ?_ (by first | (simp; done) | (simp; omega) | omega) _) | (refine up_trans ?_ (by with_reducible assumption))))
      have b5 : Bx W6 wr.heap.size [.int .i64 nx, .int .i64 ny] := by rw [hW6]; exact bx_new wr _ _
      obtain ⟨g5, hg⟩ : ∃ g, wr.heap.size = g := ⟨_, rfl⟩
      rw [hg] at b5 ⊢
      have hRl : gR < g5 := by rw [← hg]; exact bx_lt bR (by simp)
      have hul := hu.size
      have U6 := up_trans hu u6
      have bG6 := bx_up bG u6
      have bM6 := bx_up bM u6
      have bD6 := bx_up bD u6
      have bR6 := bx_up bR u6
      obtain ⟨m0, m1⟩ := bx2 bM6
      obtain ⟨y0, y1⟩ := bx2 b5
      have hpG := pts_bxL bG6
      clear hW6 hg hu u6 c0 c1 bG bM bD bR
      by_cases hp : B = true
      · subst hp
        have HF := hide (unhide H0k rfl)
        go_upto_region 6 with (go_at_call 92; (with_reducible refine (unhide HPk _ hpG).mono ?_); rintro e w9 ⟨rfl, u9⟩; have bR9 := bx_up bR6 u9; have b59 := bx_up b5 u9; have U9 := up_trans U6 u9; clear bR6 b5 U6 u9 y0 y1 m0 m1)
        obtain ⟨y0, y1⟩ := bx2 b59
        obtain ⟨r0, r1⟩ := bx2 bR9
        obtain ⟨f0, f1⟩ := bxf2 bR9
        go_wp2_with fail
        have B9 := bx_set (bx_set bR9 0 (.int .i64 nx)) 1 (.int .i64 ny)
        have UZ := up_set (up_set U9 (p := ⟨gR, 0, none⟩) (by simp only; omega) (.int .i64 nx)) (p := ⟨gR, 1, none⟩) (by simp only; omega) (.int .i64 ny)
        generalize (w9.setCell ⟨gR, 0, none⟩ (.int .i64 nx)).setCell ⟨gR, 1, none⟩ (.int .i64 ny) = W9 at B9 UZ ⊢
        have z0 := (B9 0 _ rfl).1
        have z1 := (B9 1 _ rfl).1
        refine bodyPost_ret (v := .tuple #[pt nx ny, .int .i64 20]) (by simp [results, Tryz.f87, go_sem, z0, z1]) rfl ?_
        exact ⟨by rw [unhide HF], UZ⟩
      · obtain rfl : B = false := by simpa using hp
        go_wp2_with (go_at_call 92; (with_reducible refine (unhide HPk _ hpG).mono ?_); rintro e w9 ⟨rfl, u9⟩; have bR9 := bx_up bR6 u9; have bG9 := bx_up bG6 u9; have bM9 := bx_up bM6 u9; have bD9 := bx_up bD6 u9; have U9 := up_trans U6 u9; clear bR6 bG6 bM6 bD6 b5 U6 u9 y0 y1 m0 m1)
        go_roundw
        case rel =>
          refine ⟨k + 1, by omega, by first | rfl | trivial | go_num, fun j hj => ?_, bG9, bM9, bD9, bR9, U9⟩
          by_cases he : j < k
          · exact unhide HA j he
          · obtain rfl : j = k := by omega
            exact unhide HB
        case measure => first | (simp [intOf]; done) | (simp [intOf]; omega)
    · obtain rfl : k = 8 := by omega
      have HF := hide (unhide H1 hall)
      have i1 : ¬ ((8 : Nat) : Int) < 8 := by omega
      obtain ⟨r0, r1⟩ := bx2 bR
      obtain ⟨f0, f1⟩ := bxf2 bR
      have hul := hu.size
      clear hall bG bM bD
      go_wp2_with fail
      have B9 := bx_set (bx_set bR 0 (.int .i64 0)) 1 (.int .i64 0)
      have UZ := up_set (up_set hu (p := ⟨gR, 0, none⟩) (by simp only; omega) (.int .i64 0)) (p := ⟨gR, 1, none⟩) (by simp only; omega) (.int .i64 0)
      generalize (wr.setCell ⟨gR, 0, none⟩ (.int .i64 0)).setCell ⟨gR, 1, none⟩ (.int .i64 0) = W9 at B9 UZ ⊢
      have z0 := (B9 0 _ rfl).1
      have z1 := (B9 1 _ rfl).1
      refine bodyPost_ret (v := .tuple #[pt 0 0, .int .i64 0]) (by simp [results, Tryz.f87, go_sem, z0, z1]) rfl ?_
      exact ⟨by rw [unhide HF], UZ⟩
end Go.Proofs.YtdehnokcjnbjoaaGreat
