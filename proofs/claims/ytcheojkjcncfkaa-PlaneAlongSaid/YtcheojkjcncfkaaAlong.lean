/- What Along returns, of the program and of the document's own answers. -/
import Derived.Test.YtcheojkjcncfkaaRefWay
import Derived.Test.YtcheojkjcncfkaaBody
import Derived.Test.YtcheojkjcncfkaaBx
namespace Go.Proofs.Ytcheojkjcncfkaa
open Go.RowKit Go.Proofs.Gn
/-- The point at s, from the piece k on, of which m are left; and its piece. -/
def atT (ps : Pl) : Nat → Nat → Int → Int × Int × Int
  | 0, _, _ => (px ps 0, py ps 0, 0)
  | m + 1, k, s => if 0 < far ps k ∧ s ≤ far ps k then (px ps k + near ((px ps (k + 1) - px ps k) * s) (far ps k), py ps k + near ((py ps (k + 1) - py ps k) * s) (far ps k), (k : Int)) else atT ps m (k + 1) (s - far ps k)
theorem atT_step (ps : Pl) (m k : Nat) (s : Int) : atT ps (m + 1) k s = if 0 < far ps k ∧ s ≤ far ps k then (px ps k + near ((px ps (k + 1) - px ps k) * s) (far ps k), py ps k + near ((py ps (k + 1) - py ps k) * s) (far ps k), (k : Int)) else atT ps m (k + 1) (s - far ps k) := rfl
theorem atT_zero (ps : Pl) (k : Nat) (s : Int) : atT ps 0 k s = (px ps 0, py ps 0, 0) := rfl
theorem far2 {W : World} {b o g : Nat} {v x y : Value} (hne : b ≠ g) (h : W.cell? ⟨b, o, none⟩ = some v) : ((W.setCell ⟨g, 0, none⟩ x).setCell ⟨g, 1, none⟩ y).cell? ⟨b, o, none⟩ = some v := by
  rw [World.cell?_setCell_other _ _ _ _ (fun e => hne (by injection e with e; exact e.symm)), World.cell?_setCell_other _ _ _ _ (fun e => hne (by injection e with e; exact e.symm))]
  exact h
def atR (t : Int × Int × Int) : Value := .tuple #[pt t.1 t.2.1, .int .i64 t.2.2]
set_option maxRecDepth 100000 in
set_option maxHeartbeats 4000000 in
theorem p_along (A : Option Addr) (ps : Pl) (cap : Nat) (s : Int) (w : World) (h : Pts w A ps) (c1 : ps.length ≤ 256) (c3 : 0 < ps.length) (ho : okL ps = true) (s0 : 0 ≤ s) (s1 : s ≤ 1099511627776) :
    Calls Try.prog 64 #[.slice A ps.length cap, .int .i64 s] w fun e w' => e = .returned (atR (atT ps (ps.length - 1) 0 s)) ∧ Up w w' := by
  rcases h with rfl | ⟨b, off, rfl, hc⟩
  · simp at c3
  have HO := hide ho
  have HC := hide hc
  clear hc ho
  obtain ⟨n, hN⟩ : ∃ n, ps.length = n := ⟨_, rfl⟩
  rw [hN] at c1 c3 ⊢
  have HN := hide hN
  clear hN
  obtain ⟨T, hT⟩ : ∃ T, atT ps (n - 1) 0 s = T := ⟨_, rfl⟩
  rw [hT]
  have HT := hide hT
  clear hT
  go_enter Try.func64, Try.ntmps64
  go_wp2_with fail
  go_loopw [1, 12] (fun t i wr => ∃ (k : Nat) (s : Int), k ≤ n - 1 ∧ i = .int .i64 k ∧ t = .int .i64 s ∧ 0 ≤ s ∧ s ≤ 1099511627776 ∧ atT ps (n - 1 - k) k s = T ∧ Up w wr ∧ Bx wr w.heap.size [.int .i64 0, .int .i64 0]) (fun _ i _ => n - (intOf i).toNat)
  case atStart => exact ⟨0, s, by omega, rfl, rfl, s0, s1, unhide HT, (by repeat' (first | (with_reducible exact up_refl _) | (with_reducible assumption) | (with_reducible refine up_alloc ?_ _) | (with_reducible refine up_drewN ?_ _) | (with_reducible refine up_drew ?_) | (with_reducible refine up_set ?_ (by first | (simp; done) | (simp; omega) | omega) _) | (refine up_trans ?_ (by with_reducible assumption)))), bx_new w [.int .i64 0, .int .i64 0] 24⟩
  case round =>
    clear HT s0 s1
    obtain ⟨k, s, hk, rfl, rfl, s0, s1, hT, hu, hbx⟩ := hrel
    have HT := hide hT
    clear hT
    by_cases hlt : k < n - 1
    · have hlt2 : (k : Int) < (n : Int) - 1 := by omega
      have hl0 : k < ps.length := by rw [unhide HN]; omega
      have hl1 : k + 1 < ps.length := by rw [unhide HN]; omega
      have q0 := pts_get (unhide HC) hl0
      have q1 := pts_get (unhide HC) hl1
      have d0 := up_cell hu q0.1
      have d1 := up_cell hu q0.2
      have d2 := up_cell hu q1.1
      have d3 := up_cell hu q1.2
      have fb := far_bd (unhide HO) hl1
      have o0 := okL_get (unhide HO) hl0
      have o1 := okL_get (unhide HO) hl1
      have at1 := atT_step ps (n - 1 - k - 1) k s
      have hk1 : n - 1 - k = n - 1 - k - 1 + 1 := by omega
      rw [← hk1] at at1
      obtain ⟨F, hF⟩ : ∃ F, far ps k = F := ⟨_, rfl⟩
      rw [hF] at fb at1
      unfold far at hF
      obtain ⟨x0, hx0⟩ : ∃ x, px ps k = x := ⟨_, rfl⟩
      obtain ⟨y0, hy0⟩ : ∃ x, py ps k = x := ⟨_, rfl⟩
      obtain ⟨x1, hx1⟩ : ∃ x, px ps (k + 1) = x := ⟨_, rfl⟩
      obtain ⟨y1, hy1⟩ : ∃ x, py ps (k + 1) = x := ⟨_, rfl⟩
      rw [hx0] at d0 o0 hF at1
      rw [hy0] at d1 o0 hF at1
      rw [hx1] at d2 o1 hF at1
      rw [hy1] at d3 o1 hF at1
      have bx0 := okc_yes (okp_yes o0).1
      have by0 := okc_yes (okp_yes o0).2
      have bx1 := okc_yes (okp_yes o1).1
      have by1 := okc_yes (okp_yes o1).2
      have PD : ∀ W : World, Calls Try.prog 63 #[pt x0 y0, pt x1 y1] W fun e w' => e = .returned (.int .i64 F) ∧ Up W w' := fun W => by
        have := p_distanceO o0 o1 W
        rwa [hF] at this
      have HPD := hide PD
      have AT := hide at1
      have e5 : (k : Int) < (n : Int) := by omega
      have e6 : (k : Int) + 1 < (n : Int) := by omega
      clear PD hF hx0 hy0 hx1 hy1 q0 q1 at1 hk1 o0 o1
      have E1 : Hid (IntKind.i64.wrap ((k : Int) + 1) = (k : Int) + 1) := hide (IntWalk.i64_in _ ⟨by omega, by omega⟩)
      have E3 : Hid (((k : Int) + 1).toNat = k + 1) := hide (by omega)
      have e2 : (0 : Int) ≤ (k : Int) + 1 := by omega
      by_cases hc : 0 < F ∧ s ≤ F
      · have hfin : T = (x0 + near ((x1 - x0) * s) F, y0 + near ((y1 - y0) * s) F, (k : Int)) := by
          have := unhide AT
          rw [if_pos hc, unhide HT] at this
          exact this
        obtain ⟨dx, hdx⟩ : ∃ v, x1 - x0 = v := ⟨_, rfl⟩
        obtain ⟨dy, hdy⟩ : ∃ v, y1 - y0 = v := ⟨_, rfl⟩
        rw [hdx, hdy] at hfin
        obtain ⟨X, hX⟩ : ∃ v, near (dx * s) F = v := ⟨_, rfl⟩
        obtain ⟨Y, hY⟩ : ∃ v, near (dy * s) F = v := ⟨_, rfl⟩
        rw [hX, hY] at hfin
        have HF := hide hfin
        obtain ⟨hc1, hc2⟩ := hc
        have mb1 := mul_bd (u := dx) (v := s) (by omega) (by omega) (by omega) (by omega)
        have mb2 := mul_bd (u := dy) (v := s) (by omega) (by omega) (by omega) (by omega)
        have nb1 := near_bd (n := dx * s) (d := F) hc1
        have nb2 := near_bd (n := dy * s) (d := F) hc1
        rw [hX] at nb1
        rw [hY] at nb2
        have xb : -72057594037927936 ≤ X ∧ X ≤ 72057594037927936 := by omega
        have yb : -72057594037927936 ≤ Y ∧ Y ≤ 72057594037927936 := by omega
        have db1 : -33554432 ≤ dx ∧ dx ≤ 33554432 := by omega
        have db2 : -33554432 ≤ dy ∧ dy ≤ 33554432 := by omega
        have HDX := hide hdx
        have HDY := hide hdy
        have P1 : ∀ W : World, Calls Try.prog 66 #[.int .i64 (dx * s), .int .i64 F] W fun e w' => e = .returned (.int .i64 X) ∧ W = w' := fun W => p_nearestG _ _ _ W (hide hX) (by omega) (by omega) (by omega) (by omega)
        have P2 : ∀ W : World, Calls Try.prog 66 #[.int .i64 (dy * s), .int .i64 F] W fun e w' => e = .returned (.int .i64 Y) ∧ W = w' := fun W => p_nearestG _ _ _ W (hide hY) (by omega) (by omega) (by omega) (by omega)
        have H1 := hide P1
        have H2 := hide P2
        clear hfin hX hY nb1 nb2 hdx hdy P1 P2
        go_wp2_with fail
        have e1 := unhide E1
        have e3 := unhide E3
        have keep := st_and (st_cell ⟨b, off + k * 2, none⟩ (.int .i64 x0)) (st_and (st_cell ⟨b, off + k * 2 + 1, none⟩ (.int .i64 y0)) (st_and (st_cell ⟨b, off + (k + 1) * 2, none⟩ (.int .i64 x1)) (st_and (st_cell ⟨b, off + (k + 1) * 2 + 1, none⟩ (.int .i64 y1)) (st_and (st_up w) (st_up wr)))))
        have hkeep := hide keep
        clear keep
        go_region_held3 (fun wx => wx.cell? ⟨b, off + k * 2, none⟩ = some (.int .i64 x0) ∧ wx.cell? ⟨b, off + k * 2 + 1, none⟩ = some (.int .i64 y0) ∧ wx.cell? ⟨b, off + (k + 1) * 2, none⟩ = some (.int .i64 x1) ∧ wx.cell? ⟨b, off + (k + 1) * 2 + 1, none⟩ = some (.int .i64 y1) ∧ Up w wx ∧ Up wr wx) ((first | exact ⟨d0, d1, d2, d3, up_drew hu, up_drew (up_refl _)⟩ | (with_reducible assumption) | exact unhide hkeep _ _ hb3 (by assumption)))
          (first | (go_at_call 63; (with_reducible refine (unhide HPD _).mono ?_); rintro e w3 ⟨rfl, hb3⟩))
        have hS : w3.cell? ⟨b, off + k * 2, none⟩ = some (.int .i64 x0) ∧ w3.cell? ⟨b, off + k * 2 + 1, none⟩ = some (.int .i64 y0) ∧ w3.cell? ⟨b, off + (k + 1) * 2, none⟩ = some (.int .i64 x1) ∧ w3.cell? ⟨b, off + (k + 1) * 2 + 1, none⟩ = some (.int .i64 y1) ∧ Up w w3 ∧ Up wr w3 := by assumption
        obtain ⟨f0, f1, f2, f3, hu3, hu4⟩ := hS
        clear d0 d1 d2 d3 e1 e3
        have bx := bx_up hbx hu4
        go_wp2_with fail
        go_cut [8] (fun s8 wx => ∃ g : Nat, s8 = .pointer (some ⟨g, 0, none⟩) ∧ wx.cell? ⟨g, 0, none⟩ = some (.int .i64 dx) ∧ wx.cell? ⟨g, 1, none⟩ = some (.int .i64 dy) ∧ Up w3 wx ∧ w.heap.size < g)
        case first =>
          have e1 := unhide E1
          have e3 := unhide E3
          have hne : b ≠ w3.heap.size := Nat.ne_of_lt (World.block_lt_of_cell? _ _ f0)
          have keep := st_and (st_cell ⟨b, off + k * 2, none⟩ (.int .i64 x0)) (st_and (st_cell ⟨b, off + k * 2 + 1, none⟩ (.int .i64 y0)) (st_and (st_cell ⟨b, off + (k + 1) * 2, none⟩ (.int .i64 x1)) (st_and (st_cell ⟨b, off + (k + 1) * 2 + 1, none⟩ (.int .i64 y1)) (st_up w3))))
          have hkeep := hide keep
          clear keep
          go_region_held3 (fun wx => wx.cell? ⟨b, off + k * 2, none⟩ = some (.int .i64 x0) ∧ wx.cell? ⟨b, off + k * 2 + 1, none⟩ = some (.int .i64 y0) ∧ wx.cell? ⟨b, off + (k + 1) * 2, none⟩ = some (.int .i64 x1) ∧ wx.cell? ⟨b, off + (k + 1) * 2 + 1, none⟩ = some (.int .i64 y1) ∧ Up w3 wx) ((first | exact ⟨f0, f1, f2, f3, up_drew (up_refl _)⟩ | (with_reducible assumption) | exact ⟨g0, g1, g2, g3, hg⟩ | exact ⟨alloc_cell _ g0, alloc_cell _ g1, alloc_cell _ g2, alloc_cell _ g3, up_alloc hg _⟩ | exact ⟨far2 hne g0, far2 hne g1, far2 hne g2, far2 hne g3, up_set (up_set hg (Nat.le_refl _) _) (Nat.le_refl _) _⟩ | (exact unhide hkeep _ _ (up_alloc (up_refl _) _) (by assumption))))
            (first | (go_at_call 85; (with_reducible refine (p_minusG _ _ _ _ _ _ _ HDX HDY (by omega) (by omega) (by omega) (by omega)).mono ?_); rintro e w4 ⟨rfl, hb4⟩; have hS4 := unhide hkeep _ _ hb4 (by assumption); obtain ⟨g0, g1, g2, g3, hg⟩ := hS4; (first | (have nb := bx_up (bx_drew (bx_new w3 [.int .i64 0, .int .i64 0] 24)) hb4; obtain ⟨n0, n1⟩ := bx2 nb; obtain ⟨n2, n3⟩ := bxf2 nb) | skip)))
          all_goals
            go_wp2_with fail
            go_meet
            first | exact ⟨w4.heap.size, rfl, by go_cell, by go_cell, up_alloc hg _, bx_lt (bx_up bx hg) (Nat.zero_lt_succ _)⟩ | exact ⟨w3.heap.size, rfl, by go_cell, by go_cell, up_set (up_set hg (Nat.le_refl _) _) (Nat.le_refl _) _, bx_lt bx (Nat.zero_lt_succ _)⟩
        case rest =>
          obtain ⟨g, rfl, q0, q1, hg, hgl⟩ := hcut
          have hgn : g ≠ w.heap.size := Nat.ne_of_gt hgl
          have hbn : b ≠ w.heap.size := Nat.ne_of_lt (World.block_lt_of_cell? _ _ (unhide HC k hl0).1)
          have bx4 := bx_up bx hg
          have hU4 := up_trans hu3 hg
          have a0 := up_cell hg f0
          have a1 := up_cell hg f1
          clear f0 f1 f2 f3
          go_wp2_with fail
          have e1 := unhide E1
          have e3 := unhide E3
          have W1 : IntKind.i64.wrap (dx * s) = dx * s := IntWalk.i64_in _ ⟨by omega, by omega⟩
          have W2 : IntKind.i64.wrap (dy * s) = dy * s := IntWalk.i64_in _ ⟨by omega, by omega⟩
          go_region_held3 (fun wx => wx.cell? ⟨b, off + k * 2, none⟩ = some (.int .i64 x0) ∧ wx.cell? ⟨b, off + k * 2 + 1, none⟩ = some (.int .i64 y0) ∧ wx.cell? ⟨g, 0, none⟩ = some (.int .i64 dx) ∧ wx.cell? ⟨g, 1, none⟩ = some (.int .i64 dy)) ((first | exact ⟨a0, a1, q0, q1⟩ | (with_reducible assumption) | exact ⟨i0, i1, i2, i3⟩ | exact ⟨far2 hbn i0, far2 hbn i1, far2 hgn i2, far2 hgn i3⟩))
            (first | (go_at_call 66; (with_reducible refine (unhide H1 _).mono ?_); rintro e w5 ⟨rfl, rfl⟩) | (go_at_call 66; (with_reducible refine (unhide H2 _).mono ?_); rintro e w5 ⟨rfl, rfl⟩) | (go_at_call 81; refine (p_plus _ _ _ _ _ (by omega) (by omega) (by omega) (by omega)).mono ?_; rintro e w6 ⟨rfl, hb6⟩; have i0 := up_cell hb6 a0; have i1 := up_cell hb6 a1; have i2 := up_cell hb6 q0; have i3 := up_cell hb6 q1; have bx6 := bx_up (bx_drew bx4) hb6; obtain ⟨r0, r1⟩ := bx2 bx6; obtain ⟨r2, r3⟩ := bxf2 bx6; have hU6 := up_trans (up_drew hU4) hb6))
          all_goals (go_wp2_with fail)
          all_goals (rw [unhide HF])
          all_goals exact bodyPost_ret (v := atR (x0 + X, y0 + Y, (k : Int))) (by simp [results, Try.results64, go_sem, *, atR, pt]) rfl ⟨rfl, up_set (up_set hU6 (Nat.le_refl _) _) (Nat.le_refl _) _⟩
      · have hnext : atT ps (n - 1 - (k + 1)) (k + 1) (s - F) = T := by
          have := unhide AT
          rw [if_neg hc, unhide HT] at this
          rw [this, show n - 1 - (k + 1) = n - 1 - k - 1 by omega]
        have hs2 : 0 ≤ s - F := by omega
        have HX := hide hnext
        have hcd : 0 < F → F < s := by omega
        by_cases hz : 0 < F
        · have hz2 := hcd hz
          clear hc hcd hnext
          go_wp2_with fail
          have e1 := unhide E1
          have e3 := unhide E3
          have keep := st_and (st_cell ⟨b, off + k * 2, none⟩ (.int .i64 x0)) (st_and (st_cell ⟨b, off + k * 2 + 1, none⟩ (.int .i64 y0)) (st_and (st_cell ⟨b, off + (k + 1) * 2, none⟩ (.int .i64 x1)) (st_and (st_cell ⟨b, off + (k + 1) * 2 + 1, none⟩ (.int .i64 y1)) (st_and (st_up w) (st_up wr)))))
          have hkeep := hide keep
          clear keep
          go_region_held3 (fun wx => wx.cell? ⟨b, off + k * 2, none⟩ = some (.int .i64 x0) ∧ wx.cell? ⟨b, off + k * 2 + 1, none⟩ = some (.int .i64 y0) ∧ wx.cell? ⟨b, off + (k + 1) * 2, none⟩ = some (.int .i64 x1) ∧ wx.cell? ⟨b, off + (k + 1) * 2 + 1, none⟩ = some (.int .i64 y1) ∧ Up w wx ∧ Up wr wx) ((first | exact ⟨d0, d1, d2, d3, up_drew hu, up_drew (up_refl _)⟩ | (with_reducible assumption) | exact unhide hkeep _ _ hb3 (by assumption)))
            (first | (go_at_call 63; (with_reducible refine (unhide HPD _).mono ?_); rintro e w3 ⟨rfl, hb3⟩))
          have hS : w3.cell? ⟨b, off + k * 2, none⟩ = some (.int .i64 x0) ∧ w3.cell? ⟨b, off + k * 2 + 1, none⟩ = some (.int .i64 y0) ∧ w3.cell? ⟨b, off + (k + 1) * 2, none⟩ = some (.int .i64 x1) ∧ w3.cell? ⟨b, off + (k + 1) * 2 + 1, none⟩ = some (.int .i64 y1) ∧ Up w w3 ∧ Up wr w3 := by assumption
          obtain ⟨f0, f1, f2, f3, hu3, hu4⟩ := hS
          clear d0 d1 d2 d3 e1 e3
          have bx := bx_up hbx hu4
          go_wp2_with fail
          go_roundw
          case rel => exact ⟨k + 1, s - F, by omega, by go_num, rfl, hs2, by omega, unhide HX, hu3, bx⟩
          case measure => simp [intOf]; omega
        · clear hc hcd hnext
          go_wp2_with fail
          have e1 := unhide E1
          have e3 := unhide E3
          have keep := st_and (st_cell ⟨b, off + k * 2, none⟩ (.int .i64 x0)) (st_and (st_cell ⟨b, off + k * 2 + 1, none⟩ (.int .i64 y0)) (st_and (st_cell ⟨b, off + (k + 1) * 2, none⟩ (.int .i64 x1)) (st_and (st_cell ⟨b, off + (k + 1) * 2 + 1, none⟩ (.int .i64 y1)) (st_and (st_up w) (st_up wr)))))
          have hkeep := hide keep
          clear keep
          go_region_held3 (fun wx => wx.cell? ⟨b, off + k * 2, none⟩ = some (.int .i64 x0) ∧ wx.cell? ⟨b, off + k * 2 + 1, none⟩ = some (.int .i64 y0) ∧ wx.cell? ⟨b, off + (k + 1) * 2, none⟩ = some (.int .i64 x1) ∧ wx.cell? ⟨b, off + (k + 1) * 2 + 1, none⟩ = some (.int .i64 y1) ∧ Up w wx ∧ Up wr wx) ((first | exact ⟨d0, d1, d2, d3, up_drew hu, up_drew (up_refl _)⟩ | (with_reducible assumption) | exact unhide hkeep _ _ hb3 (by assumption)))
            (first | (go_at_call 63; (with_reducible refine (unhide HPD _).mono ?_); rintro e w3 ⟨rfl, hb3⟩))
          have hS : w3.cell? ⟨b, off + k * 2, none⟩ = some (.int .i64 x0) ∧ w3.cell? ⟨b, off + k * 2 + 1, none⟩ = some (.int .i64 y0) ∧ w3.cell? ⟨b, off + (k + 1) * 2, none⟩ = some (.int .i64 x1) ∧ w3.cell? ⟨b, off + (k + 1) * 2 + 1, none⟩ = some (.int .i64 y1) ∧ Up w w3 ∧ Up wr w3 := by assumption
          obtain ⟨f0, f1, f2, f3, hu3, hu4⟩ := hS
          clear d0 d1 d2 d3 e1 e3
          have bx := bx_up hbx hu4
          go_wp2_with fail
          go_roundw
          case rel => exact ⟨k + 1, s - F, by omega, by go_num, rfl, hs2, by omega, unhide HX, hu3, bx⟩
          case measure => simp [intOf]; omega
    · have hk2 : k = n - 1 := by omega
      subst hk2
      have hT2 := unhide HT
      rw [Nat.sub_self, atT_zero] at hT2
      have hl0 : 0 < ps.length := by rw [unhide HN]; omega
      have q0 := pts_get (unhide HC) hl0
      have d0 := up_cell hu q0.1
      have d1 := up_cell hu q0.2
      obtain ⟨x0, hx0⟩ : ∃ x, px ps 0 = x := ⟨_, rfl⟩
      obtain ⟨y0, hy0⟩ : ∃ x, py ps 0 = x := ⟨_, rfl⟩
      rw [hx0] at d0
      rw [hy0] at d1
      rw [hx0, hy0] at hT2
      have HF := hide hT2
      have a0 : wr.cell? ⟨b, off, none⟩ = some (.int .i64 x0) := by simpa using d0
      have a1 : wr.cell? ⟨b, off + 1, none⟩ = some (.int .i64 y0) := by simpa using d1
      clear hT2 hx0 hy0 q0 d0 d1
      obtain ⟨r0, r1⟩ := bx2 hbx
      obtain ⟨r2, r3⟩ := bxf2 hbx
      have e5 : ((n - 1 : Nat) : Int) = (n : Int) - 1 := by omega
      have e6 : (0 : Int) < (n : Int) := by omega
      rw [e5]
      go_wp2_with fail
      rw [← unhide HF]
      exact bodyPost_ret (v := atR (x0, y0, 0)) (by simp [results, Try.results64, go_sem, *, atR, pt]) rfl ⟨rfl, up_set (up_set hu (Nat.le_refl _) _) (Nat.le_refl _) _⟩
end Go.Proofs.Ytcheojkjcncfkaa
