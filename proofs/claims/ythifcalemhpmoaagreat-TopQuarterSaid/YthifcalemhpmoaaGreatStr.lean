/- A straight pose, where there is one (two units). -/
import Derived.Test.YthifcalemhpmoaaGreatStA
import Derived.Test.YthifcalemhpmoaaGreatVehC
import Derived.Test.YthifcalemhpmoaaGreatPlace
namespace Go.Proofs.YthifcalemhpmoaaGreat
open Go.RowKit Go.Proofs.Gn
attribute [local go_sem] Oper.semAt_some
set_option linter.unusedVariables false
/-- What a pull is: its point, and the error. -/
def puR (ax ay hx hy l : Int) : (Int × Int) × Int := ((lkV (okp ax ay && okp hx hy) (decide (1 ≤ l) && decide (l ≤ 16777216)) (cV ax ay hx hy l 0 (plX ax ay hx hy l 0)), lkV (okp ax ay && okp hx hy) (decide (1 ≤ l) && decide (l ≤ 16777216)) (cV ax ay hx hy l 0 (plY ax ay hx hy l 0))), lkE (okp ax ay && okp hx hy) (decide (1 ≤ l) && decide (l ≤ 16777216)) (cE ax ay hx hy l 0))
theorem untC_of {w : World} {b o : Nat} {u : Unt} (h : UntAt w b o u) : UntC w b o u := ⟨h.1, h.2.1, h.2.2.1, h.2.2.2.1, h.2.2.2.2.1, h.2.2.2.2.2.1, h.2.2.2.2.2.2.1, h.2.2.2.2.2.2.2.1, h.2.2.2.2.2.2.2.2.1, h.2.2.2.2.2.2.2.2.2.1, h.2.2.2.2.2.2.2.2.2.2.1⟩
theorem untsC_of {w : World} {A : Option Addr} {us : List Unt} (h : Unts w A us) : us = [] ∨ ∃ b off, A = some ⟨b, off, none⟩ ∧ ∀ k (h : k < us.length), UntC w b (off + k * 11) us[k] := by
  rcases h with h | ⟨b, off, e, hc⟩
  · exact .inl h
  · exact .inr ⟨b, off, e, fun k hk => untC_of (hc k hk)⟩
theorem pts_far {W : World} {A : Option Addr} {ps : Pl} {p : Addr} (h : Pts W A ps) (hb : ∀ b off, A = some ⟨b, off, none⟩ → b ≠ p.block) (u : Value) : Pts (W.setCell p u) A ps := by
  rcases h with h | ⟨b, off, e, hc⟩
  · exact .inl h
  · have hn := hb b off e
    exact .inr ⟨b, off, e, fun k hk => ⟨(World.cell?_of_block (a := ⟨b, off + k * 2, none⟩) (Below.heap_setCell W p u b hn)).trans (hc k hk).1, (World.cell?_of_block (a := ⟨b, off + k * 2 + 1, none⟩) (Below.heap_setCell W p u b hn)).trans (hc k hk).2⟩⟩
set_option maxRecDepth 100000 in
set_option maxHeartbeats 8000000 in
theorem p_StraightOK (s : ByteArray) (Au : Option Addr) (us : List Unt) (cu : Nat) (f t : Int) (lx ly bx by' px py : Int) (AL : Pl) (w : World) (hU : Unts w Au us) (hn : us.length = 2) (hcu : us.length ≤ cu)
    (hV : veE s us f t = 0) (hP : puR lx ly bx by' (puL (us[0]'(by omega)).le (us[0]'(by omega)).st) = ((px, py), 0)) (hS : stS us (lx, ly) (px, py) = (AL, 0)) (hO : posOk us lx ly AL = true) :
    Calls Tryz.prog 19 #[veV s Au us.length cu f t, pt lx ly, pt bx by'] w fun e w' => (∃ A ca, e = .returned (.tuple #[.agg #[.int .i64 lx, .int .i64 ly, .slice A AL.length ca], .int .i64 0]) ∧ Pts w' A AL) ∧ Up w w' := by
  have hall : ∀ u ∈ us, okU u = true := by
    unfold veE at hV
    split at hV
    · cases hV
    · split at hV
      · rename_i h
        simp only [Bool.and_eq_true] at h
        have := h.2.1
        unfold auV at this
        simp only [Bool.and_eq_true] at this
        exact List.all_eq_true.1 this.1
      · cases hV
  have hlen : AL.length = 2 := by
    unfold posOk at hO
    simp only [Bool.and_eq_true, decide_eq_true_eq] at hO
    omega
  have H1 := hide (fun (W : World) (hW : Up w W) => (p_CheckV s Au us cu f t W (unts_up hU hW) (by omega)).mono (fun e w' ⟨he, hw⟩ => (⟨by rw [hV] at he; exact he, hw⟩ : e = Ending.returned (.int .i64 0) ∧ Up W w')))
  have hUC : ∀ W, Up w W → (us = [] ∨ ∃ b off, Au = some ⟨b, off, none⟩ ∧ ∀ k (h : k < us.length), UntC W b (off + k * 11) us[k]) := fun W hW => untsC_of (unts_up hU hW)
  have H4 := hide (fun (W : World) (hW : Up w W) => (p_straightAxles (.string s) (.int .i64 f) (.int .i64 t) Au us cu lx ly px py W (hUC W hW) hall (by omega) (by omega) hcu).mono (fun e w' h => by
    rw [hS] at h
    obtain ⟨⟨v, he, ho, _⟩, hu⟩ := h
    exact (⟨v, he, ho rfl, hu⟩ : ∃ v, e = Ending.returned (.tuple #[v, .int .i64 0]) ∧ w'.ownsRow W.heap.size 62 2 v AL.length (cellsPl AL) ∧ Up W w')))
  have H5 := hide (fun (W : World) (hW : Up w W) (A : Option Addr) (ca : Nat) (hQ : Pts W A AL) => (p_made (.string s) (.int .i64 f) (.int .i64 t) Au us cu lx ly A AL ca W (hUC W hW) hQ hall (by omega) (by omega) (fun b off e => by
      rcases hUC W hW with h | ⟨b', off', e', hc⟩
      · rw [h] at hn; simp at hn
      · rw [e] at e'; cases e'; exact World.block_lt_of_cell? _ _ (hc 0 (by omega)).1) (fun b off e => by
      rcases hQ with h | ⟨b', off', e', hc⟩
      · rw [h] at hlen; simp at hlen
      · rw [e] at e'; cases e'; exact World.block_lt_of_cell? _ _ (hc 0 (by omega)).1)).mono (fun e w' ⟨he, hu⟩ => (⟨by rw [hO, if_pos rfl, if_pos rfl] at he; exact he, hu⟩ : e = Ending.returned (.tuple #[.agg #[.int .i64 lx, .int .i64 ly, .slice A AL.length ca], .int .i64 0]) ∧ Up W w')))
  obtain ⟨b, off, rfl, hcc⟩ := (hUC w (up_refl w)).resolve_left (by intro h; rw [h] at hn; simp at hn)
  have h0 := hcc 0 (by omega)
  rw [Nat.zero_mul, Nat.add_zero] at h0
  obtain ⟨h0, h1, h2, h3, h4, h5, h6, h7, h8, h9, h10⟩ := h0
  have hok0 := hall us[0] (List.getElem_mem _)
  obtain ⟨u, hu⟩ : ∃ u, us[0] = u := ⟨_, rfl⟩
  rw [hu] at h0 h1 h2 h3 h4 h5 h6 h7 h8 h9 h10 hok0
  simp only [hu] at hP
  rw [okU, Bool.and_eq_true] at hok0
  obtain ⟨g1, _, g3, _⟩ := szU_ok hok0.1
  have H2 := hide (fun W => p_pulled u.kd u.le u.be u.fr u.re u.wi u.he u.ma u.st u.mo u.A u.xs.length u.cap W g1 g3)
  have H3 := hide (fun W => (p_Pull lx ly bx by' (puL u.le u.st) W).mono (fun e w' ⟨he, hw⟩ => (⟨by
      have a1 := congrArg (fun z => z.1.1) hP
      have a2 := congrArg (fun z => z.1.2) hP
      have a3 := congrArg (fun z => z.2) hP
      unfold puR at a1 a2 a3
      dsimp only at a1 a2 a3
      rw [a1, a2, a3] at he
      exact he, hw⟩ : e = Ending.returned (.tuple #[pt px py, .int .i64 0]) ∧ Up W w')))
  obtain ⟨P, hPP⟩ : ∃ P, puL u.le u.st = P := ⟨_, rfl⟩
  rw [hPP] at H2 H3
  rw [hn] at hcu H1 H4 H5 ⊢
  rw [hlen] at H5 ⊢
  have HLen := hide hlen
  clear hU hV hP hS hO hall hUC hcc hok0 g1 g3 hPP hu hn hlen
  go_enter Tryz.func19, Tryz.ntmps19
  go_upto_region 1 with fail
  refine at_wpC (fun W0 hW0 => ?_)
  have U0 : Up w W0 := by rw [hW0]; exact (by repeat' (first | (with_reducible exact up_refl _) | (with_reducible assumption) | (with_reducible refine up_alloc ?_ _) | (with_reducible refine up_drewN ?_ _) | (with_reducible refine up_drew ?_) | (with_reducible refine up_set ?_ (by first | (simp; done) | (simp; omega) | omega) _) | (refine up_trans ?_ (by with_reducible assumption))))
  have hz0 : W0.heap.size = w.heap.size + 4 := by rw [hW0]; simp
  obtain ⟨bV, bL, bB, bR⟩ : Bx W0 w.heap.size [.string s, .slice (some ⟨b, off, none⟩) 2 cu, .int .i64 f, .int .i64 t] ∧ Bx W0 (w.heap.size + 1) [.int .i64 lx, .int .i64 ly] ∧ Bx W0 (w.heap.size + 1 + 1) [.int .i64 bx, .int .i64 by'] ∧ Bx W0 (w.heap.size + 1 + 1 + 1) [.int .i64 0, .int .i64 0, .slice none 0 0] := by
    rw [hW0]
    refine ⟨bx_alloc (bx_alloc (bx_alloc (bx_new w _ _) _) _) _, ?_, ?_, ?_⟩
    · have q := bx_new (w.alloc (.cells #[.string s, .slice (some ⟨b, off, none⟩) 2 cu, .int .i64 f, .int .i64 t] 70)) [.int .i64 lx, .int .i64 ly] 62
      rw [World.size_alloc] at q
      exact bx_alloc (bx_alloc q _) _
    · have q := bx_new ((w.alloc (.cells #[.string s, .slice (some ⟨b, off, none⟩) 2 cu, .int .i64 f, .int .i64 t] 70)).alloc (.cells #[.int .i64 lx, .int .i64 ly] 62)) [.int .i64 bx, .int .i64 by'] 62
      rw [World.size_alloc, World.size_alloc] at q
      exact bx_alloc q _
    · have q := bx_new (((w.alloc (.cells #[.string s, .slice (some ⟨b, off, none⟩) 2 cu, .int .i64 f, .int .i64 t] 70)).alloc (.cells #[.int .i64 lx, .int .i64 ly] 62)).alloc (.cells #[.int .i64 bx, .int .i64 by'] 62)) [.int .i64 0, .int .i64 0, .slice none 0 0] 65
      rw [World.size_alloc, World.size_alloc, World.size_alloc] at q
      exact q
  clear hW0
  have c0 := (bV 0 _ rfl).1
  have c1 := (bV 1 _ rfl).1
  have c2 := (bV 2 _ rfl).1
  have c3 := (bV 3 _ rfl).1
  go_upto_region 4 with (go_at_call 43; (with_reducible refine (unhide H1 _ U0).mono ?_); rintro e w1 ⟨rfl, hu1⟩)
  refine at_wpC (fun W1 hW1 => ?_)
  have U01 : Up W0 W1 := by rw [hW1]; exact (by repeat' (first | (with_reducible exact up_refl _) | (with_reducible assumption) | (with_reducible refine up_alloc ?_ _) | (with_reducible refine up_drewN ?_ _) | (with_reducible refine up_drew ?_) | (with_reducible refine up_set ?_ (by first | (simp; done) | (simp; omega) | omega) _) | (refine up_trans ?_ (by with_reducible assumption))))
  clear hW1
  have U1 := up_trans U0 U01
  have HV := hide (bx_up bV U01)
  have HL := hide (bx_up bL U01)
  have HB := hide (bx_up bB U01)
  have HR := hide (bx_up bR U01)
  have HU := hide (⟨up_cell U1 h0, up_cell U1 h1, up_cell U1 h2, up_cell U1 h3, up_cell U1 h4, up_cell U1 h5, up_cell U1 h6, up_cell U1 h7, up_cell U1 h8, up_cell U1 h9, up_cell U1 h10⟩ : UntC W1 b off u)
  have hz1 : w.heap.size + 4 ≤ W1.heap.size := by have := U01.size; omega
  clear c0 c1 c2 c3 h0 h1 h2 h3 h4 h5 h6 h7 h8 h9 h10 bV bL bB bR U0 U01 hz0
  have HU1 := hide U1
  clear U1
  have H2' := hide (fun W (hW : Up W1 W) => (unhide H2 W).mono fun e w' ⟨a, b⟩ => (⟨a, b, up_trans hW b⟩ : _ ∧ Up W w' ∧ Up W1 w'))
  have H3' := hide (fun W (hW : Up W1 W) => (unhide H3 W).mono fun e w' ⟨a, b⟩ => (⟨a, b, up_trans hW b⟩ : _ ∧ Up W w' ∧ Up W1 w'))
  go_cut [9, 10] (fun s9 s10 wx => ∃ g : Nat, s9 = .pointer (some ⟨g, 0, none⟩) ∧ s10 = .int .i64 0 ∧ Bx wx g [.int .i64 px, .int .i64 py] ∧ Up W1 wx)
  case first =>
    have t1 := Nat.le_refl W1.heap.size
    have HK := hide (fun wx (hW : Up W1 wx) => (⟨up_cell hW ((unhide HV) 1 _ rfl).1, up_cell hW ((unhide HL) 0 _ rfl).1, up_cell hW ((unhide HL) 1 _ rfl).1, up_cell hW ((unhide HB) 0 _ rfl).1, up_cell hW ((unhide HB) 1 _ rfl).1, up_cell hW (unhide HU).1, up_cell hW (unhide HU).2.1, up_cell hW (unhide HU).2.2.1, up_cell hW (unhide HU).2.2.2.1, up_cell hW (unhide HU).2.2.2.2.1, up_cell hW (unhide HU).2.2.2.2.2.1, up_cell hW (unhide HU).2.2.2.2.2.2.1, up_cell hW (unhide HU).2.2.2.2.2.2.2.1, up_cell hW (unhide HU).2.2.2.2.2.2.2.2.1, up_cell hW (unhide HU).2.2.2.2.2.2.2.2.2.1, up_cell hW (unhide HU).2.2.2.2.2.2.2.2.2.2, hW⟩ : wx.cell? ⟨w.heap.size, 1, none⟩ = some (.slice (some ⟨b, off, none⟩) 2 cu) ∧ wx.cell? ⟨w.heap.size + 1, 0, none⟩ = some (.int .i64 lx) ∧ wx.cell? ⟨w.heap.size + 1, 1, none⟩ = some (.int .i64 ly) ∧ wx.cell? ⟨w.heap.size + 1 + 1, 0, none⟩ = some (.int .i64 bx) ∧ wx.cell? ⟨w.heap.size + 1 + 1, 1, none⟩ = some (.int .i64 by') ∧ wx.cell? ⟨b, off, none⟩ = some (.int .i64 u.kd) ∧ wx.cell? ⟨b, off + 1, none⟩ = some (.int .i64 u.le) ∧ wx.cell? ⟨b, off + 2, none⟩ = some (.int .i64 u.be) ∧ wx.cell? ⟨b, off + 3, none⟩ = some (.int .i64 u.fr) ∧ wx.cell? ⟨b, off + 4, none⟩ = some (.int .i64 u.re) ∧ wx.cell? ⟨b, off + 5, none⟩ = some (.int .i64 u.wi) ∧ wx.cell? ⟨b, off + 6, none⟩ = some (.int .i64 u.he) ∧ wx.cell? ⟨b, off + 7, none⟩ = some (.int .i64 u.ma) ∧ wx.cell? ⟨b, off + 8, none⟩ = some (.int .i64 u.st) ∧ wx.cell? ⟨b, off + 9, none⟩ = some (.int .i64 u.mo) ∧ wx.cell? ⟨b, off + 10, none⟩ = some (.slice u.A u.xs.length u.cap) ∧ Up W1 wx))
    go_region_held3 (fun wx => wx.cell? ⟨w.heap.size, 1, none⟩ = some (.slice (some ⟨b, off, none⟩) 2 cu) ∧ wx.cell? ⟨w.heap.size + 1, 0, none⟩ = some (.int .i64 lx) ∧ wx.cell? ⟨w.heap.size + 1, 1, none⟩ = some (.int .i64 ly) ∧ wx.cell? ⟨w.heap.size + 1 + 1, 0, none⟩ = some (.int .i64 bx) ∧ wx.cell? ⟨w.heap.size + 1 + 1, 1, none⟩ = some (.int .i64 by') ∧ wx.cell? ⟨b, off, none⟩ = some (.int .i64 u.kd) ∧ wx.cell? ⟨b, off + 1, none⟩ = some (.int .i64 u.le) ∧ wx.cell? ⟨b, off + 2, none⟩ = some (.int .i64 u.be) ∧ wx.cell? ⟨b, off + 3, none⟩ = some (.int .i64 u.fr) ∧ wx.cell? ⟨b, off + 4, none⟩ = some (.int .i64 u.re) ∧ wx.cell? ⟨b, off + 5, none⟩ = some (.int .i64 u.wi) ∧ wx.cell? ⟨b, off + 6, none⟩ = some (.int .i64 u.he) ∧ wx.cell? ⟨b, off + 7, none⟩ = some (.int .i64 u.ma) ∧ wx.cell? ⟨b, off + 8, none⟩ = some (.int .i64 u.st) ∧ wx.cell? ⟨b, off + 9, none⟩ = some (.int .i64 u.mo) ∧ wx.cell? ⟨b, off + 10, none⟩ = some (.slice u.A u.xs.length u.cap) ∧ Up W1 wx) ((go_split_ands; exact unhide HK _ (by repeat' (first | (with_reducible exact up_refl _) | (with_reducible assumption) | (with_reducible refine up_alloc ?_ _) | (with_reducible refine up_drewN ?_ _) | (with_reducible refine up_drew ?_) | (with_reducible refine up_set ?_ (by first | (simp; done) | (simp; omega) | omega) _) | (refine up_trans ?_ (by with_reducible assumption))))))
      (first
        | (go_at_call 45; (with_reducible refine (unhide H2' _ (by go_split_ands; exact (by repeat' (first | (with_reducible exact up_refl _) | (with_reducible assumption) | (with_reducible refine up_alloc ?_ _) | (with_reducible refine up_drewN ?_ _) | (with_reducible refine up_drew ?_) | (with_reducible refine up_set ?_ (by first | (simp; done) | (simp; omega) | omega) _) | (refine up_trans ?_ (by with_reducible assumption)))))).mono ?_); rintro e w2 ⟨rfl, hb2, hb2'⟩; have t2 : W1.heap.size ≤ w2.heap.size := hb2'.size; have zs := bx_up (bx_new _ [.int .i64 0, .int .i64 0] 62) hb2)
        | (go_at_call 45; (with_reducible refine (unhide H2' _ (by go_split_ands; exact (by repeat' (first | (with_reducible exact up_refl _) | (with_reducible assumption) | (with_reducible refine up_alloc ?_ _) | (with_reducible refine up_drewN ?_ _) | (with_reducible refine up_drew ?_) | (with_reducible refine up_set ?_ (by first | (simp; done) | (simp; omega) | omega) _) | (refine up_trans ?_ (by with_reducible assumption)))))).mono ?_); rintro e w2 ⟨rfl, hb2, hb2'⟩; have t2 : W1.heap.size ≤ w2.heap.size := hb2'.size; have zs := bx_up (bx_drew (bx_new _ [.int .i64 0, .int .i64 0] 62)) hb2)
        | (go_at_call 45; (with_reducible refine (unhide H2' _ (by go_split_ands; exact (by repeat' (first | (with_reducible exact up_refl _) | (with_reducible assumption) | (with_reducible refine up_alloc ?_ _) | (with_reducible refine up_drewN ?_ _) | (with_reducible refine up_drew ?_) | (with_reducible refine up_set ?_ (by first | (simp; done) | (simp; omega) | omega) _) | (refine up_trans ?_ (by with_reducible assumption)))))).mono ?_); rintro e w2 ⟨rfl, hb2, hb2'⟩; have t2 : W1.heap.size ≤ w2.heap.size := hb2'.size)
        | (go_at_call 44; (with_reducible refine (unhide H3' _ (by go_split_ands; exact (by repeat' (first | (with_reducible exact up_refl _) | (with_reducible assumption) | (with_reducible refine up_alloc ?_ _) | (with_reducible refine up_drewN ?_ _) | (with_reducible refine up_drew ?_) | (with_reducible refine up_set ?_ (by first | (simp; done) | (simp; omega) | omega) _) | (refine up_trans ?_ (by with_reducible assumption)))))).mono ?_); rintro e w3 ⟨rfl, hb3, hb3'⟩; have t3 : W1.heap.size ≤ w3.heap.size := hb3'.size; have zm := bx_up zs hb3; obtain ⟨z3, z4⟩ := bx2 zm; obtain ⟨f3, f4⟩ := bxf2 zm)
        | (go_at_call 44; (with_reducible refine (unhide H3' _ (by go_split_ands; exact (by repeat' (first | (with_reducible exact up_refl _) | (with_reducible assumption) | (with_reducible refine up_alloc ?_ _) | (with_reducible refine up_drewN ?_ _) | (with_reducible refine up_drew ?_) | (with_reducible refine up_set ?_ (by first | (simp; done) | (simp; omega) | omega) _) | (refine up_trans ?_ (by with_reducible assumption)))))).mono ?_); rintro e w3 ⟨rfl, hb3, hb3'⟩; have t3 : W1.heap.size ≤ w3.heap.size := hb3'.size; have zm := bx_up (bx_new _ [.int .i64 0, .int .i64 0] 62) hb3; obtain ⟨z3, z4⟩ := bx2 zm; obtain ⟨f3, f4⟩ := bxf2 zm)
        | (go_at_call 44; (with_reducible refine (unhide H3' _ (by go_split_ands; exact (by repeat' (first | (with_reducible exact up_refl _) | (with_reducible assumption) | (with_reducible refine up_alloc ?_ _) | (with_reducible refine up_drewN ?_ _) | (with_reducible refine up_drew ?_) | (with_reducible refine up_set ?_ (by first | (simp; done) | (simp; omega) | omega) _) | (refine up_trans ?_ (by with_reducible assumption)))))).mono ?_); rintro e w3 ⟨rfl, hb3, hb3'⟩; have t3 : W1.heap.size ≤ w3.heap.size := hb3'.size; have zm := bx_up (bx_drew (bx_new _ [.int .i64 0, .int .i64 0] 62)) hb3; obtain ⟨z3, z4⟩ := bx2 zm; obtain ⟨f3, f4⟩ := bxf2 zm)
        | (go_at_call 44; (with_reducible refine (unhide H3' _ (by go_split_ands; exact (by repeat' (first | (with_reducible exact up_refl _) | (with_reducible assumption) | (with_reducible refine up_alloc ?_ _) | (with_reducible refine up_drewN ?_ _) | (with_reducible refine up_drew ?_) | (with_reducible refine up_set ?_ (by first | (simp; done) | (simp; omega) | omega) _) | (refine up_trans ?_ (by with_reducible assumption)))))).mono ?_); rintro e w3 ⟨rfl, hb3, hb3'⟩; have t3 : W1.heap.size ≤ w3.heap.size := hb3'.size))
    all_goals
      have u3 : Up W1 w3 := hb3'
      go_wp2_with fail
      go_meet
      first
        | exact ⟨_, rfl, rfl, bx_set (bx_set zm 0 (.int .i64 px)) 1 (.int .i64 py), (by repeat' (first | (with_reducible exact up_refl _) | (with_reducible assumption) | (with_reducible refine up_alloc ?_ _) | (with_reducible refine up_drewN ?_ _) | (with_reducible refine up_drew ?_) | (with_reducible refine up_set ?_ (by first | (simp; done) | (simp; omega) | omega) _) | (refine up_trans ?_ (by with_reducible assumption))))⟩
        | exact ⟨_, rfl, rfl, bx_set (bx_set (bx_new _ [.int .i64 0, .int .i64 0] 62) 0 (.int .i64 px)) 1 (.int .i64 py), (by repeat' (first | (with_reducible exact up_refl _) | (with_reducible assumption) | (with_reducible refine up_alloc ?_ _) | (with_reducible refine up_drewN ?_ _) | (with_reducible refine up_drew ?_) | (with_reducible refine up_set ?_ (by first | (simp; done) | (simp; omega) | omega) _) | (refine up_trans ?_ (by with_reducible assumption))))⟩
        | exact ⟨_, rfl, rfl, bx_new _ [.int .i64 px, .int .i64 py] 62, (by repeat' (first | (with_reducible exact up_refl _) | (with_reducible assumption) | (with_reducible refine up_alloc ?_ _) | (with_reducible refine up_drewN ?_ _) | (with_reducible refine up_drew ?_) | (with_reducible refine up_set ?_ (by first | (simp; done) | (simp; omega) | omega) _) | (refine up_trans ?_ (by with_reducible assumption))))⟩
        | exact ⟨_, rfl, rfl, bx_drew (bx_new _ [.int .i64 px, .int .i64 py] 62), (by repeat' (first | (with_reducible exact up_refl _) | (with_reducible assumption) | (with_reducible refine up_alloc ?_ _) | (with_reducible refine up_drewN ?_ _) | (with_reducible refine up_drew ?_) | (with_reducible refine up_set ?_ (by first | (simp; done) | (simp; omega) | omega) _) | (refine up_trans ?_ (by with_reducible assumption))))⟩
        | (trace_state; sorry)
  case rest =>
    obtain ⟨g, rfl, rfl, hg, hu⟩ := hcut
    have bV := bx_up (unhide HV) hu
    have bL := bx_up (unhide HL) hu
    have c0 := (bV 0 _ rfl).1
    have c1 := (bV 1 _ rfl).1
    have c2 := (bV 2 _ rfl).1
    have c3 := (bV 3 _ rfl).1
    obtain ⟨l0, l1⟩ := bx2 bL
    obtain ⟨g0, g1⟩ := bx2 hg
    have bR := bx_up (unhide HR) hu
    have hU := up_trans (unhide HU1) hu
    go_wp2_with (first
      | (go_at_call 46; (with_reducible refine (unhide H4 _ hU).mono ?_); rintro e w4 ⟨v, rfl, ho, hu4⟩; obtain ⟨A, ca, hv, hQ⟩ := own_pts ho; rw [unhide HLen] at hv; subst hv; have hfar : ∀ bb oo, A = some ⟨bb, oo, none⟩ → bb ≠ w.heap.size + 1 + 1 + 1 := (fun bb oo e => by have q := (ho.lt bb (by rw [e]; rfl)).1; have := hu.size; omega); have bV4 := bx_up bV hu4; have c40 := (bV4 0 _ rfl).1; have c41 := (bV4 1 _ rfl).1; have c42 := (bV4 2 _ rfl).1; have c43 := (bV4 3 _ rfl).1; have bL4 := bx_up bL hu4; have l40 := (bL4 0 _ rfl).1; have l41 := (bL4 1 _ rfl).1; have hU4 := up_trans hU hu4)
      | (go_at_call 47; (with_reducible refine (unhide H5 _ hU4 A ca hQ).mono ?_); rintro e w5 ⟨rfl, hu5⟩; have bR5 := bx_up bR (up_trans hu4 hu5); have a0 := (bR5 0 _ rfl).1; have f0 := (bR5 0 _ rfl).2; have a1 := (bR5 1 _ rfl).1; have f1 := (bR5 1 _ rfl).2; have a2 := (bR5 2 _ rfl).1; have f2 := (bR5 2 _ rfl).2))
    have hQ5 := pts_up hQ hu5
    have B9 := bx_set3 bR5 (v0 := .int .i64 lx) (v1 := .int .i64 ly) (v2 := .slice A 2 ca)
    have Q9 := pts_far (pts_far (pts_far hQ5 (p := ⟨w.heap.size + 1 + 1 + 1, 0, none⟩) hfar (.int .i64 lx)) (p := ⟨w.heap.size + 1 + 1 + 1, 1, none⟩) hfar (.int .i64 ly)) (p := ⟨w.heap.size + 1 + 1 + 1, 2, none⟩) hfar (.slice A 2 ca)
    have U9 : Up w (((w5.setCell ⟨w.heap.size + 1 + 1 + 1, 0, none⟩ (.int .i64 lx)).setCell ⟨w.heap.size + 1 + 1 + 1, 1, none⟩ (.int .i64 ly)).setCell ⟨w.heap.size + 1 + 1 + 1, 2, none⟩ (.slice A 2 ca)) := up_set (up_set (up_set (up_trans hU4 hu5) (by simp only; omega) _) (by simp only; omega) _) (by simp only; omega) _
    generalize ((w5.setCell ⟨w.heap.size + 1 + 1 + 1, 0, none⟩ (.int .i64 lx)).setCell ⟨w.heap.size + 1 + 1 + 1, 1, none⟩ (.int .i64 ly)).setCell ⟨w.heap.size + 1 + 1 + 1, 2, none⟩ (.slice A 2 ca) = W9 at *
    obtain ⟨z0, z1, z2⟩ := bx3 B9
    refine bodyPost_ret (v := .tuple #[.agg #[.int .i64 lx, .int .i64 ly, .slice A 2 ca], .int .i64 0]) (by simp [results, Tryz.f19, go_sem, z0, z1, z2]) rfl ?_
    exact ⟨⟨A, ca, rfl, Q9⟩, U9⟩
end Go.Proofs.YthifcalemhpmoaaGreat
