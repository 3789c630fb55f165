/- The document's envelope of a valid load. -/
import Derived.Test.YtdehnokcjnbjoaaGreatEnvP
import Derived.Deep.RegionHeld3
import Derived.Test.YtdehnokcjnbjoaaGreatLdF
namespace Go.Proofs.YtdehnokcjnbjoaaGreat
open Go.RowKit Go.Proofs.Gn
attribute [local go_sem] Oper.semAt_some
set_option linter.unusedVariables false
theorem bx_o1 (w : World) (x y : List Value) (T : TypeId) : Bx (((w.drew.alloc (.cells x.toArray T)).alloc (.cells y.toArray T))) w.heap.size x := bx_alloc (bx_new w.drew _ _) _
theorem bx_o2 (w : World) (x y : List Value) (T : TypeId) : Bx (((w.drew.alloc (.cells x.toArray T)).alloc (.cells y.toArray T))) (w.heap.size + 1) y := by
  have q := bx_new (w.drew.alloc (.cells x.toArray T)) y T
  rw [World.size_alloc] at q
  exact q
set_option maxRecDepth 100000 in
set_option maxHeartbeats 16000000 in
theorem r_EnvelopeL (s : ByteArray) (A : Option Addr) (ps : List Pce) (capA : Nat) (B : Option Addr) (ys : List Eye) (capB : Nat) (f : Int) (w : World) (hA : Pcs w A ps) (hB : Eyes w B ys) (hn : ps.length ≤ 9223372036854775807) (hm : ys.length ≤ 9223372036854775807) (he : loE s ps ys f = 0) :
    Calls Tryz.prog 19 #[loV s A ps.length capA B ys.length capB f] w fun e w' => e = .returned (.tuple #[.agg #[.int .i64 (loN s ps ys f gX), .int .i64 (loN s ps ys f gY), .int .i64 (loN s ps ys f gZ)], .agg #[.int .i64 (loX s ps ys f hX), .int .i64 (loX s ps ys f hY), .int .i64 (loX s ps ys f hZ)], .int .i64 0]) ∧ Up w w' := by
  have HC := hide (fun W (hW : Up w W) => r_CheckL s A ps capA B ys capB f W (pcs_up hA hW) (eyes_up hB hW) hn hm)
  obtain ⟨⟨hn1, hn32, _⟩, _, _, hok, _⟩ := loE_ok he
  have HK := hide (fun k (hk : k < ps.length) => (okP_iff _).1 (okPs_get hok hk))
  unfold loN loX
  simp only [if_pos he]
  rw [he] at HC
  obtain ⟨b, off, rfl, hc⟩ := hA.resolve_left (by intro h; rw [h] at hn1; simp at hn1)
  have HP := hide hc
  have h0 := hc 0 (by omega)
  have hhd : ps.headD ⟨0, 0, 0, 0, 0, 0, 0⟩ = ps[0] := by
    cases ps with
    | nil => simp at hn1
    | cons p l => rfl
  rw [hhd]
  obtain ⟨p0, hp0⟩ : ∃ p, ps[0] = p := ⟨_, rfl⟩
  have hok0 := unhide HK 0 (by omega)
  rw [hp0] at h0 hok0 ⊢
  have HTn := hide (fun g k hk => mnK_take g p0 (ps := ps) (k := k) hk)
  have HTx := hide (fun g k hk => mxK_take g p0 (ps := ps) (k := k) hk)
  have HF := hide (show ps.take ps.length = ps from List.take_length)
  obtain ⟨n, hnn⟩ : ∃ n, ps.length = n := ⟨_, rfl⟩
  obtain ⟨m, hmm⟩ : ∃ m, ys.length = m := ⟨_, rfl⟩
  have HNN := hide hnn
  rw [hnn] at HC hn1 hn32 HF ⊢
  rw [hmm] at HC ⊢
  obtain ⟨h00, h01, h02, h03, h04, h05, h06⟩ := h0
  simp only [Nat.zero_mul, Nat.add_zero] at h00 h01 h02 h03 h04 h05 h06
  have i0 : ¬ ((n : Int) ≤ 0) := by omega
  have i1 : (0 : Int) < (n : Int) := by omega
  unfold okPp at hok0
  have s0 : IntKind.i64.wrap (p0.x + p0.l) = p0.x + p0.l := i64_small (by omega)
  have s1 : IntKind.i64.wrap (p0.y + p0.w) = p0.y + p0.w := i64_small (by omega)
  have s2 : IntKind.i64.wrap (p0.z + p0.h) = p0.z + p0.h := i64_small (by omega)
  clear hA hB hn hm he hok hc hhd hp0 hok0 hnn hmm
  go_enter Tryz.func19, Tryz.ntmps19
  go_upto_region 1 with fail
  refine at_wpC (fun W0 hW0 => ?_)
  have U0 : Up w W0 := by rw [hW0]; exact (by repeat' (first | (with_reducible exact up_refl _) | (with_reducible assumption) | (with_reducible refine up_alloc ?_ _) | (with_reducible refine up_drewN ?_ _) | (with_reducible refine up_drew ?_) | (with_reducible refine up_set ?_ (by first | (simp; done) | (simp; omega) | omega) _) | (refine up_trans ?_ (by with_reducible assumption))))
  obtain ⟨bL, bR, bT⟩ : Bx W0 w.heap.size [.string s, .slice (some ⟨b, off, none⟩) n capA, .slice B m capB, .int .i64 f] ∧ Bx W0 (w.heap.size + 1) [.int .i64 0, .int .i64 0, .int .i64 0] ∧ Bx W0 (w.heap.size + 1 + 1) [.int .i64 0, .int .i64 0, .int .i64 0] := by
    rw [hW0]
    exact bxm3 w [.string s, .slice (some ⟨b, off, none⟩) n capA, .slice B m capB, .int .i64 f] [.int .i64 0, .int .i64 0, .int .i64 0] [.int .i64 0, .int .i64 0, .int .i64 0] _ _ _
  clear hW0
  have c0 := (bL 0 _ rfl).1
  have c1 := (bL 1 _ rfl).1
  have c2 := (bL 2 _ rfl).1
  have c3 := (bL 3 _ rfl).1
  go_upto_region 3 with (go_at_call 17; (with_reducible refine (unhide HC _ U0).mono ?_); rintro e w1 ⟨rfl, v1⟩; have bL1 := bx_up bL v1; have bR1 := bx_up bR v1; have bT1 := bx_up bT v1; have U1 := up_trans U0 v1)
  clear bL bR bT U0 v1 c0 c1 c2 c3
  have k1 := (bL1 1 _ rfl).1
  have d0 := up_cell U1 h00
  have d1 := up_cell U1 h01
  have d2 := up_cell U1 h02
  have d3 := up_cell U1 h03
  have d4 := up_cell U1 h04
  have d5 := up_cell U1 h05
  have d6 := up_cell U1 h06
  have hzz := bx_lt bT1 (by simp)
  go_upto_region 4 with fail
  refine at_wpC (fun W3 hW3 => ?_)
  have v3 : Up w1 W3 := by rw [hW3]; exact (by repeat' (first | (with_reducible exact up_refl _) | (with_reducible assumption) | (with_reducible refine up_alloc ?_ _) | (with_reducible refine up_drewN ?_ _) | (with_reducible refine up_drew ?_) | (with_reducible refine up_set ?_ (by first | (simp; done) | (simp; omega) | omega) _) | (refine up_trans ?_ (by with_reducible assumption))))
  have b5 : Bx W3 w1.heap.size (pcL7 p0) := by rw [hW3]; exact bx_new w1 _ _
  obtain ⟨g5, hg5⟩ : ∃ g, w1.heap.size = g := ⟨_, rfl⟩
  rw [hg5] at b5 hzz ⊢
  have hEn : EnB w [.string s, .slice (some ⟨b, off, none⟩) n capA, .slice B m capB, .int .i64 f] g5 (pcL7 p0) W3 := ⟨bx_up bL1 v3, bx_up bR1 v3, bx_up bT1 v3, b5, hzz, up_trans U1 v3⟩
  clear hW3 v3 bL1 bR1 bT1 U1 h00 h01 h02 h03 h04 h05 h06 d0 d1 d2 d3 d4 d5 d6 k1 hzz b5 hg5
  go_cut [6, 7] (fun sa sb wx => ∃ ga gb, sa = .pointer (some ⟨ga, 0, none⟩) ∧ sb = .pointer (some ⟨gb, 0, none⟩) ∧ ga ≠ gb ∧ W3.heap.size ≤ ga ∧ W3.heap.size ≤ gb ∧ Bx wx ga [.int .i64 p0.x, .int .i64 p0.y, .int .i64 p0.z] ∧ Bx wx gb [.int .i64 (p0.x + p0.l), .int .i64 (p0.y + p0.w), .int .i64 (p0.z + p0.h)] ∧ Up W3 wx)
  case first => as_aux_lemma =>
    have c0 := (hEn.p 0 _ rfl).1
    have c1 := (hEn.p 1 _ rfl).1
    have c2 := (hEn.p 2 _ rfl).1
    have c3 := (hEn.p 3 _ rfl).1
    have c4 := (hEn.p 4 _ rfl).1
    have c5 := (hEn.p 5 _ rfl).1
    have hlt := bx_lt hEn.p (by simp)
    have HS := hide (fun W (hW : Up W3 W) => (⟨up_cell hW c0, up_cell hW c1, up_cell hW c2, up_cell hW c3, up_cell hW c4, up_cell hW c5, hW⟩ : W.cell? ⟨g5, 0, none⟩ = some (.int .i64 p0.x) ∧ W.cell? ⟨g5, 1, none⟩ = some (.int .i64 p0.y) ∧ W.cell? ⟨g5, 2, none⟩ = some (.int .i64 p0.z) ∧ W.cell? ⟨g5, 3, none⟩ = some (.int .i64 p0.l) ∧ W.cell? ⟨g5, 4, none⟩ = some (.int .i64 p0.w) ∧ W.cell? ⟨g5, 5, none⟩ = some (.int .i64 p0.h) ∧ Up W3 W))
    clear hEn
    go_region_held3 (fun wx => wx.cell? ⟨g5, 0, none⟩ = some (.int .i64 p0.x) ∧ wx.cell? ⟨g5, 1, none⟩ = some (.int .i64 p0.y) ∧ wx.cell? ⟨g5, 2, none⟩ = some (.int .i64 p0.z) ∧ wx.cell? ⟨g5, 3, none⟩ = some (.int .i64 p0.l) ∧ wx.cell? ⟨g5, 4, none⟩ = some (.int .i64 p0.w) ∧ wx.cell? ⟨g5, 5, none⟩ = some (.int .i64 p0.h) ∧ Up W3 wx) (exact unhide HS _ (by repeat' (first | (with_reducible exact up_refl _) | (with_reducible assumption) | (with_reducible refine up_alloc ?_ _) | (with_reducible refine up_drewN ?_ _) | (with_reducible refine up_drew ?_) | (with_reducible refine up_set ?_ (by first | (simp; done) | (simp; omega) | omega) _) | (refine up_trans ?_ (by with_reducible assumption))))) (fail)
    all_goals (go_wp2_with fail)
    all_goals (go_meet)
    · exact ⟨_, _, rfl, rfl, by omega, by omega, by omega, bx_drew (bx_o1 _ _ _ _), bx_drew (bx_o2 _ _ _ _), (by repeat' (first | (with_reducible exact up_refl _) | (with_reducible assumption) | (with_reducible refine up_alloc ?_ _) | (with_reducible refine up_drewN ?_ _) | (with_reducible refine up_drew ?_) | (with_reducible refine up_set ?_ (by first | (simp; done) | (simp; omega) | omega) _) | (refine up_trans ?_ (by with_reducible assumption))))⟩
    · exact ⟨_, _, rfl, rfl, by omega, by omega, by omega, bx_drew (bx_o2 _ _ _ _), bx_drew (bx_o1 _ _ _ _), (by repeat' (first | (with_reducible exact up_refl _) | (with_reducible assumption) | (with_reducible refine up_alloc ?_ _) | (with_reducible refine up_drewN ?_ _) | (with_reducible refine up_drew ?_) | (with_reducible refine up_set ?_ (by first | (simp; done) | (simp; omega) | omega) _) | (refine up_trans ?_ (by with_reducible assumption))))⟩
  case rest =>
    obtain ⟨g6, g7, rfl, rfl, hne67, hg6, hg7, b6, b7, v4⟩ := hcut
    obtain ⟨W4, rfl⟩ : ∃ z : World, z = wc := ⟨_, rfl⟩
    have hE4 := hEn.ups v4
    have hw3 : g5 < W3.heap.size := bx_lt hEn.p (by simp)
    have hg56 : g5 < g6 := by omega
    have hg57 : g5 < g7 := by omega
    clear hEn v4 hg6 hg7 hw3
    have l1 := (hE4.l 1 _ rfl).1
    go_upto_region 6 with fail
    clear l1
    go_loopw [8] (fun s8 wr => ∃ (k : Nat) (q : Pce), k ≤ n ∧ s8 = .int .i64 k ∧ Bx wr g6 [.int .i64 (mnK gX p0 (ps.take k)), .int .i64 (mnK gY p0 (ps.take k)), .int .i64 (mnK gZ p0 (ps.take k))] ∧ Bx wr g7 [.int .i64 (mxK hX p0 (ps.take k)), .int .i64 (mxK hY p0 (ps.take k)), .int .i64 (mxK hZ p0 (ps.take k))] ∧ EnB w [.string s, .slice (some ⟨b, off, none⟩) n capA, .slice B m capB, .int .i64 f] g5 (pcL7 q) wr) (fun s8 _ => n - (intOf s8).toNat)
    case atStart => exact ⟨0, p0, by omega, rfl, b6, b7, hE4⟩
    case round =>
      clear b6 b7 hE4
      obtain ⟨k, qo, hk, rfl, b6, b7, hEn⟩ := hrel
      have l1 := (hEn.l 1 _ rfl).1
      by_cases hlt : k < n
      · have hl : k < ps.length := by rw [unhide HNN]; exact hlt
        have hp := pceAt_up (unhide HP k hl) hEn.up
        have hokq := unhide HK k hl
        have T0 := hide (unhide HTn gX k hl)
        have T1 := hide (unhide HTn gY k hl)
        have T2 := hide (unhide HTn gZ k hl)
        have T3 := hide (unhide HTx hX k hl)
        have T4 := hide (unhide HTx hY k hl)
        have T5 := hide (unhide HTx hZ k hl)
        obtain ⟨q, hq⟩ : ∃ q, ps[k] = q := ⟨_, rfl⟩
        rw [hq] at hp hokq T0 T1 T2 T3 T4 T5
        obtain ⟨e0, e1, e2, e3, e4, e5, e6⟩ := hp
        have j0 : (0 : Int) ≤ (k : Int) := by omega
        have j1 : (k : Int) < (n : Int) := by omega
        have j3 : (k : Int).toNat = k := by omega
        have hwk : IntKind.i64.wrap ((k : Int) + 1) = (k : Int) + 1 := IntWalk.i64_in _ ⟨by omega, by omega⟩
        unfold okPp at hokq
        have s0 : IntKind.i64.wrap (q.x + q.l) = q.x + q.l := i64_small (by omega)
        have s1 : IntKind.i64.wrap (q.y + q.w) = q.y + q.w := i64_small (by omega)
        have s2 : IntKind.i64.wrap (q.z + q.h) = q.z + q.h := i64_small (by omega)
        clear hq hokq
        generalize mnK gX p0 (ps.take k) = a0 at *
        generalize mnK gY p0 (ps.take k) = a1 at *
        generalize mnK gZ p0 (ps.take k) = a2 at *
        generalize mxK hX p0 (ps.take k) = d0 at *
        generalize mxK hY p0 (ps.take k) = d1 at *
        generalize mxK hZ p0 (ps.take k) = d2 at *
        have f0 := (hEn.p 0 _ rfl).2
        have m0 := (hEn.p 0 _ rfl).1
        have f1 := (hEn.p 1 _ rfl).2
        have m1 := (hEn.p 1 _ rfl).1
        have f2 := (hEn.p 2 _ rfl).2
        have m2 := (hEn.p 2 _ rfl).1
        have f3 := (hEn.p 3 _ rfl).2
        have m3 := (hEn.p 3 _ rfl).1
        have f4 := (hEn.p 4 _ rfl).2
        have m4 := (hEn.p 4 _ rfl).1
        have f5 := (hEn.p 5 _ rfl).2
        have m5 := (hEn.p 5 _ rfl).1
        have f6 := (hEn.p 6 _ rfl).2
        have m6 := (hEn.p 6 _ rfl).1
        go_upto_region 9 with fail
        have hE5 := hEn.pce q
        have b65 := (bx_far (bx_far (bx_far (bx_far (bx_far (bx_far (bx_far b6 (p := ⟨g5, 0, none⟩) (by simp only; omega) (.int .i64 q.x)) (p := ⟨g5, 1, none⟩) (by simp only; omega) (.int .i64 q.y)) (p := ⟨g5, 2, none⟩) (by simp only; omega) (.int .i64 q.z)) (p := ⟨g5, 3, none⟩) (by simp only; omega) (.int .i64 q.l)) (p := ⟨g5, 4, none⟩) (by simp only; omega) (.int .i64 q.w)) (p := ⟨g5, 5, none⟩) (by simp only; omega) (.int .i64 q.h)) (p := ⟨g5, 6, none⟩) (by simp only; omega) (.int .i64 q.m))
        have b75 := (bx_far (bx_far (bx_far (bx_far (bx_far (bx_far (bx_far b7 (p := ⟨g5, 0, none⟩) (by simp only; omega) (.int .i64 q.x)) (p := ⟨g5, 1, none⟩) (by simp only; omega) (.int .i64 q.y)) (p := ⟨g5, 2, none⟩) (by simp only; omega) (.int .i64 q.z)) (p := ⟨g5, 3, none⟩) (by simp only; omega) (.int .i64 q.l)) (p := ⟨g5, 4, none⟩) (by simp only; omega) (.int .i64 q.w)) (p := ⟨g5, 5, none⟩) (by simp only; omega) (.int .i64 q.h)) (p := ⟨g5, 6, none⟩) (by simp only; omega) (.int .i64 q.m))
        generalize (((((((wr.setCell ⟨g5, 0, none⟩ (.int .i64 q.x)).setCell ⟨g5, 1, none⟩ (.int .i64 q.y)).setCell ⟨g5, 2, none⟩ (.int .i64 q.z)).setCell ⟨g5, 3, none⟩ (.int .i64 q.l)).setCell ⟨g5, 4, none⟩ (.int .i64 q.w)).setCell ⟨g5, 5, none⟩ (.int .i64 q.h)).setCell ⟨g5, 6, none⟩ (.int .i64 q.m)) = W5 at hE5 b65 b75 ⊢
        clear hEn b6 b7 l1 e0 e1 e2 e3 e4 e5 e6 f0 f1 f2 f3 f4 f5 f6 m0 m1 m2 m3 m4 m5 m6
        have hEn := hE5
        clear hE5
        go_cut [9, 10] (fun sa sb wx => ∃ ga gb, sa = .pointer (some ⟨ga, 0, none⟩) ∧ sb = .pointer (some ⟨gb, 0, none⟩) ∧ ga ≠ gb ∧ W5.heap.size ≤ ga ∧ W5.heap.size ≤ gb ∧ Bx wx ga [.int .i64 q.x, .int .i64 q.y, .int .i64 q.z] ∧ Bx wx gb [.int .i64 (q.x + q.l), .int .i64 (q.y + q.w), .int .i64 (q.z + q.h)] ∧ Up W5 wx)
        case first => as_aux_lemma =>
          have c0 := (hEn.p 0 _ rfl).1
          have c1 := (hEn.p 1 _ rfl).1
          have c2 := (hEn.p 2 _ rfl).1
          have c3 := (hEn.p 3 _ rfl).1
          have c4 := (hEn.p 4 _ rfl).1
          have c5 := (hEn.p 5 _ rfl).1
          have hlt := bx_lt hEn.p (by simp)
          have HS := hide (fun W (hW : Up W5 W) => (⟨up_cell hW c0, up_cell hW c1, up_cell hW c2, up_cell hW c3, up_cell hW c4, up_cell hW c5, hW⟩ : W.cell? ⟨g5, 0, none⟩ = some (.int .i64 q.x) ∧ W.cell? ⟨g5, 1, none⟩ = some (.int .i64 q.y) ∧ W.cell? ⟨g5, 2, none⟩ = some (.int .i64 q.z) ∧ W.cell? ⟨g5, 3, none⟩ = some (.int .i64 q.l) ∧ W.cell? ⟨g5, 4, none⟩ = some (.int .i64 q.w) ∧ W.cell? ⟨g5, 5, none⟩ = some (.int .i64 q.h) ∧ Up W5 W))
          clear hEn
          go_region_held3 (fun wx => wx.cell? ⟨g5, 0, none⟩ = some (.int .i64 q.x) ∧ wx.cell? ⟨g5, 1, none⟩ = some (.int .i64 q.y) ∧ wx.cell? ⟨g5, 2, none⟩ = some (.int .i64 q.z) ∧ wx.cell? ⟨g5, 3, none⟩ = some (.int .i64 q.l) ∧ wx.cell? ⟨g5, 4, none⟩ = some (.int .i64 q.w) ∧ wx.cell? ⟨g5, 5, none⟩ = some (.int .i64 q.h) ∧ Up W5 wx) (exact unhide HS _ (by repeat' (first | (with_reducible exact up_refl _) | (with_reducible assumption) | (with_reducible refine up_alloc ?_ _) | (with_reducible refine up_drewN ?_ _) | (with_reducible refine up_drew ?_) | (with_reducible refine up_set ?_ (by first | (simp; done) | (simp; omega) | omega) _) | (refine up_trans ?_ (by with_reducible assumption))))) (fail)
          all_goals (go_wp2_with fail)
          all_goals (go_meet)
          · exact ⟨_, _, rfl, rfl, by omega, by omega, by omega, bx_drew (bx_o1 _ _ _ _), bx_drew (bx_o2 _ _ _ _), (by repeat' (first | (with_reducible exact up_refl _) | (with_reducible assumption) | (with_reducible refine up_alloc ?_ _) | (with_reducible refine up_drewN ?_ _) | (with_reducible refine up_drew ?_) | (with_reducible refine up_set ?_ (by first | (simp; done) | (simp; omega) | omega) _) | (refine up_trans ?_ (by with_reducible assumption))))⟩
          · exact ⟨_, _, rfl, rfl, by omega, by omega, by omega, bx_drew (bx_o2 _ _ _ _), bx_drew (bx_o1 _ _ _ _), (by repeat' (first | (with_reducible exact up_refl _) | (with_reducible assumption) | (with_reducible refine up_alloc ?_ _) | (with_reducible refine up_drewN ?_ _) | (with_reducible refine up_drew ?_) | (with_reducible refine up_set ?_ (by first | (simp; done) | (simp; omega) | omega) _) | (refine up_trans ?_ (by with_reducible assumption))))⟩
        case rest =>
          obtain ⟨g9, g10, rfl, rfl, hne, hg9, hg10, b9, b10, v6⟩ := hcut
          obtain ⟨W6, rfl⟩ : ∃ z : World, z = wc := ⟨_, rfl⟩
          have hE6 := hEn.ups v6
          have b66 := bx_up b65 v6
          have b76 := bx_up b75 v6
          have hl6 : g6 < W5.heap.size := bx_lt b65 (by simp)
          have hl7 : g7 < W5.heap.size := bx_lt b75 (by simp)
          clear hEn v6 b65 b75
          change Hid (_ = min a0 q.x) at T0
          change Hid (_ = min a1 q.y) at T1
          change Hid (_ = min a2 q.z) at T2
          change Hid (_ = max d0 (q.x + q.l)) at T3
          change Hid (_ = max d1 (q.y + q.w)) at T4
          change Hid (_ = max d2 (q.z + q.h)) at T5
          obtain ⟨PP, hPP⟩ : ∃ P, pcL7 q = P := ⟨_, rfl⟩
          have HQQ := hide hPP.symm
          rw [hPP] at hE6
          clear hPP s0 s1 s2
          generalize hr0 : q.x + q.l = r0 at T3 b10
          generalize hr1 : q.y + q.w = r1 at T4 b10
          generalize hr2 : q.z + q.h = r2 at T5 b10
          generalize hq0 : q.x = q0 at T0 b9
          generalize hq1 : q.y = q1 at T1 b9
          generalize hq2 : q.z = q2 at T2 b9
          clear hr0 hr1 hr2 hq0 hq1 hq2
          go_upto_region 11 with fail
          go_loopw [11] (fun s11 wi => ∃ (j : Nat) (J : Int), j ≤ 3 ∧ J = (j : Int) ∧ s11 = .int .i64 J ∧ Bx wi g6 (tri j a0 a1 a2 (min a0 q0) (min a1 q1) (min a2 q2)) ∧ Bx wi g7 (tri j d0 d1 d2 (max d0 r0) (max d1 r1) (max d2 r2)) ∧ Bx wi g9 [.int .i64 q0, .int .i64 q1, .int .i64 q2] ∧ Bx wi g10 [.int .i64 r0, .int .i64 r1, .int .i64 r2] ∧ EnB w [.string s, .slice (some ⟨b, off, none⟩) n capA, .slice B m capB, .int .i64 f] g5 PP wi) (fun s11 _ => 3 - (intOf s11).toNat)
          case atStart => exact ⟨0, 0, by omega, rfl, rfl, b66, b76, b9, b10, hE6⟩
          case round =>
            clear b66 b76 b9 b10 hE6
            obtain ⟨j, J, hj, hJ, rfl, b6, b7, b9, b10, hEn⟩ := hrel
            have hj4 : j = 0 ∨ j = 1 ∨ j = 2 ∨ j = 3 := by omega
            rcases hj4 with rfl | rfl | rfl | rfl
            · obtain rfl : J = 0 := hJ
              have B6 : Bx wr g6 [.int .i64 (a0), .int .i64 (a1), .int .i64 (a2)] := b6
              have B7 : Bx wr g7 [.int .i64 (d0), .int .i64 (d1), .int .i64 (d2)] := b7
              clear b6 b7 hj
              have y0 := (B6 0 _ rfl).1
              have y1 := (B6 0 _ rfl).2
              have y4 := (b9 0 _ rfl).1
              go_upto_region 13 with fail
              go_region
              rw [mn_if]
              have C6 := bx_drew (bx_set B6 0 (.int .i64 (min a0 q0)))
              have C7 := bx_drew (bx_far B7 (p := ⟨g6, 0, none⟩) (by simp only; omega) (.int .i64 (min a0 q0)))
              have C9 := bx_drew (bx_far b9 (p := ⟨g6, 0, none⟩) (by simp only; omega) (.int .i64 (min a0 q0)))
              have C10 := bx_drew (bx_far b10 (p := ⟨g6, 0, none⟩) (by simp only; omega) (.int .i64 (min a0 q0)))
              have CE := (hEn.set (p := ⟨g6, 0, none⟩) (by simp only; omega) (.int .i64 (min a0 q0))).ups (up_drew (up_refl _))
              clear B6 B7 b9 b10 hEn y0 y1 y4
              generalize (wr.setCell ⟨g6, 0, none⟩ (.int .i64 (min a0 q0))).drew = W7 at *
              have y2 := (C7 0 _ rfl).1
              have y3 := (C7 0 _ rfl).2
              have y5 := (C10 0 _ rfl).1
              go_upto_region 14 with fail
              go_region
              rw [mx_if]
              have D7 := bx_drew (bx_set C7 0 (.int .i64 (max d0 r0)))
              have D6 := bx_drew (bx_far C6 (p := ⟨g7, 0, none⟩) (by simp only; omega) (.int .i64 (max d0 r0)))
              have D9 := bx_drew (bx_far C9 (p := ⟨g7, 0, none⟩) (by simp only; omega) (.int .i64 (max d0 r0)))
              have D10 := bx_drew (bx_far C10 (p := ⟨g7, 0, none⟩) (by simp only; omega) (.int .i64 (max d0 r0)))
              have DE := (CE.set (p := ⟨g7, 0, none⟩) (by simp only; omega) (.int .i64 (max d0 r0))).ups (up_drew (up_refl _))
              clear C6 C7 C9 C10 CE y2 y3 y5
              generalize (W7.setCell ⟨g7, 0, none⟩ (.int .i64 (max d0 r0))).drew = W8 at *
              go_wp2_with fail
              go_roundw
              case rel => exact ⟨1, 1, by omega, by first | rfl | omega, by first | rfl | trivial | go_num, D6, D7, D9, D10, DE⟩
              case measure => first | (simp [intOf]; done) | (simp [intOf]; omega)
            · obtain rfl : J = 1 := hJ
              have B6 : Bx wr g6 [.int .i64 (min a0 q0), .int .i64 (a1), .int .i64 (a2)] := b6
              have B7 : Bx wr g7 [.int .i64 (max d0 r0), .int .i64 (d1), .int .i64 (d2)] := b7
              clear b6 b7 hj
              have y0 := (B6 1 _ rfl).1
              have y1 := (B6 1 _ rfl).2
              have y4 := (b9 1 _ rfl).1
              go_upto_region 13 with fail
              go_region
              rw [mn_if]
              have C6 := bx_drew (bx_set B6 1 (.int .i64 (min a1 q1)))
              have C7 := bx_drew (bx_far B7 (p := ⟨g6, 1, none⟩) (by simp only; omega) (.int .i64 (min a1 q1)))
              have C9 := bx_drew (bx_far b9 (p := ⟨g6, 1, none⟩) (by simp only; omega) (.int .i64 (min a1 q1)))
              have C10 := bx_drew (bx_far b10 (p := ⟨g6, 1, none⟩) (by simp only; omega) (.int .i64 (min a1 q1)))
              have CE := (hEn.set (p := ⟨g6, 1, none⟩) (by simp only; omega) (.int .i64 (min a1 q1))).ups (up_drew (up_refl _))
              clear B6 B7 b9 b10 hEn y0 y1 y4
              generalize (wr.setCell ⟨g6, 1, none⟩ (.int .i64 (min a1 q1))).drew = W7 at *
              have y2 := (C7 1 _ rfl).1
              have y3 := (C7 1 _ rfl).2
              have y5 := (C10 1 _ rfl).1
              go_upto_region 14 with fail
              go_region
              rw [mx_if]
              have D7 := bx_drew (bx_set C7 1 (.int .i64 (max d1 r1)))
              have D6 := bx_drew (bx_far C6 (p := ⟨g7, 1, none⟩) (by simp only; omega) (.int .i64 (max d1 r1)))
              have D9 := bx_drew (bx_far C9 (p := ⟨g7, 1, none⟩) (by simp only; omega) (.int .i64 (max d1 r1)))
              have D10 := bx_drew (bx_far C10 (p := ⟨g7, 1, none⟩) (by simp only; omega) (.int .i64 (max d1 r1)))
              have DE := (CE.set (p := ⟨g7, 1, none⟩) (by simp only; omega) (.int .i64 (max d1 r1))).ups (up_drew (up_refl _))
              clear C6 C7 C9 C10 CE y2 y3 y5
              generalize (W7.setCell ⟨g7, 1, none⟩ (.int .i64 (max d1 r1))).drew = W8 at *
              go_wp2_with fail
              go_roundw
              case rel => exact ⟨2, 2, by omega, by first | rfl | omega, by first | rfl | trivial | go_num, D6, D7, D9, D10, DE⟩
              case measure => first | (simp [intOf]; done) | (simp [intOf]; omega)
            · obtain rfl : J = 2 := hJ
              have B6 : Bx wr g6 [.int .i64 (min a0 q0), .int .i64 (min a1 q1), .int .i64 (a2)] := b6
              have B7 : Bx wr g7 [.int .i64 (max d0 r0), .int .i64 (max d1 r1), .int .i64 (d2)] := b7
              clear b6 b7 hj
              have y0 := (B6 2 _ rfl).1
              have y1 := (B6 2 _ rfl).2
              have y4 := (b9 2 _ rfl).1
              go_upto_region 13 with fail
              go_region
              rw [mn_if]
              have C6 := bx_drew (bx_set B6 2 (.int .i64 (min a2 q2)))
              have C7 := bx_drew (bx_far B7 (p := ⟨g6, 2, none⟩) (by simp only; omega) (.int .i64 (min a2 q2)))
              have C9 := bx_drew (bx_far b9 (p := ⟨g6, 2, none⟩) (by simp only; omega) (.int .i64 (min a2 q2)))
              have C10 := bx_drew (bx_far b10 (p := ⟨g6, 2, none⟩) (by simp only; omega) (.int .i64 (min a2 q2)))
              have CE := (hEn.set (p := ⟨g6, 2, none⟩) (by simp only; omega) (.int .i64 (min a2 q2))).ups (up_drew (up_refl _))
              clear B6 B7 b9 b10 hEn y0 y1 y4
              generalize (wr.setCell ⟨g6, 2, none⟩ (.int .i64 (min a2 q2))).drew = W7 at *
              have y2 := (C7 2 _ rfl).1
              have y3 := (C7 2 _ rfl).2
              have y5 := (C10 2 _ rfl).1
              go_upto_region 14 with fail
              go_region
              rw [mx_if]
              have D7 := bx_drew (bx_set C7 2 (.int .i64 (max d2 r2)))
              have D6 := bx_drew (bx_far C6 (p := ⟨g7, 2, none⟩) (by simp only; omega) (.int .i64 (max d2 r2)))
              have D9 := bx_drew (bx_far C9 (p := ⟨g7, 2, none⟩) (by simp only; omega) (.int .i64 (max d2 r2)))
              have D10 := bx_drew (bx_far C10 (p := ⟨g7, 2, none⟩) (by simp only; omega) (.int .i64 (max d2 r2)))
              have DE := (CE.set (p := ⟨g7, 2, none⟩) (by simp only; omega) (.int .i64 (max d2 r2))).ups (up_drew (up_refl _))
              clear C6 C7 C9 C10 CE y2 y3 y5
              generalize (W7.setCell ⟨g7, 2, none⟩ (.int .i64 (max d2 r2))).drew = W8 at *
              go_wp2_with fail
              go_roundw
              case rel => exact ⟨3, 3, by omega, by first | rfl | omega, by first | rfl | trivial | go_num, D6, D7, D9, D10, DE⟩
              case measure => first | (simp [intOf]; done) | (simp [intOf]; omega)
            · obtain rfl : J = 3 := hJ
              have C6 : Bx wr g6 [.int .i64 (min a0 q0), .int .i64 (min a1 q1), .int .i64 (min a2 q2)] := b6
              have C7 : Bx wr g7 [.int .i64 (max d0 r0), .int .i64 (max d1 r1), .int .i64 (max d2 r2)] := b7
              rw [← unhide T0, ← unhide T1, ← unhide T2] at C6
              rw [← unhide T3, ← unhide T4, ← unhide T5] at C7
              rw [unhide HQQ] at hEn
              clear b6 b7 b9 b10
              go_wp2_with fail
              go_roundw
              case rel => exact ⟨k + 1, q, by omega, by first | rfl | trivial | go_num, C6, C7, hEn⟩
              case measure => first | (simp [intOf]; done) | (simp [intOf]; omega)
      · obtain rfl : k = n := by omega
        rw [unhide HF] at b6 b7
        have i2 : ¬ (k : Int) < (k : Int) := by omega
        obtain ⟨a0, ha0⟩ : ∃ v, mnK gX p0 ps = v := ⟨_, rfl⟩
        rw [ha0] at b6
        have HA0 := hide ha0
        clear ha0
        obtain ⟨a1, ha1⟩ : ∃ v, mnK gY p0 ps = v := ⟨_, rfl⟩
        rw [ha1] at b6
        have HA1 := hide ha1
        clear ha1
        obtain ⟨a2, ha2⟩ : ∃ v, mnK gZ p0 ps = v := ⟨_, rfl⟩
        rw [ha2] at b6
        have HA2 := hide ha2
        clear ha2
        obtain ⟨d0, hd0⟩ : ∃ v, mxK hX p0 ps = v := ⟨_, rfl⟩
        rw [hd0] at b7
        have HD0 := hide hd0
        clear hd0
        obtain ⟨d1, hd1⟩ : ∃ v, mxK hY p0 ps = v := ⟨_, rfl⟩
        rw [hd1] at b7
        have HD1 := hide hd1
        clear hd1
        obtain ⟨d2, hd2⟩ : ∃ v, mxK hZ p0 ps = v := ⟨_, rfl⟩
        rw [hd2] at b7
        have HD2 := hide hd2
        clear hd2
        go_upto_region 15 with fail
        have bR := hEn.r
        have bT := hEn.t
        have hu := hEn.up
        have hg := hEn.g
        clear hEn l1
        have y0 := (b6 0 _ rfl).1
        have z0 := (b7 0 _ rfl).1
        have m0 := (bR 0 _ rfl).1
        have f0 := (bR 0 _ rfl).2
        have n0 := (bT 0 _ rfl).1
        have g0 := (bT 0 _ rfl).2
        have y1 := (b6 1 _ rfl).1
        have z1 := (b7 1 _ rfl).1
        have m1 := (bR 1 _ rfl).1
        have f1 := (bR 1 _ rfl).2
        have n1 := (bT 1 _ rfl).1
        have g1 := (bT 1 _ rfl).2
        have y2 := (b6 2 _ rfl).1
        have z2 := (b7 2 _ rfl).1
        have m2 := (bR 2 _ rfl).1
        have f2 := (bR 2 _ rfl).2
        have n2 := (bT 2 _ rfl).1
        have g2 := (bT 2 _ rfl).2
        have k7 := (bx_far (bx_far (bx_far b7 (p := ⟨w.heap.size + 1, 0, none⟩) (by simp only; omega) (.int .i64 a0)) (p := ⟨w.heap.size + 1, 1, none⟩) (by simp only; omega) (.int .i64 a1)) (p := ⟨w.heap.size + 1, 2, none⟩) (by simp only; omega) (.int .i64 a2))
        have kT := (bx_far (bx_far (bx_far bT (p := ⟨w.heap.size + 1, 0, none⟩) (by simp only; omega) (.int .i64 a0)) (p := ⟨w.heap.size + 1, 1, none⟩) (by simp only; omega) (.int .i64 a1)) (p := ⟨w.heap.size + 1, 2, none⟩) (by simp only; omega) (.int .i64 a2))
        have k6 := (bx_far (bx_far (bx_far b6 (p := ⟨w.heap.size + 1 + 1, 0, none⟩) (by simp only; omega) (.int .i64 d0)) (p := ⟨w.heap.size + 1 + 1, 1, none⟩) (by simp only; omega) (.int .i64 d1)) (p := ⟨w.heap.size + 1 + 1, 2, none⟩) (by simp only; omega) (.int .i64 d2))
        have kR := (bx_far (bx_far (bx_far bR (p := ⟨w.heap.size + 1 + 1, 0, none⟩) (by simp only; omega) (.int .i64 d0)) (p := ⟨w.heap.size + 1 + 1, 1, none⟩) (by simp only; omega) (.int .i64 d1)) (p := ⟨w.heap.size + 1 + 1, 2, none⟩) (by simp only; omega) (.int .i64 d2))
        have ky0 := (k6 0 _ rfl).1
        have kz0 := (k7 0 _ rfl).1
        have km0 := (kR 0 _ rfl).2
        have kn0 := (kT 0 _ rfl).2
        have ky1 := (k6 1 _ rfl).1
        have kz1 := (k7 1 _ rfl).1
        have km1 := (kR 1 _ rfl).2
        have kn1 := (kT 1 _ rfl).2
        have ky2 := (k6 2 _ rfl).1
        have kz2 := (k7 2 _ rfl).1
        have km2 := (kR 2 _ rfl).2
        have kn2 := (kT 2 _ rfl).2
        have HBR := hide bR
        have HBT := hide bT
        have HU := hide hu
        clear b6 b7 bR bT k6 k7 kR kT hu
        go_region
        have BR := bx_drew (bx_far (bx_far (bx_far (bx_set (bx_set (bx_set (unhide HBR) 0 (.int .i64 a0)) 1 (.int .i64 a1)) 2 (.int .i64 a2)) (p := ⟨w.heap.size + 1 + 1, 0, none⟩) (by simp only; omega) (.int .i64 d0)) (p := ⟨w.heap.size + 1 + 1, 1, none⟩) (by simp only; omega) (.int .i64 d1)) (p := ⟨w.heap.size + 1 + 1, 2, none⟩) (by simp only; omega) (.int .i64 d2))
        have BT := bx_drew (bx_set (bx_set (bx_set (bx_far (bx_far (bx_far (unhide HBT) (p := ⟨w.heap.size + 1, 0, none⟩) (by simp only; omega) (.int .i64 a0)) (p := ⟨w.heap.size + 1, 1, none⟩) (by simp only; omega) (.int .i64 a1)) (p := ⟨w.heap.size + 1, 2, none⟩) (by simp only; omega) (.int .i64 a2)) 0 (.int .i64 d0)) 1 (.int .i64 d1)) 2 (.int .i64 d2))
        have UZ := up_drew (up_set (up_set (up_set (up_set (up_set (up_set (unhide HU) (p := ⟨w.heap.size + 1, 0, none⟩) (by simp only; omega) (.int .i64 a0)) (p := ⟨w.heap.size + 1, 1, none⟩) (by simp only; omega) (.int .i64 a1)) (p := ⟨w.heap.size + 1, 2, none⟩) (by simp only; omega) (.int .i64 a2)) (p := ⟨w.heap.size + 1 + 1, 0, none⟩) (by simp only; omega) (.int .i64 d0)) (p := ⟨w.heap.size + 1 + 1, 1, none⟩) (by simp only; omega) (.int .i64 d1)) (p := ⟨w.heap.size + 1 + 1, 2, none⟩) (by simp only; omega) (.int .i64 d2))
        generalize ((((((wr.setCell ⟨w.heap.size + 1, 0, none⟩ (.int .i64 a0)).setCell ⟨w.heap.size + 1, 1, none⟩ (.int .i64 a1)).setCell ⟨w.heap.size + 1, 2, none⟩ (.int .i64 a2)).setCell ⟨w.heap.size + 1 + 1, 0, none⟩ (.int .i64 d0)).setCell ⟨w.heap.size + 1 + 1, 1, none⟩ (.int .i64 d1)).setCell ⟨w.heap.size + 1 + 1, 2, none⟩ (.int .i64 d2)).drew = WZ at BR BT UZ ⊢
        have q0 := (BR 0 _ rfl).1
        have r0 := (BT 0 _ rfl).1
        have q1 := (BR 1 _ rfl).1
        have r1 := (BT 1 _ rfl).1
        have q2 := (BR 2 _ rfl).1
        have r2 := (BT 2 _ rfl).1
        clear y0 y1 y2 z0 z1 z2 m0 m1 m2 n0 n1 n2 f0 f1 f2 g0 g1 g2 ky0 ky1 ky2 kz0 kz1 kz2 km0 km1 km2 kn0 kn1 kn2
        go_wp2_with fail
        refine bodyPost_ret (v := .tuple #[.agg #[.int .i64 a0, .int .i64 a1, .int .i64 a2], .agg #[.int .i64 d0, .int .i64 d1, .int .i64 d2], .int .i64 0]) (by simp [results, Tryz.f19, go_sem, q0, q1, q2, r0, r1, r2]) rfl ?_
        exact ⟨by rw [unhide HA0, unhide HA1, unhide HA2, unhide HD0, unhide HD1, unhide HD2], UZ⟩
theorem r_EnvelopeA (s : ByteArray) (A : Option Addr) (ps : List Pce) (capA : Nat) (B : Option Addr) (ys : List Eye) (capB : Nat) (f : Int) (w : World) (hA : Pcs w A ps) (hB : Eyes w B ys) (hn : ps.length ≤ 9223372036854775807) (hm : ys.length ≤ 9223372036854775807) :
    Calls Tryz.prog 19 #[loV s A ps.length capA B ys.length capB f] w fun e w' => e = .returned (evQ s ps ys f) ∧ Up w w' := by
  by_cases he : loE s ps ys f = 0
  · have q := r_EnvelopeL s A ps capA B ys capB f w hA hB hn hm he
    show Calls Tryz.prog 19 _ w fun e w' => e = .returned (.tuple #[.agg #[.int .i64 (loN s ps ys f gX), .int .i64 (loN s ps ys f gY), .int .i64 (loN s ps ys f gZ)], .agg #[.int .i64 (loX s ps ys f hX), .int .i64 (loX s ps ys f hY), .int .i64 (loX s ps ys f hZ)], .int .i64 (loE s ps ys f)]) ∧ Up w w'
    rw [he]
    exact q
  · rw [evQ_no he]
    exact r_EnvE s A ps capA B ys capB f w hA hB hn hm _ rfl he
end Go.Proofs.YtdehnokcjnbjoaaGreat
