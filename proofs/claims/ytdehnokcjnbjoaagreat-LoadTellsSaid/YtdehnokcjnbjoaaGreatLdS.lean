/- load.Envelope: the program's. -/
import Derived.Test.YtdehnokcjnbjoaaGreatLdR
import Derived.Test.YtdehnokcjnbjoaaGreatEnds
namespace Go.Proofs.YtdehnokcjnbjoaaGreat
open Go.RowKit Go.Proofs.Gn
attribute [local go_sem] Oper.semAt_some
set_option linter.unusedVariables false
/-- The least and the greatest of a number of the first k pieces, and of the first piece. -/
def mnK (g : Pce → Int) (p : Pce) (ps : List Pce) : Int := ps.foldl (fun a q => min a (g q)) (g p)
def mxK (g : Pce → Int) (p : Pce) (ps : List Pce) : Int := ps.foldl (fun a q => max a (g q)) (g p)
theorem mnK_take (g : Pce → Int) (p : Pce) {ps : List Pce} {k : Nat} (h : k < ps.length) : mnK g p (ps.take (k + 1)) = min (mnK g p (ps.take k)) (g ps[k]) := by
  unfold mnK
  rw [List.take_succ_eq_append_getElem h, List.foldl_append]
  rfl
theorem mxK_take (g : Pce → Int) (p : Pce) {ps : List Pce} {k : Nat} (h : k < ps.length) : mxK g p (ps.take (k + 1)) = max (mxK g p (ps.take k)) (g ps[k]) := by
  unfold mxK
  rw [List.take_succ_eq_append_getElem h, List.foldl_append]
  rfl
theorem mn_if (a q : Int) : (if q < a then q else a) = min a q := by split <;> omega
theorem mx_if (a q : Int) : (if a < q then q else a) = max a q := by split <;> omega
abbrev gX (p : Pce) : Int := p.x
abbrev gY (p : Pce) : Int := p.y
abbrev gZ (p : Pce) : Int := p.z
abbrev hX (p : Pce) : Int := p.x + p.l
abbrev hY (p : Pce) : Int := p.y + p.w
abbrev hZ (p : Pce) : Int := p.z + p.h
/-- An end of the envelope that is told. -/
def loN (s : ByteArray) (ps : List Pce) (ys : List Eye) (f : Int) (g : Pce → Int) : Int := if loE s ps ys f = 0 then mnK g (ps.headD ⟨0, 0, 0, 0, 0, 0, 0⟩) ps else 0
def loX (s : ByteArray) (ps : List Pce) (ys : List Eye) (f : Int) (g : Pce → Int) : Int := if loE s ps ys f = 0 then mxK g (ps.headD ⟨0, 0, 0, 0, 0, 0, 0⟩) ps else 0
/-- Three numbers, the first j of which are others. -/
abbrev tri (j : Nat) (a0 a1 a2 b0 b1 b2 : Int) : List Value := [.int .i64 (if 0 < j then b0 else a0), .int .i64 (if 1 < j then b1 else a1), .int .i64 (if 2 < j then b2 else a2)]
set_option maxRecDepth 100000 in
set_option maxHeartbeats 16000000 in
theorem p_EnvelopeL (s : ByteArray) (A : Option Addr) (ps : List Pce) (capA : Nat) (B : Option Addr) (ys : List Eye) (capB : Nat) (f : Int) (w : World) (hA : Pcs w A ps) (hB : Eyes w B ys) (hn : ps.length ≤ 9223372036854775807) (hm : ys.length ≤ 9223372036854775807) (he : loE s ps ys f = 0) :
    Calls Tryz.prog 18 #[loV s A ps.length capA B ys.length capB f] w fun e w' => e = .returned (.tuple #[.agg #[.int .i64 (loN s ps ys f gX), .int .i64 (loN s ps ys f gY), .int .i64 (loN s ps ys f gZ)], .agg #[.int .i64 (loX s ps ys f hX), .int .i64 (loX s ps ys f hY), .int .i64 (loX s ps ys f hZ)], .int .i64 0]) ∧ Up w w' := by
  have HC := hide (fun W (hW : Up w W) => p_CheckL s A ps capA B ys capB f W (pcs_up hA hW) (eyes_up hB hW) hn hm)
  obtain ⟨⟨hn1, hn32, _⟩, _, _, hok, _⟩ := loE_ok he
  have HK := hide (fun k (hk : k < ps.length) => (okP_iff _).1 (okPs_get hok hk))
  have HE := hide (fun (p : Pce) (hp : okPp p) W => p_ends (x := p.x) (y := p.y) (z := p.z) (l := p.l) (wd := p.w) (h := p.h) (m := p.m) hp W)
  unfold loN loX
  simp only [if_pos he]
  rw [he] at HC
  obtain ⟨b, off, rfl, hc⟩ := hA.resolve_left (by intro h; rw [h] at hn1; simp at hn1)
  have HP := hide hc
  have h0 := hc 0 (by omega)
  have hhd : ps.headD ⟨0, 0, 0, 0, 0, 0, 0⟩ = ps[0] := by
    cases ps with
    | nil => simp at hn1
    | cons p l => rfl
  rw [hhd]
  obtain ⟨p0, hp0⟩ : ∃ p, ps[0] = p := ⟨_, rfl⟩
  have hok0 := unhide HK 0 (by omega)
  rw [hp0] at h0 hok0 ⊢
  have HE0 := hide (fun W => unhide HE p0 hok0 W)
  have HTn := hide (fun g k hk => mnK_take g p0 (ps := ps) (k := k) hk)
  have HTx := hide (fun g k hk => mxK_take g p0 (ps := ps) (k := k) hk)
  have HF := hide (show ps.take ps.length = ps from List.take_length)
  obtain ⟨n, hnn⟩ : ∃ n, ps.length = n := ⟨_, rfl⟩
  obtain ⟨m, hmm⟩ : ∃ m, ys.length = m := ⟨_, rfl⟩
  have HNN := hide hnn
  rw [hnn] at HC hn1 hn32 HF ⊢
  rw [hmm] at HC ⊢
  obtain ⟨h00, h01, h02, h03, h04, h05, h06⟩ := h0
  simp only [Nat.zero_mul, Nat.add_zero] at h00 h01 h02 h03 h04 h05 h06
  have i0 : ¬ ((n : Int) ≤ 0) := by omega
  have i1 : (0 : Int) < (n : Int) := by omega
  clear hA hB hn hm he hok hc hhd hp0 hok0 hnn hmm
  go_enter Tryz.func18, Tryz.ntmps18
  go_upto_region 1 with fail
  refine at_wpC (fun W0 hW0 => ?_)
  have U0 : Up w W0 := by rw [hW0]; exact (by repeat' (first | (with_reducible exact up_refl _) | (with_reducible assumption) | (with_reducible refine up_alloc ?_ _) | (with_reducible refine up_drewN ?_ _) | (with_reducible refine up_drew ?_) | (with_reducible refine up_set ?_ (by first | (simp; done) | (simp; omega) | omega) _) | (refine up_trans ?_ (by with_reducible assumption))))
  obtain ⟨bL, bR, bT⟩ : Bx W0 w.heap.size [.string s, .slice (some ⟨b, off, none⟩) n capA, .slice B m capB, .int .i64 f] ∧ Bx W0 (w.heap.size + 1) [.int .i64 0, .int .i64 0, .int .i64 0] ∧ Bx W0 (w.heap.size + 1 + 1) [.int .i64 0, .int .i64 0, .int .i64 0] := by
    rw [hW0]
    exact bxm3 w [.string s, .slice (some ⟨b, off, none⟩) n capA, .slice B m capB, .int .i64 f] [.int .i64 0, .int .i64 0, .int .i64 0] [.int .i64 0, .int .i64 0, .int .i64 0] _ _ _
  clear hW0
  have c0 := (bL 0 _ rfl).1
  have c1 := (bL 1 _ rfl).1
  have c2 := (bL 2 _ rfl).1
  have c3 := (bL 3 _ rfl).1
  go_upto_region 2 with (go_at_call 16; (with_reducible refine (unhide HC _ U0).mono ?_); rintro e w1 ⟨rfl, u1⟩; have bL1 := bx_up bL u1; have bR1 := bx_up bR u1; have bT1 := bx_up bT u1; have U1 := up_trans U0 u1)
  clear bL bR bT U0 u1 c0 c1 c2 c3
  have k1 := (bL1 1 _ rfl).1
  have d0 := up_cell U1 h00
  have d1 := up_cell U1 h01
  have d2 := up_cell U1 h02
  have d3 := up_cell U1 h03
  have d4 := up_cell U1 h04
  have d5 := up_cell U1 h05
  have d6 := up_cell U1 h06
  have hzz := bx_lt bT1 (by simp)
  go_upto_region 5 with (go_at_call 64; (with_reducible refine (unhide HE0 _).mono ?_); rintro e w2 ⟨rfl, u2⟩)
  refine at_wpC (fun W3 hW3 => ?_)
  have u3 : Up w1 W3 := by rw [hW3]; exact (by repeat' (first | (with_reducible exact up_refl _) | (with_reducible assumption) | (with_reducible refine up_alloc ?_ _) | (with_reducible refine up_drewN ?_ _) | (with_reducible refine up_drew ?_) | (with_reducible refine up_set ?_ (by first | (simp; done) | (simp; omega) | omega) _) | (refine up_trans ?_ (by with_reducible assumption))))
  obtain ⟨b6, b7⟩ : Bx W3 w2.heap.size [.int .i64 p0.x, .int .i64 p0.y, .int .i64 p0.z] ∧ Bx W3 (w2.heap.size + 1) [.int .i64 (p0.x + p0.l), .int .i64 (p0.y + p0.w), .int .i64 (p0.z + p0.h)] := by
    rw [hW3]
    exact bxl2 w2 _ _ _
  have hg6 : w.heap.size + 1 + 1 < w2.heap.size := by have := u2.size; omega
  have bL3 := bx_up bL1 u3
  have bR3 := bx_up bR1 u3
  have bT3 := bx_up bT1 u3
  have U3 := up_trans U1 u3
  have l1 := (bL3 1 _ rfl).1
  have HG : Hid (w.heap.size ≤ w2.heap.size) := hide (by omega)
  obtain ⟨g6, hq6⟩ : ∃ g, w2.heap.size = g := ⟨_, rfl⟩
  rw [hq6] at b6 b7 hg6 HG ⊢
  obtain ⟨g7, hq7⟩ : ∃ g, g6 + 1 = g := ⟨_, rfl⟩
  rw [hq7] at b7 ⊢
  clear hW3 u3 u2 bL1 bR1 bT1 U1 h00 h01 h02 h03 h04 h05 h06 d0 d1 d2 d3 d4 d5 d6 k1 hq6 hzz
  go_upto_region 6 with fail
  go_loopw [31] (fun s31 wr => ∃ k : Nat, k ≤ n ∧ s31 = .int .i64 k ∧ Bx wr g6 [.int .i64 (mnK gX p0 (ps.take k)), .int .i64 (mnK gY p0 (ps.take k)), .int .i64 (mnK gZ p0 (ps.take k))] ∧ Bx wr g7 [.int .i64 (mxK hX p0 (ps.take k)), .int .i64 (mxK hY p0 (ps.take k)), .int .i64 (mxK hZ p0 (ps.take k))] ∧ Bx wr (w.heap.size + 1) [.int .i64 0, .int .i64 0, .int .i64 0] ∧ Bx wr (w.heap.size + 1 + 1) [.int .i64 0, .int .i64 0, .int .i64 0] ∧ Up w wr) (fun s31 _ => n - (intOf s31).toNat)
  case atStart => exact ⟨0, by omega, rfl, b6, b7, bR3, bT3, U3⟩
  case round =>
    clear b6 b7 bR3 bT3 bL3 U3 l1
    obtain ⟨k, hk, rfl, b6, b7, bR, bT, hu⟩ := hrel
    by_cases hlt : k < n
    · have hl : k < ps.length := by rw [unhide HNN]; exact hlt
      have hp := pceAt_up (unhide HP k hl) hu
      have hokq := unhide HK k hl
      have T0 := hide (unhide HTn gX k hl)
      have T1 := hide (unhide HTn gY k hl)
      have T2 := hide (unhide HTn gZ k hl)
      have T3 := hide (unhide HTx hX k hl)
      have T4 := hide (unhide HTx hY k hl)
      have T5 := hide (unhide HTx hZ k hl)
      obtain ⟨q, hq⟩ : ∃ q, ps[k] = q := ⟨_, rfl⟩
      rw [hq] at hp hokq T0 T1 T2 T3 T4 T5
      have HEq := hide (fun W => unhide HE q hokq W)
      obtain ⟨e0, e1, e2, e3, e4, e5, e6⟩ := hp
      have j0 : (0 : Int) ≤ (k : Int) := by omega
      have j1 : (k : Int) < (n : Int) := by omega
      have j3 : (k : Int).toNat = k := by omega
      have hwk : IntKind.i64.wrap ((k : Int) + 1) = (k : Int) + 1 := IntWalk.i64_in _ ⟨by omega, by omega⟩
      clear hq hokq
      generalize mnK gX p0 (ps.take k) = a0 at *
      generalize mnK gY p0 (ps.take k) = a1 at *
      generalize mnK gZ p0 (ps.take k) = a2 at *
      generalize mxK hX p0 (ps.take k) = d0 at *
      generalize mxK hY p0 (ps.take k) = d1 at *
      generalize mxK hZ p0 (ps.take k) = d2 at *
      go_upto_region 8 with fail
      refine at_wpC (fun W4 hW4 => ?_)
      have u4 : Up wr W4 := by rw [hW4]; exact (by repeat' (first | (with_reducible exact up_refl _) | (with_reducible assumption) | (with_reducible refine up_alloc ?_ _) | (with_reducible refine up_drewN ?_ _) | (with_reducible refine up_drew ?_) | (with_reducible refine up_set ?_ (by first | (simp; done) | (simp; omega) | omega) _) | (refine up_trans ?_ (by with_reducible assumption))))
      have bq : Bx W4 wr.heap.size [.int .i64 q.x, .int .i64 q.y, .int .i64 q.z, .int .i64 q.l, .int .i64 q.w, .int .i64 q.h, .int .i64 q.m] := by rw [hW4]; exact bx_new wr _ _
      have hw4 : wr.heap.size < W4.heap.size := bx_lt bq (by simp)
      have h67 : g7 < wr.heap.size := bx_lt b7 (by simp)
      have U4 := up_trans hu u4
      have b64 := bx_up b6 u4
      have b74 := bx_up b7 u4
      have bR4 := bx_up bR u4
      have bT4 := bx_up bT u4
      obtain ⟨g9, hq9⟩ : ∃ g, wr.heap.size = g := ⟨_, rfl⟩
      rw [hq9] at bq hw4 h67 ⊢
      clear hW4 u4 e0 e1 e2 e3 e4 e5 e6 b6 b7 bR bT hu hq9
      have x0 := (bq 0 _ rfl).1
      have x1 := (bq 1 _ rfl).1
      have x2 := (bq 2 _ rfl).1
      have x3 := (bq 3 _ rfl).1
      have x4 := (bq 4 _ rfl).1
      have x5 := (bq 5 _ rfl).1
      have x6 := (bq 6 _ rfl).1
      go_upto_region 9 with (go_at_call 64; (with_reducible refine (unhide HEq _).mono ?_); rintro e w5 ⟨rfl, u5⟩)
      refine at_wpC (fun W6 hW6 => ?_)
      have u6 : Up W4 W6 := by rw [hW6]; exact (by repeat' (first | (with_reducible exact up_refl _) | (with_reducible assumption) | (with_reducible refine up_alloc ?_ _) | (with_reducible refine up_drewN ?_ _) | (with_reducible refine up_drew ?_) | (with_reducible refine up_set ?_ (by first | (simp; done) | (simp; omega) | omega) _) | (refine up_trans ?_ (by with_reducible assumption))))
      obtain ⟨b10, b11⟩ : Bx W6 w5.heap.size [.int .i64 q.x, .int .i64 q.y, .int .i64 q.z] ∧ Bx W6 (w5.heap.size + 1) [.int .i64 (q.x + q.l), .int .i64 (q.y + q.w), .int .i64 (q.z + q.h)] := by
        rw [hW6]
        exact bxl2 w5 _ _ _
      have hg10 : g9 < w5.heap.size := by have := u5.size; omega
      have b66 := bx_up b64 u6
      have b76 := bx_up b74 u6
      have bR6 := bx_up bR4 u6
      have bT6 := bx_up bT4 u6
      have U6 := up_trans U4 u6
      obtain ⟨g10, hq10⟩ : ∃ g, w5.heap.size = g := ⟨_, rfl⟩
      rw [hq10] at b10 b11 hg10 ⊢
      clear hW6 u6 u5 x0 x1 x2 x3 x4 x5 x6 bq b64 b74 bR4 bT4 U4 hq10
      change Hid (_ = min a0 q.x) at T0
      change Hid (_ = min a1 q.y) at T1
      change Hid (_ = min a2 q.z) at T2
      change Hid (_ = max d0 (q.x + q.l)) at T3
      change Hid (_ = max d1 (q.y + q.w)) at T4
      change Hid (_ = max d2 (q.z + q.h)) at T5
      generalize q.x + q.l = r0 at *
      generalize q.y + q.w = r1 at *
      generalize q.z + q.h = r2 at *
      generalize q.x = q0 at *
      generalize q.y = q1 at *
      generalize q.z = q2 at *
      go_upto_region 10 with fail
      go_loopw [40] (fun s40 wi => ∃ (j : Nat) (J : Int), j ≤ 3 ∧ J = (j : Int) ∧ s40 = .int .i64 J ∧ Bx wi g6 (tri j a0 a1 a2 (min a0 q0) (min a1 q1) (min a2 q2)) ∧ Bx wi g7 (tri j d0 d1 d2 (max d0 r0) (max d1 r1) (max d2 r2)) ∧ Bx wi g10 [.int .i64 q0, .int .i64 q1, .int .i64 q2] ∧ Bx wi (g10 + 1) [.int .i64 r0, .int .i64 r1, .int .i64 r2] ∧ Bx wi (w.heap.size + 1) [.int .i64 0, .int .i64 0, .int .i64 0] ∧ Bx wi (w.heap.size + 1 + 1) [.int .i64 0, .int .i64 0, .int .i64 0] ∧ Up w wi) (fun s40 _ => 3 - (intOf s40).toNat)
      case atStart => exact ⟨0, 0, by omega, rfl, rfl, b66, b76, b10, b11, bR6, bT6, U6⟩
      case round =>
        clear b66 b76 b10 b11 bR6 bT6 U6
        obtain ⟨j, J, hj, hJ, rfl, b6, b7, b10, b11, bR, bT, hu⟩ := hrel
        have hj4 : j = 0 ∨ j = 1 ∨ j = 2 ∨ j = 3 := by omega
        rcases hj4 with rfl | rfl | rfl | rfl
        · obtain rfl : J = 0 := hJ
          have B6 : Bx wr g6 [.int .i64 (a0), .int .i64 (a1), .int .i64 (a2)] := b6
          have B7 : Bx wr g7 [.int .i64 (d0), .int .i64 (d1), .int .i64 (d2)] := b7
          clear b6 b7 hj
          have y0 := (B6 0 _ rfl).1
          have y1 := (B6 0 _ rfl).2
          have y4 := (b10 0 _ rfl).1
          go_upto_region 12 with fail
          go_region
          rw [mn_if]
          have C6 := bx_drew (bx_set B6 0 (.int .i64 (min a0 q0)))
          have C7 := bx_drew (bx_far B7 (p := ⟨g6, 0, none⟩) (by simp only; omega) (.int .i64 (min a0 q0)))
          have C10 := bx_drew (bx_far b10 (p := ⟨g6, 0, none⟩) (by simp only; omega) (.int .i64 (min a0 q0)))
          have C11 := bx_drew (bx_far b11 (p := ⟨g6, 0, none⟩) (by simp only; omega) (.int .i64 (min a0 q0)))
          have CR := bx_drew (bx_far bR (p := ⟨g6, 0, none⟩) (by simp only; omega) (.int .i64 (min a0 q0)))
          have CT := bx_drew (bx_far bT (p := ⟨g6, 0, none⟩) (by simp only; omega) (.int .i64 (min a0 q0)))
          have CU := up_drew (up_set hu (p := ⟨g6, 0, none⟩) (by simp only; omega) (.int .i64 (min a0 q0)))
          clear B6 B7 b10 b11 bR bT hu y0 y1 y4
          generalize (wr.setCell ⟨g6, 0, none⟩ (.int .i64 (min a0 q0))).drew = W7 at *
          have y2 := (C7 0 _ rfl).1
          have y3 := (C7 0 _ rfl).2
          have y5 := (C11 0 _ rfl).1
          go_upto_region 13 with fail
          go_region
          rw [mx_if]
          have D7 := bx_drew (bx_set C7 0 (.int .i64 (max d0 r0)))
          have D6 := bx_drew (bx_far C6 (p := ⟨g7, 0, none⟩) (by simp only; omega) (.int .i64 (max d0 r0)))
          have D10 := bx_drew (bx_far C10 (p := ⟨g7, 0, none⟩) (by simp only; omega) (.int .i64 (max d0 r0)))
          have D11 := bx_drew (bx_far C11 (p := ⟨g7, 0, none⟩) (by simp only; omega) (.int .i64 (max d0 r0)))
          have DR := bx_drew (bx_far CR (p := ⟨g7, 0, none⟩) (by simp only; omega) (.int .i64 (max d0 r0)))
          have DT := bx_drew (bx_far CT (p := ⟨g7, 0, none⟩) (by simp only; omega) (.int .i64 (max d0 r0)))
          have DU := up_drew (up_set CU (p := ⟨g7, 0, none⟩) (by simp only; omega) (.int .i64 (max d0 r0)))
          clear C6 C7 C10 C11 CR CT CU y2 y3 y5
          generalize (W7.setCell ⟨g7, 0, none⟩ (.int .i64 (max d0 r0))).drew = W8 at *
          go_wp2_with fail
          go_roundw
          case rel => exact ⟨1, 1, by omega, by first | rfl | omega, by first | rfl | trivial | go_num, D6, D7, D10, D11, DR, DT, DU⟩
          case measure => first | (simp [intOf]; done) | (simp [intOf]; omega)
        · obtain rfl : J = 1 := hJ
          have B6 : Bx wr g6 [.int .i64 (min a0 q0), .int .i64 (a1), .int .i64 (a2)] := b6
          have B7 : Bx wr g7 [.int .i64 (max d0 r0), .int .i64 (d1), .int .i64 (d2)] := b7
          clear b6 b7 hj
          have y0 := (B6 1 _ rfl).1
          have y1 := (B6 1 _ rfl).2
          have y4 := (b10 1 _ rfl).1
          go_upto_region 12 with fail
          go_region
          rw [mn_if]
          have C6 := bx_drew (bx_set B6 1 (.int .i64 (min a1 q1)))
          have C7 := bx_drew (bx_far B7 (p := ⟨g6, 1, none⟩) (by simp only; omega) (.int .i64 (min a1 q1)))
          have C10 := bx_drew (bx_far b10 (p := ⟨g6, 1, none⟩) (by simp only; omega) (.int .i64 (min a1 q1)))
          have C11 := bx_drew (bx_far b11 (p := ⟨g6, 1, none⟩) (by simp only; omega) (.int .i64 (min a1 q1)))
          have CR := bx_drew (bx_far bR (p := ⟨g6, 1, none⟩) (by simp only; omega) (.int .i64 (min a1 q1)))
          have CT := bx_drew (bx_far bT (p := ⟨g6, 1, none⟩) (by simp only; omega) (.int .i64 (min a1 q1)))
          have CU := up_drew (up_set hu (p := ⟨g6, 1, none⟩) (by simp only; omega) (.int .i64 (min a1 q1)))
          clear B6 B7 b10 b11 bR bT hu y0 y1 y4
          generalize (wr.setCell ⟨g6, 1, none⟩ (.int .i64 (min a1 q1))).drew = W7 at *
          have y2 := (C7 1 _ rfl).1
          have y3 := (C7 1 _ rfl).2
          have y5 := (C11 1 _ rfl).1
          go_upto_region 13 with fail
          go_region
          rw [mx_if]
          have D7 := bx_drew (bx_set C7 1 (.int .i64 (max d1 r1)))
          have D6 := bx_drew (bx_far C6 (p := ⟨g7, 1, none⟩) (by simp only; omega) (.int .i64 (max d1 r1)))
          have D10 := bx_drew (bx_far C10 (p := ⟨g7, 1, none⟩) (by simp only; omega) (.int .i64 (max d1 r1)))
          have D11 := bx_drew (bx_far C11 (p := ⟨g7, 1, none⟩) (by simp only; omega) (.int .i64 (max d1 r1)))
          have DR := bx_drew (bx_far CR (p := ⟨g7, 1, none⟩) (by simp only; omega) (.int .i64 (max d1 r1)))
          have DT := bx_drew (bx_far CT (p := ⟨g7, 1, none⟩) (by simp only; omega) (.int .i64 (max d1 r1)))
          have DU := up_drew (up_set CU (p := ⟨g7, 1, none⟩) (by simp only; omega) (.int .i64 (max d1 r1)))
          clear C6 C7 C10 C11 CR CT CU y2 y3 y5
          generalize (W7.setCell ⟨g7, 1, none⟩ (.int .i64 (max d1 r1))).drew = W8 at *
          go_wp2_with fail
          go_roundw
          case rel => exact ⟨2, 2, by omega, by first | rfl | omega, by first | rfl | trivial | go_num, D6, D7, D10, D11, DR, DT, DU⟩
          case measure => first | (simp [intOf]; done) | (simp [intOf]; omega)
        · obtain rfl : J = 2 := hJ
          have B6 : Bx wr g6 [.int .i64 (min a0 q0), .int .i64 (min a1 q1), .int .i64 (a2)] := b6
          have B7 : Bx wr g7 [.int .i64 (max d0 r0), .int .i64 (max d1 r1), .int .i64 (d2)] := b7
          clear b6 b7 hj
          have y0 := (B6 2 _ rfl).1
          have y1 := (B6 2 _ rfl).2
          have y4 := (b10 2 _ rfl).1
          go_upto_region 12 with fail
          go_region
          rw [mn_if]
          have C6 := bx_drew (bx_set B6 2 (.int .i64 (min a2 q2)))
          have C7 := bx_drew (bx_far B7 (p := ⟨g6, 2, none⟩) (by simp only; omega) (.int .i64 (min a2 q2)))
          have C10 := bx_drew (bx_far b10 (p := ⟨g6, 2, none⟩) (by simp only; omega) (.int .i64 (min a2 q2)))
          have C11 := bx_drew (bx_far b11 (p := ⟨g6, 2, none⟩) (by simp only; omega) (.int .i64 (min a2 q2)))
          have CR := bx_drew (bx_far bR (p := ⟨g6, 2, none⟩) (by simp only; omega) (.int .i64 (min a2 q2)))
          have CT := bx_drew (bx_far bT (p := ⟨g6, 2, none⟩) (by simp only; omega) (.int .i64 (min a2 q2)))
          have CU := up_drew (up_set hu (p := ⟨g6, 2, none⟩) (by simp only; omega) (.int .i64 (min a2 q2)))
          clear B6 B7 b10 b11 bR bT hu y0 y1 y4
          generalize (wr.setCell ⟨g6, 2, none⟩ (.int .i64 (min a2 q2))).drew = W7 at *
          have y2 := (C7 2 _ rfl).1
          have y3 := (C7 2 _ rfl).2
          have y5 := (C11 2 _ rfl).1
          go_upto_region 13 with fail
          go_region
          rw [mx_if]
          have D7 := bx_drew (bx_set C7 2 (.int .i64 (max d2 r2)))
          have D6 := bx_drew (bx_far C6 (p := ⟨g7, 2, none⟩) (by simp only; omega) (.int .i64 (max d2 r2)))
          have D10 := bx_drew (bx_far C10 (p := ⟨g7, 2, none⟩) (by simp only; omega) (.int .i64 (max d2 r2)))
          have D11 := bx_drew (bx_far C11 (p := ⟨g7, 2, none⟩) (by simp only; omega) (.int .i64 (max d2 r2)))
          have DR := bx_drew (bx_far CR (p := ⟨g7, 2, none⟩) (by simp only; omega) (.int .i64 (max d2 r2)))
          have DT := bx_drew (bx_far CT (p := ⟨g7, 2, none⟩) (by simp only; omega) (.int .i64 (max d2 r2)))
          have DU := up_drew (up_set CU (p := ⟨g7, 2, none⟩) (by simp only; omega) (.int .i64 (max d2 r2)))
          clear C6 C7 C10 C11 CR CT CU y2 y3 y5
          generalize (W7.setCell ⟨g7, 2, none⟩ (.int .i64 (max d2 r2))).drew = W8 at *
          go_wp2_with fail
          go_roundw
          case rel => exact ⟨3, 3, by omega, by first | rfl | omega, by first | rfl | trivial | go_num, D6, D7, D10, D11, DR, DT, DU⟩
          case measure => first | (simp [intOf]; done) | (simp [intOf]; omega)
        · obtain rfl : J = 3 := hJ
          have C6 : Bx wr g6 [.int .i64 (min a0 q0), .int .i64 (min a1 q1), .int .i64 (min a2 q2)] := b6
          have C7 : Bx wr g7 [.int .i64 (max d0 r0), .int .i64 (max d1 r1), .int .i64 (max d2 r2)] := b7
          rw [← unhide T0, ← unhide T1, ← unhide T2] at C6
          rw [← unhide T3, ← unhide T4, ← unhide T5] at C7
          clear b6 b7 b10 b11
          go_wp2_with fail
          go_roundw
          case rel => exact ⟨k + 1, by omega, by first | rfl | trivial | go_num, C6, C7, bR, bT, hu⟩
          case measure => first | (simp [intOf]; done) | (simp [intOf]; omega)
    · obtain rfl : k = n := by omega
      rw [unhide HF] at b6 b7
      have i2 : ¬ (k : Int) < (k : Int) := by omega
      obtain ⟨a0, ha0⟩ : ∃ v, mnK gX p0 ps = v := ⟨_, rfl⟩
      rw [ha0] at b6
      have HA0 := hide ha0
      clear ha0
      obtain ⟨a1, ha1⟩ : ∃ v, mnK gY p0 ps = v := ⟨_, rfl⟩
      rw [ha1] at b6
      have HA1 := hide ha1
      clear ha1
      obtain ⟨a2, ha2⟩ : ∃ v, mnK gZ p0 ps = v := ⟨_, rfl⟩
      rw [ha2] at b6
      have HA2 := hide ha2
      clear ha2
      obtain ⟨d0, hd0⟩ : ∃ v, mxK hX p0 ps = v := ⟨_, rfl⟩
      rw [hd0] at b7
      have HD0 := hide hd0
      clear hd0
      obtain ⟨d1, hd1⟩ : ∃ v, mxK hY p0 ps = v := ⟨_, rfl⟩
      rw [hd1] at b7
      have HD1 := hide hd1
      clear hd1
      obtain ⟨d2, hd2⟩ : ∃ v, mxK hZ p0 ps = v := ⟨_, rfl⟩
      rw [hd2] at b7
      have HD2 := hide hd2
      clear hd2
      have y0 := (b6 0 _ rfl).1
      have y1 := (b6 1 _ rfl).1
      have y2 := (b6 2 _ rfl).1
      have z0 := (b7 0 _ rfl).1
      have z1 := (b7 1 _ rfl).1
      have z2 := (b7 2 _ rfl).1
      have m0 := (bR 0 _ rfl).1
      have m1 := (bR 1 _ rfl).1
      have m2 := (bR 2 _ rfl).1
      have m3 := (bT 0 _ rfl).1
      have m4 := (bT 1 _ rfl).1
      have m5 := (bT 2 _ rfl).1
      have f0 := (bR 0 _ rfl).2
      have f1 := (bR 1 _ rfl).2
      have f2 := (bR 2 _ rfl).2
      have f3 := (bT 0 _ rfl).2
      have f4 := (bT 1 _ rfl).2
      have f5 := (bT 2 _ rfl).2
      go_upto_region 16 with fail
      go_region
      have R9 := bx_drew (bx_far (bx_far (bx_far (bx_set (bx_set (bx_set bR 0 (.int .i64 a0)) 1 (.int .i64 a1)) 2 (.int .i64 a2)) (p := ⟨w.heap.size + 1 + 1, 0, none⟩) (by simp only; omega) (.int .i64 d0)) (p := ⟨w.heap.size + 1 + 1, 1, none⟩) (by simp only; omega) (.int .i64 d1)) (p := ⟨w.heap.size + 1 + 1, 2, none⟩) (by simp only; omega) (.int .i64 d2))
      have T9 := bx_drew (bx_set (bx_set (bx_set (bx_far (bx_far (bx_far bT (p := ⟨w.heap.size + 1, 0, none⟩) (by simp only; omega) (.int .i64 a0)) (p := ⟨w.heap.size + 1, 1, none⟩) (by simp only; omega) (.int .i64 a1)) (p := ⟨w.heap.size + 1, 2, none⟩) (by simp only; omega) (.int .i64 a2)) 0 (.int .i64 d0)) 1 (.int .i64 d1)) 2 (.int .i64 d2))
      have U9 := up_drew (up_set (up_set (up_set (up_set (up_set (up_set hu (p := ⟨w.heap.size + 1, 0, none⟩) (by simp only; omega) (.int .i64 a0)) (p := ⟨w.heap.size + 1, 1, none⟩) (by simp only; omega) (.int .i64 a1)) (p := ⟨w.heap.size + 1, 2, none⟩) (by simp only; omega) (.int .i64 a2)) (p := ⟨w.heap.size + 1 + 1, 0, none⟩) (by simp only; omega) (.int .i64 d0)) (p := ⟨w.heap.size + 1 + 1, 1, none⟩) (by simp only; omega) (.int .i64 d1)) (p := ⟨w.heap.size + 1 + 1, 2, none⟩) (by simp only; omega) (.int .i64 d2))
      clear bR bT hu
      generalize ((((((wr.setCell ⟨w.heap.size + 1, 0, none⟩ (.int .i64 a0)).setCell ⟨w.heap.size + 1, 1, none⟩ (.int .i64 a1)).setCell ⟨w.heap.size + 1, 2, none⟩ (.int .i64 a2)).setCell ⟨w.heap.size + 1 + 1, 0, none⟩ (.int .i64 d0)).setCell ⟨w.heap.size + 1 + 1, 1, none⟩ (.int .i64 d1)).setCell ⟨w.heap.size + 1 + 1, 2, none⟩ (.int .i64 d2)).drew = W9 at R9 T9 U9 ⊢
      have q0 := (R9 0 _ rfl).1
      have q1 := (R9 1 _ rfl).1
      have q2 := (R9 2 _ rfl).1
      have q3 := (T9 0 _ rfl).1
      have q4 := (T9 1 _ rfl).1
      have q5 := (T9 2 _ rfl).1
      go_wp2_with fail
      refine bodyPost_ret (v := .tuple #[.agg #[.int .i64 a0, .int .i64 a1, .int .i64 a2], .agg #[.int .i64 d0, .int .i64 d1, .int .i64 d2], .int .i64 0]) (by simp [results, Tryz.f18, go_sem, q0, q1, q2, q3, q4, q5]) rfl ?_
      exact ⟨by rw [unhide HA0, unhide HA1, unhide HA2, unhide HD0, unhide HD1, unhide HD2], U9⟩
end Go.Proofs.YtdehnokcjnbjoaaGreat
