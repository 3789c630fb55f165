/- A load of boxes, copied. A load of boxes that is checked, and returned. Pieces as cells that are copied. load.Outline and load.Above. load.outline. The corners of a piece, as the program yields them. The document's outlines of loads: the functions. The document's outlines of loads. The document's mass and Check of a load. The document's hull of loads: the whole function. The document's hull of loads: from corner to corner. -/
import Derived.Test.YtdehnokcjnbjoaaGreatPkOwnN
import Derived.Test.YtdehnokcjnbjoaaGreatLdF
import Derived.Test.YtdehnokcjnbjoaaGreatChkL
import Derived.Test.YtdehnokcjnbjoaaGreatPkLdM
import Derived.RangeFuncKeeps
import Derived.Shelf.Abstract
import Derived.OwnWalkIn
import Derived.TacticsInMore
import Derived.LoopNIn
import Derived.LoopIn
import Derived.Test.YtdehnokcjnbjoaaGreatCargo
import Derived.Test.YtdehnokcjnbjoaaGreatPkLdE
namespace Go.Proofs.YtdehnokcjnbjoaaGreat
open Go.RowKit Go.Proofs.Gn
attribute [local go_sem] Oper.semAt_some
set_option linter.unusedVariables false
def ltG (ax ay bx b_y : Int) : Bool := decide (ax < bx) || (decide (ax = bx) && decide (ay < b_y))
theorem r_beforeG (ax ay bx b_y : Int) (w : World) : Calls Tryz.prog 100 #[pt ax ay, pt bx b_y] w fun e w' => e = .returned (.bool (ltG ax ay bx b_y)) ∧ Up w w' := by
  unfold ltG
  by_cases h1 : ax < bx
  · have d1 : decide (ax < bx) = true := decide_eq_true h1
    rw [d1]
    go_enter Tryz.func100, Tryz.ntmps100
    go_wp2_with fail
    go_ret
    exact ⟨rfl, (by repeat' (first | (with_reducible exact up_refl _) | (with_reducible assumption) | (with_reducible refine up_alloc ?_ _) | (with_reducible refine up_drewN ?_ _) | (with_reducible refine up_drew ?_) | (with_reducible refine up_set ?_ (by first | (simp; done) | (simp; omega) | omega) _) | (refine up_trans ?_ (by with_reducible assumption))))⟩
  · have d1 : decide (ax < bx) = false := decide_eq_false h1
    rw [d1]
    by_cases h2 : ax = bx
    · subst h2
      have d2 : (ax == ax) = true := by simp
      simp only [decide_true, Bool.true_and, Bool.false_or]
      go_enter Tryz.func100, Tryz.ntmps100
      go_wp2_with fail
      go_ret
      exact ⟨rfl, (by repeat' (first | (with_reducible exact up_refl _) | (with_reducible assumption) | (with_reducible refine up_alloc ?_ _) | (with_reducible refine up_drewN ?_ _) | (with_reducible refine up_drew ?_) | (with_reducible refine up_set ?_ (by first | (simp; done) | (simp; omega) | omega) _) | (refine up_trans ?_ (by with_reducible assumption))))⟩
    · have d2 : (ax == bx) = false := beq_false_of_ne h2
      rw [decide_eq_false h2]
      go_enter Tryz.func100, Tryz.ntmps100
      go_wp2_with fail
      go_ret
      exact ⟨rfl, (by repeat' (first | (with_reducible exact up_refl _) | (with_reducible assumption) | (with_reducible refine up_alloc ?_ _) | (with_reducible refine up_drewN ?_ _) | (with_reducible refine up_drew ?_) | (with_reducible refine up_set ?_ (by first | (simp; done) | (simp; omega) | omega) _) | (refine up_trans ?_ (by with_reducible assumption))))⟩
theorem r_crossG {ax ay bx b_y cx cy : Int} (ha : Nr 262144 (ax, ay)) (hb : Nr 262144 (bx, b_y)) (hc : Nr 262144 (cx, cy)) (w : World) :
    Calls Tryz.prog 101 #[pt ax ay, pt bx b_y, pt cx cy] w fun e w' => e = .returned (.int .i64 (Gx.dt (ax, ay) (bx, b_y) (cx, cy))) ∧ Up w w' := by
  unfold Nr at ha hb hc
  dsimp only at ha hb hc
  have m1 := mul_nr (x := bx - ax) (y := cy - ay) (A := 524288) (B := 524288) (by omega) (by omega) (by omega)
  have m2 := mul_nr (x := b_y - ay) (y := cx - ax) (A := 524288) (B := 524288) (by omega) (by omega) (by omega)
  have w1 : IntKind.i64.wrap (bx - ax) = bx - ax := i64_small (by omega)
  have w2 : IntKind.i64.wrap (cy - ay) = cy - ay := i64_small (by omega)
  have w3 : IntKind.i64.wrap (b_y - ay) = b_y - ay := i64_small (by omega)
  have w4 : IntKind.i64.wrap (cx - ax) = cx - ax := i64_small (by omega)
  have w5 : IntKind.i64.wrap ((bx - ax) * (cy - ay)) = (bx - ax) * (cy - ay) := IntWalk.i64_in _ ⟨by omega, by omega⟩
  have w6 : IntKind.i64.wrap ((b_y - ay) * (cx - ax)) = (b_y - ay) * (cx - ax) := IntWalk.i64_in _ ⟨by omega, by omega⟩
  have w7 : IntKind.i64.wrap ((bx - ax) * (cy - ay) - (b_y - ay) * (cx - ax)) = (bx - ax) * (cy - ay) - (b_y - ay) * (cx - ax) := IntWalk.i64_in _ ⟨by omega, by omega⟩
  show Calls Tryz.prog 101 #[pt ax ay, pt bx b_y, pt cx cy] w fun e w' => e = .returned (.int .i64 ((bx - ax) * (cy - ay) - (b_y - ay) * (cx - ax))) ∧ Up w w'
  clear ha hb hc m1 m2
  go_enter Tryz.func101, Tryz.ntmps101
  go_wp2_with fail
  go_ret
  exact ⟨rfl, (by repeat' (first | (with_reducible exact up_refl _) | (with_reducible assumption) | (with_reducible refine up_alloc ?_ _) | (with_reducible refine up_drewN ?_ _) | (with_reducible refine up_drew ?_) | (with_reducible refine up_set ?_ (by first | (simp; done) | (simp; omega) | omega) _) | (refine up_trans ?_ (by with_reducible assumption))))⟩
theorem r_farG {ax ay bx b_y : Int} (ha : Nr 262144 (ax, ay)) (hb : Nr 262144 (bx, b_y)) (w : World) :
    Calls Tryz.prog 102 #[pt ax ay, pt bx b_y] w fun e w' => e = .returned (.int .i64 (Gx.fr2 (ax, ay) (bx, b_y))) ∧ Up w w' := by
  unfold Nr at ha hb
  dsimp only at ha hb
  have m1 := mul_nr (x := ax - bx) (y := ax - bx) (A := 524288) (B := 524288) (by omega) (by omega) (by omega)
  have m2 := mul_nr (x := ay - b_y) (y := ay - b_y) (A := 524288) (B := 524288) (by omega) (by omega) (by omega)
  have w1 : IntKind.i64.wrap (ax - bx) = ax - bx := i64_small (by omega)
  have w2 : IntKind.i64.wrap (ay - b_y) = ay - b_y := i64_small (by omega)
  have w5 : IntKind.i64.wrap ((ax - bx) * (ax - bx)) = (ax - bx) * (ax - bx) := IntWalk.i64_in _ ⟨by omega, by omega⟩
  have w6 : IntKind.i64.wrap ((ay - b_y) * (ay - b_y)) = (ay - b_y) * (ay - b_y) := IntWalk.i64_in _ ⟨by omega, by omega⟩
  have w7 : IntKind.i64.wrap ((ax - bx) * (ax - bx) + (ay - b_y) * (ay - b_y)) = (ax - bx) * (ax - bx) + (ay - b_y) * (ay - b_y) := IntWalk.i64_in _ ⟨by omega, by omega⟩
  show Calls Tryz.prog 102 #[pt ax ay, pt bx b_y] w fun e w' => e = .returned (.int .i64 ((ax - bx) * (ax - bx) + (ay - b_y) * (ay - b_y))) ∧ Up w w'
  clear ha hb m1 m2
  go_enter Tryz.func102, Tryz.ntmps102
  go_wp2_with fail
  go_ret
  exact ⟨rfl, (by repeat' (first | (with_reducible exact up_refl _) | (with_reducible assumption) | (with_reducible refine up_alloc ?_ _) | (with_reducible refine up_drewN ?_ _) | (with_reducible refine up_drew ?_) | (with_reducible refine up_set ?_ (by first | (simp; done) | (simp; omega) | omega) _) | (refine up_trans ?_ (by with_reducible assumption))))⟩
/-- The hull of a list, none of none. -/
def hlL (ps : Pl) : Pl := if ps = [] then [] else Gx.hullF ps
theorem take_foldl {α β : Type} (f : β → α → β) (b : β) {l : List α} {k : Nat} (h : k < l.length) : (l.take (k + 1)).foldl f b = f ((l.take k).foldl f b) l[k] := by
  rw [List.take_succ_eq_append_getElem h, List.foldl_append]; rfl
theorem foldl_nr (S : Int × Int → Int × Int → Int × Int) (hS : ∀ n p, S n p = p ∨ S n p = n) {ps : Pl} (hb : ∀ p ∈ ps, Nr 262144 p) {b : Int × Int} (h0 : Nr 262144 b) (k : Nat) : Nr 262144 ((ps.take k).foldl S b) := by
  have : ∀ (l : Pl) (n : Int × Int), (∀ p ∈ l, Nr 262144 p) → Nr 262144 n → Nr 262144 (l.foldl S n) := by
    intro l
    induction l with
    | nil => intro n _ h; exact h
    | cons p l ih =>
      intro n hl hn
      rw [List.foldl_cons]
      refine ih _ (fun q hq => hl q (by simp [hq])) ?_
      rcases hS n p with e | e
      · rw [e]; exact hl p (by simp)
      · rw [e]; exact hn
  exact this _ _ (fun p hp => hb p (List.mem_of_mem_take hp)) h0
theorem cellsPl_snocG (l : Pl) (x y : Int) : cellsPl (l ++ [(x, y)]) = cellsPl l ++ [.int .i64 x, .int .i64 y] := by simp [cellsPl]
end Go.Proofs.YtdehnokcjnbjoaaGreat
namespace Go.Proofs.YtdehnokcjnbjoaaGreat
open Go.RowKit Go.Proofs.Gn
attribute [local go_sem] Oper.semAt_some
set_option linter.unusedVariables false
theorem ownLow {W : World} {base base' e size n : Nat} {v : Value} {xs : List Value} (h : W.ownsRow base e size v n xs) (hb : base' ≤ base) : W.ownsRow base' e size v n xs := ⟨h.1, h.2.imp id (fun ⟨g, cap, cur, h1, h2, h3⟩ => ⟨g, cap, cur, h1, Nat.le_trans hb h2, h3⟩)⟩
set_option maxRecDepth 100000 in
set_option maxHeartbeats 16000000 in
theorem r_HullG (A : Option Addr) (ps : Pl) (cap : Nat) (w : World) (h : Pts w A ps) (hn : ps.length ≤ 1000) (hb : ∀ p ∈ ps, Nr 262144 p) (hHn : (Gx.hullF ps).length ≤ 2000) :
    Calls Tryz.prog 48 #[.slice A ps.length cap] w fun e w' => (∃ v, e = .returned v ∧ w'.ownsRow w.heap.size 55 2 v (hlL ps).length (cellsPl (hlL ps))) ∧ Up w w' := by
  by_cases hne : ps = []
  · subst hne
    go_enter Tryz.func48, Tryz.ntmps48
    go_wp2_with fail
    go_ret
    exact ⟨⟨_, rfl, World.ownsRow_nil _ _ _ _⟩, (by repeat' (first | (with_reducible exact up_refl _) | (with_reducible assumption) | (with_reducible refine up_alloc ?_ _) | (with_reducible refine up_drewN ?_ _) | (with_reducible refine up_drew ?_) | (with_reducible refine up_set ?_ (by first | (simp; done) | (simp; omega) | omega) _) | (refine up_trans ?_ (by with_reducible assumption))))⟩
  obtain ⟨b, off, rfl, hc⟩ := h.resolve_left hne
  have hlL0 : hlL ps = Gx.hullF ps := if_neg hne
  rw [hlL0]
  obtain ⟨P, hsc, hin⟩ := Gx.hullF_poly hne
  have HNext := hide (fun i (hi : i < (Gx.hullF ps).length) => Gx.gw_next hne hi)
  have HNr := hide (fun i (hi : i < (Gx.hullF ps).length) => hb _ (hin _ (Gx.g_mem hi)))
  have HCn := hide (fun i j (h1 : i < j) (h2 : j < (Gx.hullF ps).length) => Gx.corners_ne P.toIsH h1 h2)
  have HTk := hide (fun i (hi : i < (Gx.hullF ps).length) => (show (Gx.hullF ps).take (i + 1) = (Gx.hullF ps).take i ++ [((Gx.g (Gx.hullF ps) i).1, (Gx.g (Gx.hullF ps) i).2)] by rw [List.take_succ_eq_append_getElem hi, ← Gx.g_eq hi]))
  have hpos : 0 < (Gx.hullF ps).length := List.length_pos_iff.2 P.ne
  have hH0 : ps.foldl Gx.lsS (Gx.g ps 0) = Gx.g (Gx.hullF ps) 0 := by
    cases ps with
    | nil => exact absurd rfl hne
    | cons p l => exact Gx.ls_first
  generalize hH : Gx.hullF ps = H at *
  have HC := hide (fun W (hW : Up w W) k (hk : k < ps.length) => (⟨up_cell hW (hc k hk).1, up_cell hW (hc k hk).2⟩ : W.cell? ⟨b, off + k * 2, none⟩ = some (.int .i64 ps[k].1) ∧ W.cell? ⟨b, off + k * 2 + 1, none⟩ = some (.int .i64 ps[k].2)))
  have HB := hide (fun k (hk : k < ps.length) => hb _ (List.getElem_mem hk))
  have hp0 : 0 < ps.length := List.length_pos_iff.2 hne
  obtain ⟨a, ha⟩ : ∃ a, Gx.g ps 0 = a := ⟨_, rfl⟩
  have ha0 : ps[0] = a := by rw [← ha, Gx.g_eq hp0]
  have HaN := hide (by rw [← ha0]; exact hb _ (List.getElem_mem hp0) : Nr 262144 a)
  have HL1 := hide (fun k (hk : k < ps.length) => take_foldl Gx.lsS a hk)
  have HLs := hide (show (ps.take ps.length).foldl Gx.lsS a = Gx.g H 0 by rw [List.take_length, ← ha]; exact hH0)
  have HG1 := hide (fun c k (hk : k < ps.length) => take_foldl (Gx.gwS c) c hk)
  have HGe := hide (fun c => (show (ps.take ps.length).foldl (Gx.gwS c) c = Gx.gwF c ps by rw [List.take_length]; rfl))
  have HGn := hide (fun c (hc : Nr 262144 c) k => foldl_nr (Gx.gwS c) (fun n p => Gx.gwS_mem) hb hc k)
  have H00 := hide (show (ps.take 0).foldl Gx.lsS a = a from rfl)
  have HG0 := hide (fun c : Int × Int => (show (ps.take 0).foldl (Gx.gwS c) c = c from rfl))
  obtain ⟨k0, k1⟩ := hc 0 hp0
  rw [ha0, Nat.zero_mul, Nat.add_zero] at k0 k1
  obtain ⟨n, hnn⟩ : ∃ n, ps.length = n := ⟨_, rfl⟩
  have HNN := hide hnn
  rw [hnn] at hn hp0 HLs HGe ⊢
  obtain ⟨i0', hi, hz0, hz1, hz2⟩ := info_parts info_pt
  have HI := hide hi
  have n0 : ¬ (n : Int) = 0 := by omega
  have n1 : ((n : Int) == 0) = false := by simp; omega
  have n2 : (0 : Int) < (n : Int) := by omega
  clear hc hb hnn ha ha0 hne hlL0 P hsc hin h hH hH0 hi
  go_enter Tryz.func48, Tryz.ntmps48
  go_upto_region 4 with fail
  refine at_wpC (fun W1 hW1 => ?_)
  have U1 : Up w W1 := by rw [hW1]; exact (by repeat' (first | (with_reducible exact up_refl _) | (with_reducible assumption) | (with_reducible refine up_alloc ?_ _) | (with_reducible refine up_drewN ?_ _) | (with_reducible refine up_drew ?_) | (with_reducible refine up_set ?_ (by first | (simp; done) | (simp; omega) | omega) _) | (refine up_trans ?_ (by with_reducible assumption))))
  have b3 : Bx W1 w.heap.size [.int .i64 a.1, .int .i64 a.2] := by rw [hW1]; exact bx_new w _ _
  clear hW1 k0 k1 n0 n1 n2
  obtain ⟨g3, hg⟩ : ∃ g, w.heap.size = g := ⟨_, rfl⟩
  rw [hg] at b3 ⊢
  have Hg3 := hide hg
  clear hg
  go_upto_region 5 with fail
  go_loopw [4] (fun s4 wr => ∃ k : Nat, k ≤ n ∧ s4 = .int .i64 k ∧ Bx wr g3 [.int .i64 ((ps.take k).foldl Gx.lsS a).1, .int .i64 ((ps.take k).foldl Gx.lsS a).2] ∧ Up w wr) (fun s4 _ => n - (intOf s4).toNat)
  case atStart => exact ⟨0, by omega, rfl, by rw [unhide H00]; exact b3, U1⟩
  case round =>
    clear b3 U1
    obtain ⟨k, hk, rfl, b3, hu⟩ := hrel
    by_cases hlt : k < n
    · have hl : k < ps.length := by rw [unhide HNN]; exact hlt
      have hst := unhide HL1 k hl
      obtain ⟨q0, q1⟩ := unhide HC wr hu k hl
      generalize (ps.take k).foldl Gx.lsS a = c at *
      generalize ps[k] = p at *
      have i0 : (0 : Int) ≤ (k : Int) := by omega
      have i1 : (k : Int) < (n : Int) := by omega
      have i3 : (k : Int).toNat = k := by omega
      have hwk : IntKind.i64.wrap ((k : Int) + 1) = (k : Int) + 1 := IntWalk.i64_in _ ⟨by omega, by omega⟩
      have Q0 : ∀ r : UpW wr, r.v.cell? ⟨b, off + k * 2, none⟩ = some (.int .i64 p.1) := fun r => up_cell r.up q0
      have Q1 : ∀ r : UpW wr, r.v.cell? ⟨b, off + k * 2 + 1, none⟩ = some (.int .i64 p.2) := fun r => up_cell r.up q1
      have Q2 : ∀ r : UpW wr, r.v.cell? ⟨g3, 0, none⟩ = some (.int .i64 c.1) := fun r => (bx_up b3 r.up 0 _ rfl).1
      have Q3 : ∀ r : UpW wr, r.v.cell? ⟨g3, 1, none⟩ = some (.int .i64 c.2) := fun r => (bx_up b3 r.up 1 _ rfl).1
      have HBe := hide (fun W => r_beforeG p.1 p.2 c.1 c.2 W)
      have hlsS : ∀ T : Bool, ltG p.1 p.2 c.1 c.2 = T → Gx.lsS c p = if T then p else c := fun T hT => by
        unfold Gx.lsS
        unfold ltG at hT
        cases T
        · rw [if_neg]
          · rfl
          · intro hh
            have : (decide (p.1 < c.1) || (decide (p.1 = c.1) && decide (p.2 < c.2))) = true := by simpa using hh
            rw [this] at hT; cases hT
        · rw [if_pos]
          · rfl
          · simpa using hT
      have HLS := hide hlsS
      obtain ⟨T, hT⟩ : ∃ T, ltG p.1 p.2 c.1 c.2 = T := ⟨_, rfl⟩
      have hls := hlsS T hT
      rw [hT] at HBe
      rw [hls] at hst
      clear hlsS hls hT HLS
      go_upto_region 7 with fail
      refine wp_upq (by kernel_rfl) (by kernel_rfl) ?_; (repeat (go_big_quiet_step ((go_at_call 100; exact upq (unhide HBe _))))); refine wpQuiet_nil ?_; intro _ hw'; obtain ⟨pq, hw''⟩ := hw'; subst hw''; have hpq := pq.up
      generalize pq.v = W3 at hpq ⊢
      have b33 := bx_up b3 hpq
      have U3 := up_trans hu hpq
      have q0' := up_cell hpq q0
      have q1' := up_cell hpq q1
      clear b3 hu hpq q0 q1 Q0 Q1 Q2 Q3
      cases T
      · go_wp2_with fail
        go_roundw
        case rel => exact ⟨k + 1, by omega, by go_num, by rw [hst]; exact b33, U3⟩
        case measure => simp [intOf]; omega
      · obtain ⟨⟨f0, f1⟩, f2⟩ : (W3.frozen? ⟨g3, 0, none⟩ = false ∧ W3.frozen? ⟨g3, 1, none⟩ = false) ∧ True := ⟨⟨(b33 0 _ rfl).2, (b33 1 _ rfl).2⟩, trivial⟩
        obtain ⟨y0, y1⟩ := bx2 b33
        go_wp2_with fail
        have B9 := bx_set (bx_set b33 0 (.int .i64 p.1)) 1 (.int .i64 p.2)
        have U9 := up_set (up_set U3 (p := ⟨g3, 0, none⟩) (by simp only; rw [← unhide Hg3]; exact Nat.le_refl _) (.int .i64 p.1)) (p := ⟨g3, 1, none⟩) (by simp only; rw [← unhide Hg3]; exact Nat.le_refl _) (.int .i64 p.2)
        go_roundw
        case rel => exact ⟨k + 1, by omega, by go_num, by rw [hst]; exact B9, U9⟩
        case measure => simp [intOf]; omega
    · obtain rfl : k = n := by omega
      rw [unhide HLs] at b3
      have i1 : ¬ (k : Int) < (k : Int) := by omega
      obtain ⟨y0, y1⟩ := bx2 b3
      clear H00 HL1 HaN
      go_upto_region 11 with fail
      refine at_wpC (fun W4 hW4 => ?_)
      have v4u : Up wr W4 := by rw [hW4]; exact (by repeat' (first | (with_reducible exact up_refl _) | (with_reducible assumption) | (with_reducible refine up_alloc ?_ _) | (with_reducible refine up_drewN ?_ _) | (with_reducible refine up_drew ?_) | (with_reducible refine up_set ?_ (by first | (simp; done) | (simp; omega) | omega) _) | (refine up_trans ?_ (by with_reducible assumption))))
      have b6 : Bx W4 wr.heap.size [.int .i64 (Gx.g H 0).1, .int .i64 (Gx.g H 0).2] := by rw [hW4]; exact bx_new wr _ _
      have b34 := bx_up b3 v4u
      have U4 := up_trans hu v4u
      have hg63 : g3 < wr.heap.size := bx_lt b3 (by simp)
      obtain ⟨g6, hg⟩ : ∃ g, wr.heap.size = g := ⟨_, rfl⟩
      rw [hg] at b6 hg63 ⊢
      have hg3w : w.heap.size = g3 := unhide Hg3
      clear hW4 hg v4u b3 hu y0 y1 i1
      obtain ⟨base, hbs⟩ : ∃ z, W4.heap.size = z := ⟨_, rfl⟩
      have hb6 : g6 < base := by rw [← hbs]; exact bx_lt b6 (by simp)
      have ow0 : W4.ownsRow base 55 2 (.slice none 0 0) 0 (cellsPl (H.take 0)) := World.ownsRow_nil _ _ _ _
      have HBase := hide (Nat.le_of_eq hbs.symm : base ≤ W4.heap.size)
      clear hbs
      go_loopw [5] (fun s5 wx => ∃ (i : Nat) (B : Option Addr) (c : Nat), i < H.length ∧ s5 = .slice B i c ∧ wx.ownsRow base 55 2 s5 i (cellsPl (H.take i)) ∧ Bx wx g6 [.int .i64 (Gx.g H i).1, .int .i64 (Gx.g H i).2] ∧ Bx wx g3 [.int .i64 (Gx.g H 0).1, .int .i64 (Gx.g H 0).2] ∧ base ≤ wx.heap.size ∧ Up w wx) (fun s5 _ => H.length - slLn s5)
      case atStart => exact ⟨0, none, 0, hpos, rfl, ow0, b6, b34, unhide HBase, U4⟩
      case round =>
        clear ow0 b6 b34 U4 HBase
        obtain ⟨i, B, cB, hiH, rfl, ow, b6, b3, hbw, hu⟩ := hrel
        have hnx := unhide HNext i hiH
        have hcN := unhide HNr i hiH
        have htk := unhide HTk i hiH
        have HC6 := hide (fun hh : i + 1 < H.length => unhide HCn 0 (i + 1) (by omega) hh)
        have hgc : Gx.gc H (i + 1) = if i + 1 < H.length then Gx.g H (i + 1) else Gx.g H 0 := by
          unfold Gx.gc
          by_cases e : i + 1 < H.length
          · rw [if_pos e, Nat.mod_eq_of_lt e]
          · rw [if_neg e, show i + 1 = H.length by omega, Nat.mod_self]
        rw [hgc] at hnx
        clear hgc
        obtain ⟨at6, hat⟩ : ∃ c, Gx.g H i = c := ⟨_, rfl⟩
        obtain ⟨fs, hfs⟩ : ∃ c, Gx.g H 0 = c := ⟨_, rfl⟩
        rw [hat] at b6 hnx hcN htk
        rw [hfs] at b3 hnx
        have HAt := hide hat
        have HFs := hide hfs
        have hwb : w.heap.size < base := by omega
        obtain ⟨y0, y1⟩ := bx2 b6
        have OW := hide ow
        have hown6 : (Value.slice B i cB).ownBlock ≠ some g6 := fun e => by have := (ow.lt g6 e).1; omega
        have hown3 : (Value.slice B i cB).ownBlock ≠ some g3 := fun e => by have := (ow.lt g3 e).1; omega
        have hlo : ∀ j, (Value.slice B i cB).ownBlock = some j → w.heap.size ≤ j := fun j e => by have := (ow.lt j e).1; omega
        clear ow hat hfs
        go_upto_region 12 with (at_builtin; refine wpList_append_own_at _ rfl _ _ 37 rfl base 55 i0' _ 2 16 Tryz.underlying37 (unhide HI) hz0 hz1 hz2 rfl (by decide) (.slice B i cB) i (cellsPl (H.take i)) rfl ((unhide OW).alloc _) ⟨wr.heap.size, 0, none⟩ 1 1 [.int .i64 at6.1, .int .i64 at6.2] rfl rfl (news_pt _ _ _) (by intro u hu; simp at hu; rcases hu with rfl | rfl <;> rfl) (by unfold maxLen; omega) (by omega) (by simp; omega) ?_; intro v5 W5 hown hgr _ hat)
        have ow5 : W5.ownsRow base 55 2 v5 (i + 1) (cellsPl (H.take (i + 1))) := by rw [htk, cellsPl_snocG]; exact hown
        have b65 := bx_grownC (bx_up b6 (up_alloc (up_refl _) _)) hgr (fun e => hown6 e)
        have b35 := bx_grownC (bx_up b3 (up_alloc (up_refl _) _)) hgr (fun e => hown3 e)
        have U5 : Up w W5 := (up_alloc hu _).grown hgr (up_alloc hu _).size hlo
        obtain ⟨B5, c5, rfl⟩ : ∃ B5 c5, v5 = .slice B5 (i + 1) c5 := by
          rcases ow5.2 with ⟨_, h2⟩ | ⟨g', c', cur, h1, _⟩
          · omega
          · exact ⟨_, _, h1⟩
        have hb5 : base ≤ W5.heap.size := by
          have := bx_lt b65 (by simp)
          rcases ow5.2 with ⟨_, h2⟩ | ⟨g', c', cur, h1, h2, _⟩
          · omega
          · have := (ow5.lt g' (by rw [h1]; rfl)).2; omega
        have hn5 : ∀ q, (Value.slice B5 (i + 1) c5).ownBlock = some q → q < W5.heap.size := fun q e => (ow5.lt q e).2
        have OW5 := hide ow5
        clear hown hgr hat b6 b3 hu OW y0 y1 hown6 hown3 hlo htk ow5 hbw
        obtain ⟨y0, y1⟩ := bx2 b65
        go_upto_region 13 with fail
        refine at_wpC (fun W6 hW6 => ?_)
        have v56u : Up W5 W6 := by rw [hW6]; exact (by repeat' (first | (with_reducible exact up_refl _) | (with_reducible assumption) | (with_reducible refine up_alloc ?_ _) | (with_reducible refine up_drewN ?_ _) | (with_reducible refine up_drew ?_) | (with_reducible refine up_set ?_ (by first | (simp; done) | (simp; omega) | omega) _) | (refine up_trans ?_ (by with_reducible assumption))))
        have b7 : Bx W6 W5.heap.size [.int .i64 at6.1, .int .i64 at6.2] := by rw [hW6]; exact bx_new W5 _ _
        clear hW6 y0 y1
        obtain ⟨g7, hg⟩ : ∃ g, W5.heap.size = g := ⟨_, rfl⟩
        have Hg7 := hide hg
        rw [hg] at b7 ⊢
        clear hg
        go_upto_region 14 with fail
        go_loopw [8] (fun s8 wz => ∃ j : Nat, j ≤ k ∧ s8 = .int .i64 j ∧ Bx wz g7 [.int .i64 ((ps.take j).foldl (Gx.gwS at6) at6).1, .int .i64 ((ps.take j).foldl (Gx.gwS at6) at6).2] ∧ Up W5 wz) (fun s8 _ => k - (intOf s8).toNat)
        case atStart => exact ⟨0, by omega, rfl, by rw [unhide HG0]; exact b7, v56u⟩
        case round =>
          clear b7 v56u
          obtain ⟨j, hj, rfl, b7, hu⟩ := hrel
          by_cases hlt : j < k
          · have hl : j < ps.length := by rw [unhide HNN]; exact hlt
            have hst := unhide HG1 at6 j hl
            obtain ⟨q0, q1⟩ := unhide HC wr (up_trans U5 hu) j hl
            have hpN := unhide HB j hl
            have hmN := unhide HGn at6 hcN j
            generalize (ps.take j).foldl (Gx.gwS at6) at6 = m at *
            generalize ps[j] = p at *
            obtain ⟨p1, p2⟩ := p
            obtain ⟨m1, m2⟩ := m
            obtain ⟨a1, a2⟩ := at6
            dsimp only at b7 b65 q0 q1
            have HX := hide (fun W => r_crossG hcN hmN hpN W)
            have HFp := hide (fun W => r_farG hcN hpN W)
            have HFm := hide (fun W => r_farG hcN hmN W)
            obtain ⟨T, hT⟩ : ∃ T, Gx.dt (a1, a2) (m1, m2) (p1, p2) = T := ⟨_, rfl⟩
            obtain ⟨D1, hD1⟩ : ∃ T, Gx.fr2 (a1, a2) (p1, p2) = T := ⟨_, rfl⟩
            obtain ⟨D2, hD2⟩ : ∃ T, Gx.fr2 (a1, a2) (m1, m2) = T := ⟨_, rfl⟩
            rw [hT] at HX
            rw [hD1] at HFp
            rw [hD2] at HFm
            obtain ⟨TT, hTT, hSS⟩ : ∃ TT : Bool, (TT = true ↔ ((m1, m2) = (a1, a2) ∨ T < 0 ∨ (T = 0 ∧ D2 < D1))) ∧ Gx.gwS (a1, a2) (m1, m2) (p1, p2) = if TT then (p1, p2) else (m1, m2) := by
              by_cases hh : ((m1, m2) = (a1, a2) ∨ T < 0 ∨ (T = 0 ∧ D2 < D1))
              · exact ⟨true, ⟨fun _ => hh, fun _ => rfl⟩, by unfold Gx.gwS; rw [hT, hD1, hD2, if_pos hh, if_pos rfl]⟩
              · exact ⟨false, ⟨fun e => (by cases e), fun e => absurd e hh⟩, by unfold Gx.gwS; rw [hT, hD1, hD2, if_neg hh, if_neg (by simp)]⟩
            rw [hSS] at hst
            have HST := hide hst
            have HTT := hide hTT
            clear hT hD1 hD2 hSS hst hTT hpN hmN
            have i0 : (0 : Int) ≤ (j : Int) := by omega
            have i1 : (j : Int) < (k : Int) := by omega
            have i3 : (j : Int).toNat = j := by omega
            have hwk : IntKind.i64.wrap ((j : Int) + 1) = (j : Int) + 1 := IntWalk.i64_in _ ⟨by omega, by omega⟩
            have b66 := bx_up b65 hu
            have Q0 : ∀ r : UpW wr, r.v.cell? ⟨b, off + j * 2, none⟩ = some (.int .i64 p1) := fun r => up_cell r.up q0
            have Q1 : ∀ r : UpW wr, r.v.cell? ⟨b, off + j * 2 + 1, none⟩ = some (.int .i64 p2) := fun r => up_cell r.up q1
            have Q2 : ∀ r : UpW wr, r.v.cell? ⟨g6, 0, none⟩ = some (.int .i64 a1) := fun r => (bx_up b66 r.up 0 _ rfl).1
            have Q3 : ∀ r : UpW wr, r.v.cell? ⟨g6, 1, none⟩ = some (.int .i64 a2) := fun r => (bx_up b66 r.up 1 _ rfl).1
            have Q4 : ∀ r : UpW wr, r.v.cell? ⟨g7, 0, none⟩ = some (.int .i64 m1) := fun r => (bx_up b7 r.up 0 _ rfl).1
            have Q5 : ∀ r : UpW wr, r.v.cell? ⟨g7, 1, none⟩ = some (.int .i64 m2) := fun r => (bx_up b7 r.up 1 _ rfl).1
            go_upto_region 16 with fail
            refine wp_upq (by kernel_rfl) (by kernel_rfl) ?_; (repeat (go_big_quiet_step ((go_at_call 101; exact upq (unhide HX _))))); refine wpQuiet_nil ?_; intro _ hw'; obtain ⟨pq, hw''⟩ := hw'; subst hw''; have hpq := pq.up
            generalize pq.v = W7 at hpq ⊢
            have q07 := up_cell hpq q0
            have q17 := up_cell hpq q1
            have b67 := bx_up b66 hpq
            have b77 := bx_up b7 hpq
            have v57u := up_trans hu hpq
            clear Q0 Q1 Q2 Q3 Q4 Q5 q0 q1 b66 b7 hu hpq
            go_upto_region 17 with fail
            go_cut [73] (fun s wx => s = .bool TT ∧ Up W7 wx)
            case first => as_aux_lemma =>
              have Q0 : ∀ r : UpW W7, r.v.cell? ⟨b, off + j * 2, none⟩ = some (.int .i64 p1) := fun r => up_cell r.up q07
              have Q1 : ∀ r : UpW W7, r.v.cell? ⟨b, off + j * 2 + 1, none⟩ = some (.int .i64 p2) := fun r => up_cell r.up q17
              have Q2 : ∀ r : UpW W7, r.v.cell? ⟨g6, 0, none⟩ = some (.int .i64 a1) := fun r => (bx_up b67 r.up 0 _ rfl).1
              have Q3 : ∀ r : UpW W7, r.v.cell? ⟨g6, 1, none⟩ = some (.int .i64 a2) := fun r => (bx_up b67 r.up 1 _ rfl).1
              have Q4 : ∀ r : UpW W7, r.v.cell? ⟨g7, 0, none⟩ = some (.int .i64 m1) := fun r => (bx_up b77 r.up 0 _ rfl).1
              have Q5 : ∀ r : UpW W7, r.v.cell? ⟨g7, 1, none⟩ = some (.int .i64 m2) := fun r => (bx_up b77 r.up 1 _ rfl).1
              have ht := unhide HTT
              by_cases e1 : m1 = a1
              · by_cases e2 : m2 = a2
                · subst e1 e2
                  obtain rfl : TT = true := ht.2 (.inl rfl)
                  have x1 : (m1 == m1) = true := by simp
                  have x2 : (m2 == m2) = true := by simp
                  clear ht
                  refine wp_upq (by kernel_rfl) (by kernel_rfl) ?_; (repeat (go_big_quiet_step (fail))); refine wpQuiet_nil ?_; intro _ hw'; obtain ⟨pq, hw''⟩ := hw'; subst hw''; have hpq := pq.up
                  go_wp2_with fail
                  go_meet
                  exact ⟨rfl, hpq⟩
                · subst e1
                  have x1 : (m1 == m1) = true := by simp
                  have x2 : (m2 == a2) = false := by simp [e2]
                  have hne : ¬ ((m1, m2) = (m1, a2)) := fun e => e2 (Prod.mk.inj e).2
                  simp only [hne, false_or] at ht
                  by_cases hT : T < 0
                  · obtain rfl : TT = true := ht.2 (.inl hT)
                    have d1 : decide (T < 0) = true := decide_eq_true hT
                    clear ht
                    refine wp_upq (by kernel_rfl) (by kernel_rfl) ?_; (repeat (go_big_quiet_step (fail))); refine wpQuiet_nil ?_; intro _ hw'; obtain ⟨pq, hw''⟩ := hw'; subst hw''; have hpq := pq.up
                    go_wp2_with fail
                    go_meet
                    exact ⟨rfl, hpq⟩
                  · have d1 : decide (T < 0) = false := decide_eq_false hT
                    by_cases hT0 : T = 0
                    · subst hT0
                      by_cases hD : D2 < D1
                      · obtain rfl : TT = true := ht.2 (.inr ⟨rfl, hD⟩)
                        have d2 : decide (D2 < D1) = true := decide_eq_true hD
                        clear ht
                        refine wp_upq (by kernel_rfl) (by kernel_rfl) ?_; (repeat (go_big_quiet_step ((first | (go_at_call 102; with_reducible exact upq (unhide HFp _)) | (go_at_call 102; with_reducible exact upq (unhide HFm _)))))); refine wpQuiet_nil ?_; intro _ hw'; obtain ⟨pq, hw''⟩ := hw'; subst hw''; have hpq := pq.up
                        go_wp2_with fail
                        go_meet
                        exact ⟨rfl, hpq⟩
                      · obtain rfl : TT = false := by
                          cases TT
                          · rfl
                          · rcases ht.1 rfl with q | ⟨_, q⟩
                            · exact absurd q hT
                            · exact absurd q hD
                        have d2 : decide (D2 < D1) = false := decide_eq_false hD
                        clear ht
                        refine wp_upq (by kernel_rfl) (by kernel_rfl) ?_; (repeat (go_big_quiet_step ((first | (go_at_call 102; with_reducible exact upq (unhide HFp _)) | (go_at_call 102; with_reducible exact upq (unhide HFm _)))))); refine wpQuiet_nil ?_; intro _ hw'; obtain ⟨pq, hw''⟩ := hw'; subst hw''; have hpq := pq.up
                        go_wp2_with fail
                        go_meet
                        exact ⟨rfl, hpq⟩
                    · obtain rfl : TT = false := by
                        cases TT
                        · rfl
                        · rcases ht.1 rfl with q | ⟨q, _⟩
                          · exact absurd q hT
                          · exact absurd q hT0
                      have d2 : (T == 0) = false := by simp [hT0]
                      clear ht
                      refine wp_upq (by kernel_rfl) (by kernel_rfl) ?_; (repeat (go_big_quiet_step (fail))); refine wpQuiet_nil ?_; intro _ hw'; obtain ⟨pq, hw''⟩ := hw'; subst hw''; have hpq := pq.up
                      go_wp2_with fail
                      go_meet
                      exact ⟨rfl, hpq⟩
              · have x1 : (m1 == a1) = false := by simp [e1]
                have hne : ¬ ((m1, m2) = (a1, a2)) := fun e => e1 (Prod.mk.inj e).1
                simp only [hne, false_or] at ht
                by_cases hT : T < 0
                · obtain rfl : TT = true := ht.2 (.inl hT)
                  have d1 : decide (T < 0) = true := decide_eq_true hT
                  clear ht
                  refine wp_upq (by kernel_rfl) (by kernel_rfl) ?_; (repeat (go_big_quiet_step (fail))); refine wpQuiet_nil ?_; intro _ hw'; obtain ⟨pq, hw''⟩ := hw'; subst hw''; have hpq := pq.up
                  go_wp2_with fail
                  go_meet
                  exact ⟨rfl, hpq⟩
                · have d1 : decide (T < 0) = false := decide_eq_false hT
                  by_cases hT0 : T = 0
                  · subst hT0
                    by_cases hD : D2 < D1
                    · obtain rfl : TT = true := ht.2 (.inr ⟨rfl, hD⟩)
                      have d2 : decide (D2 < D1) = true := decide_eq_true hD
                      clear ht
                      refine wp_upq (by kernel_rfl) (by kernel_rfl) ?_; (repeat (go_big_quiet_step ((first | (go_at_call 102; with_reducible exact upq (unhide HFp _)) | (go_at_call 102; with_reducible exact upq (unhide HFm _)))))); refine wpQuiet_nil ?_; intro _ hw'; obtain ⟨pq, hw''⟩ := hw'; subst hw''; have hpq := pq.up
                      go_wp2_with fail
                      go_meet
                      exact ⟨rfl, hpq⟩
                    · obtain rfl : TT = false := by
                        cases TT
                        · rfl
                        · rcases ht.1 rfl with q | ⟨_, q⟩
                          · exact absurd q hT
                          · exact absurd q hD
                      have d2 : decide (D2 < D1) = false := decide_eq_false hD
                      clear ht
                      refine wp_upq (by kernel_rfl) (by kernel_rfl) ?_; (repeat (go_big_quiet_step ((first | (go_at_call 102; with_reducible exact upq (unhide HFp _)) | (go_at_call 102; with_reducible exact upq (unhide HFm _)))))); refine wpQuiet_nil ?_; intro _ hw'; obtain ⟨pq, hw''⟩ := hw'; subst hw''; have hpq := pq.up
                      go_wp2_with fail
                      go_meet
                      exact ⟨rfl, hpq⟩
                  · obtain rfl : TT = false := by
                      cases TT
                      · rfl
                      · rcases ht.1 rfl with q | ⟨q, _⟩
                        · exact absurd q hT
                        · exact absurd q hT0
                    have d2 : (T == 0) = false := by simp [hT0]
                    clear ht
                    refine wp_upq (by kernel_rfl) (by kernel_rfl) ?_; (repeat (go_big_quiet_step (fail))); refine wpQuiet_nil ?_; intro _ hw'; obtain ⟨pq, hw''⟩ := hw'; subst hw''; have hpq := pq.up
                    go_wp2_with fail
                    go_meet
                    exact ⟨rfl, hpq⟩
            case rest =>
              obtain ⟨rfl, v7u⟩ := hcut
              obtain ⟨W8, rfl⟩ : ∃ z : World, z = wc := ⟨_, rfl⟩
              have q08 := up_cell v7u q07
              have q18 := up_cell v7u q17
              have b78 := bx_up b77 v7u
              have v58u := up_trans v57u v7u
              clear q07 q17 b67 b77 v57u v7u HX HFp HFm HTT
              have hst := unhide HST
              cases TT
              · have hst : (ps.take (j + 1)).foldl (Gx.gwS (a1, a2)) (a1, a2) = (m1, m2) := hst
                go_wp2_with fail
                go_roundw
                case rel => exact ⟨j + 1, by omega, by go_num, by rw [hst]; exact b78, v58u⟩
                case measure => simp [intOf]; omega
              · have hst : (ps.take (j + 1)).foldl (Gx.gwS (a1, a2)) (a1, a2) = (p1, p2) := hst
                have f0 := (b78 0 _ rfl).2
                have f1 := (b78 1 _ rfl).2
                obtain ⟨y0, y1⟩ := bx2 b78
                go_wp2_with fail
                have B9 := bx_set (bx_set b78 0 (.int .i64 p1)) 1 (.int .i64 p2)
                have U9 := up_set (up_set v58u (p := ⟨g7, 0, none⟩) (by simp only; rw [← unhide Hg7]; exact Nat.le_refl _) (.int .i64 p1)) (p := ⟨g7, 1, none⟩) (by simp only; rw [← unhide Hg7]; exact Nat.le_refl _) (.int .i64 p2)
                go_roundw
                case rel => exact ⟨j + 1, by omega, by go_num, by rw [hst]; exact B9, U9⟩
                case measure => simp [intOf]; omega
          · obtain rfl : j = k := by omega
            have i1 : ¬ (j : Int) < (j : Int) := by omega
            rw [unhide HGe at6, hnx] at b7
            have b66 := bx_up b65 hu
            have b36 := bx_up b35 hu
            have OW6 := hide (own_up (unhide OW5) hu)
            have U6 := up_trans U5 hu
            have hb6' : base ≤ wr.heap.size := by have := hu.size; omega
            have hn6 : ∀ q, (Value.slice B5 (i + 1) c5).ownBlock = some q → base ≤ q := fun q e => ((unhide OW5).lt q e).1
            clear b65 b35 OW5 U5 hu hn5 hb5 hnx
            have f0 := (b66 0 _ rfl).2
            have f1 := (b66 1 _ rfl).2
            obtain ⟨y0, y1⟩ := bx2 b66
            obtain ⟨z0, z1⟩ := bx2 b7
            by_cases hh : i + 1 < H.length
            · rw [if_pos hh] at b7 z0 z1
              have hcne := unhide HC6 hh
              have hfs := unhide HFs
              rw [hfs] at hcne
              obtain ⟨nx, hnx⟩ : ∃ c, Gx.g H (i + 1) = c := ⟨_, rfl⟩
              rw [hnx] at b7 hcne z0 z1
              have HNx := hide hnx
              obtain ⟨n1, n2⟩ := nx
              obtain ⟨s1, s2⟩ := fs
              dsimp only at b7 b36 z0 z1
              clear hnx hfs
              have B9 := bx_set (bx_set b66 0 (.int .i64 n1)) 1 (.int .i64 n2)
              have B39 := bx_far (bx_far b36 (p := ⟨g6, 0, none⟩) (by simp only; omega) (.int .i64 n1)) (p := ⟨g6, 1, none⟩) (by simp only; omega) (.int .i64 n2)
              have U9 := up_set (up_set U6 (p := ⟨g6, 0, none⟩) (by simp only; omega) (.int .i64 n1)) (p := ⟨g6, 1, none⟩) (by simp only; omega) (.int .i64 n2)
              have O9 := ownsRow_setCell_other (ownsRow_setCell_other (unhide OW6) (a := ⟨g6, 0, none⟩) (fun e => by have := hn6 g6 e; omega) (.int .i64 n1)) (a := ⟨g6, 1, none⟩) (fun e => by have := hn6 g6 e; omega) (.int .i64 n2)
              have s9 : base ≤ ((wr.setCell ⟨g6, 0, none⟩ (.int .i64 n1)).setCell ⟨g6, 1, none⟩ (.int .i64 n2)).heap.size := by simp; omega
              have HO9 := hide O9
              have x3 := (bx2 B39).1
              have x4 := (bx2 B39).2
              by_cases e1 : n1 = s1
              · subst e1
                have e2 : n2 ≠ s2 := fun e => hcne (by rw [e])
                have x1 : (n1 == n1) = true := by simp
                have x2 : (n2 == s2) = false := by simp [e2]
                obtain ⟨x5, x6⟩ := bx2 b36
                go_wp2_with fail
                go_roundw
                case rel => exact ⟨i + 1, B5, c5, hh, rfl, unhide HO9, by rw [unhide HNx]; exact B9, by rw [unhide HFs]; exact B39, s9, U9⟩
                case measure => simp [slLn]; omega
              · have x1 : (n1 == s1) = false := by simp [e1]
                obtain ⟨x5, x6⟩ := bx2 b36
                go_wp2_with fail
                go_roundw
                case rel => exact ⟨i + 1, B5, c5, hh, rfl, unhide HO9, by rw [unhide HNx]; exact B9, by rw [unhide HFs]; exact B39, s9, U9⟩
                case measure => simp [slLn]; omega
            · rw [if_neg hh] at b7 z0 z1
              have hend : i + 1 = H.length := by omega
              have e9 : H.take (i + 1) = H := by rw [hend, List.take_length]
              rw [e9] at OW6
              obtain ⟨s1, s2⟩ := fs
              dsimp only at b7 b36 z0 z1
              have x1 : (s1 == s1) = true := by simp
              have x2 : (s2 == s2) = true := by simp
              have U9 := up_set (up_set U6 (p := ⟨g6, 0, none⟩) (by simp only; omega) (.int .i64 s1)) (p := ⟨g6, 1, none⟩) (by simp only; omega) (.int .i64 s2)
              have O9 := hide (ownsRow_setCell_other (ownsRow_setCell_other (unhide OW6) (a := ⟨g6, 0, none⟩) (fun e => by have := hn6 g6 e; omega) (.int .i64 s1)) (a := ⟨g6, 1, none⟩) (fun e => by have := hn6 g6 e; omega) (.int .i64 s2))
              obtain ⟨x5, x6⟩ := bx2 b36
              go_wp2_with fail
              go_ret
              have o := unhide O9
              rw [hend] at o
              exact ⟨⟨_, rfl, ownLow o (by omega)⟩, U9⟩
end Go.Proofs.YtdehnokcjnbjoaaGreat
namespace Go.Proofs.YtdehnokcjnbjoaaGreat
open Go.RowKit Go.Proofs.Gn
set_option maxRecDepth 100000 in
set_option maxHeartbeats 4000000 in
theorem r_mass2 (A : Option Addr) (ps : List Pce) (cap : Nat) (w : World) (h : Pcs w A ps) (ho : okPs ps = true) (hn : ps.length ≤ 32) :
    Calls Tryz.prog 52 #[.slice A ps.length cap] w fun e w' => e = .returned (.int .i64 (mas ps)) ∧ Up w w' := by
  rcases h with rfl | ⟨b, off, rfl, hc⟩
  · go_enter Tryz.func52, Tryz.ntmps52
    go_wp2_with fail
    go_rounds 1
    go_ret
    exact ⟨rfl, (by repeat' (first | (with_reducible exact up_refl _) | (with_reducible assumption) | (with_reducible refine up_alloc ?_ _) | (with_reducible refine up_drewN ?_ _) | (with_reducible refine up_drew ?_) | (with_reducible refine up_set ?_ (by first | (simp; done) | (simp; omega) | omega) _) | (refine up_trans ?_ (by with_reducible assumption))))⟩
  have HC := hide hc
  have HO := hide ho
  clear hc ho
  obtain ⟨n, hN⟩ : ∃ n, ps.length = n := ⟨_, rfl⟩
  rw [hN] at hn ⊢
  have HN := hide hN
  clear hN
  go_enter Tryz.func52, Tryz.ntmps52
  go_wp2_with fail
  go_loopw [3, 4] (fun s i wr => ∃ k : Nat, k ≤ n ∧ s = .int .i64 (mas (ps.take k)) ∧ i = .int .i64 k ∧ Up w wr) (fun _ i _ => n - (intOf i).toNat)
  case atStart => exact ⟨0, by omega, rfl, rfl, (by repeat' (first | (with_reducible exact up_refl _) | (with_reducible assumption) | (with_reducible refine up_alloc ?_ _) | (with_reducible refine up_drewN ?_ _) | (with_reducible refine up_drew ?_) | (with_reducible refine up_set ?_ (by first | (simp; done) | (simp; omega) | omega) _) | (refine up_trans ?_ (by with_reducible assumption))))⟩
  case round =>
    obtain ⟨k, hk, rfl, rfl, hu⟩ := hrel
    by_cases hlt : k < n
    · have hl : k < ps.length := by rw [unhide HN]; exact hlt
      have hp := pceAt_up (unhide HC k hl) hu
      obtain ⟨d0, d1, d2, d3, d4, d5, d6⟩ := hp
      have bk := mas_bd (unhide HO) k (by rw [unhide HN]; exact hk)
      have bs := mas_bd (unhide HO) (k + 1) hl
      have ht := mas_take hl
      obtain ⟨S, hS⟩ : ∃ S, mas (ps.take k) = S := ⟨_, rfl⟩
      obtain ⟨m, hm⟩ : ∃ m, ps[k].m = m := ⟨_, rfl⟩
      rw [hS] at bk ht ⊢
      rw [hm] at d6 ht
      have HT := hide ht
      have hw1 : IntKind.i64.wrap (S + m) = S + m := IntWalk.i64_in _ ⟨by omega, by omega⟩
      have hw2 : IntKind.i64.wrap ((k : Int) + 1) = (k : Int) + 1 := IntWalk.i64_in _ ⟨by omega, by omega⟩
      clear bk bs ht hS hm
      go_wp2_with fail
      go_roundw
      case rel => exact ⟨k + 1, by omega, by rw [unhide HT], by first | rfl | trivial | go_num, (by repeat' (first | (with_reducible exact up_refl _) | (with_reducible assumption) | (with_reducible refine up_alloc ?_ _) | (with_reducible refine up_drewN ?_ _) | (with_reducible refine up_drew ?_) | (with_reducible refine up_set ?_ (by first | (simp; done) | (simp; omega) | omega) _) | (refine up_trans ?_ (by with_reducible assumption))))⟩
      case measure => simp [intOf]; omega
    · obtain rfl : k = n := by omega
      have hF : mas (ps.take k) = mas ps := by rw [List.take_of_length_le (by rw [unhide HN]; omega)]
      have HF := hide hF
      clear hF
      go_wp2_with fail
      go_ret
      exact ⟨by rw [← unhide HF]; rfl, hu⟩
theorem mas_pre {ps : List Pce} {k : Nat} (hk : k ≤ ps.length) (h : okPs (ps.take k) = true) : 0 ≤ mas (ps.take k) ∧ mas (ps.take k) ≤ 16777216 * k := by
  have t := mas_bd h k (by simp; omega)
  rwa [List.take_take, Nat.min_self] at t
set_option maxRecDepth 100000 in
set_option maxHeartbeats 16000000 in
theorem r_CheckL (s : ByteArray) (A : Option Addr) (ps : List Pce) (capA : Nat) (B : Option Addr) (ys : List Eye) (capB : Nat) (f : Int) (w : World) (hA : Pcs w A ps) (hB : Eyes w B ys) (hn : ps.length ≤ 9223372036854775807) (hm : ys.length ≤ 9223372036854775807) :
    Calls Tryz.prog 17 #[loV s A ps.length capA B ys.length capB f] w fun e w' => e = .returned (.int .i64 (loE s ps ys f)) ∧ Up w w' := by
  have HE6 := hide (lo6 (s := s) (ps := ps) (ys := ys) (f := f))
  have HE2 := hide (lo2 (s := s) (ps := ps) (ys := ys) (f := f))
  have HE0 := hide (lo0 (s := s) (ps := ps) (ys := ys) (f := f))
  have HP := hide (fun x y z l wd h m W => r_piece x y z l wd h m W)
  have HY := hide (fun x y z t W => r_eye x y z t W)
  have HNm := hide (fun W => r_Named s W)
  have HF := hide (fun W => r_withinL f 0 1000 W)
  have HW := hide (fun W => r_withinL (mas ps) 1 16777216 W)
  have HA := hide hA
  have HB := hide hB
  clear hA hB
  generalize loE s ps ys f = E at *
  generalize nmS s = q0 at *
  generalize win f 0 1000 = q1 at *
  obtain ⟨q3, hq3⟩ : ∃ q, win (mas ps) 1 16777216 = q := ⟨_, rfl⟩
  rw [hq3] at HE2 HE0 HW
  clear hq3
  obtain ⟨n, hN⟩ : ∃ n, ps.length = n := ⟨_, rfl⟩
  obtain ⟨m, hM⟩ : ∃ n, ys.length = n := ⟨_, rfl⟩
  rw [hN] at hn HE6 HE2 HE0 ⊢
  rw [hM] at hm HE6 HE2 HE0 ⊢
  have HN := hide hN
  have HM := hide hM
  clear hN hM
  by_cases g1 : (1 : Int) ≤ n
  rotate_left
  · have F := hide (unhide HE6 (by omega))
    go_enter Tryz.func17, Tryz.ntmps17
    go_wp2_with fail
    go_ret
    exact ⟨by rw [unhide F]; rfl, (by repeat' (first | (with_reducible exact up_refl _) | (with_reducible assumption) | (with_reducible refine up_alloc ?_ _) | (with_reducible refine up_drewN ?_ _) | (with_reducible refine up_drew ?_) | (with_reducible refine up_set ?_ (by first | (simp; done) | (simp; omega) | omega) _) | (refine up_trans ?_ (by with_reducible assumption))))⟩
  by_cases g2 : 32 < (n : Int)
  · have F := hide (unhide HE6 (by omega))
    go_enter Tryz.func17, Tryz.ntmps17
    go_wp2_with fail
    go_ret
    exact ⟨by rw [unhide F]; rfl, (by repeat' (first | (with_reducible exact up_refl _) | (with_reducible assumption) | (with_reducible refine up_alloc ?_ _) | (with_reducible refine up_drewN ?_ _) | (with_reducible refine up_drew ?_) | (with_reducible refine up_set ?_ (by first | (simp; done) | (simp; omega) | omega) _) | (refine up_trans ?_ (by with_reducible assumption))))⟩
  by_cases g3 : 32 < (m : Int)
  · have F := hide (unhide HE6 (by omega))
    go_enter Tryz.func17, Tryz.ntmps17
    go_wp2_with fail
    go_ret
    exact ⟨by rw [unhide F]; rfl, (by repeat' (first | (with_reducible exact up_refl _) | (with_reducible assumption) | (with_reducible refine up_alloc ?_ _) | (with_reducible refine up_drewN ?_ _) | (with_reducible refine up_drew ?_) | (with_reducible refine up_set ?_ (by first | (simp; done) | (simp; omega) | omega) _) | (refine up_trans ?_ (by with_reducible assumption))))⟩
  have HG := hide (show 1 ≤ n ∧ n ≤ 32 ∧ m ≤ 32 by omega)
  have hE2 := hide (fun h => unhide HE2 (unhide HG) h)
  have hE0 := hide (fun a b c d => unhide HE0 (unhide HG) a b c d)
  have hn' : n ≤ 32 := by omega
  have hm' : m ≤ 32 := by omega
  clear HE6 HE2 HE0 hn hm
  go_enter Tryz.func17, Tryz.ntmps17
  go_upto_region 1 with fail
  refine at_wp (fun W0 hW0 => ?_)
  have U0 : Up w W0 := by rw [hW0]; exact (by repeat' (first | (with_reducible exact up_refl _) | (with_reducible assumption) | (with_reducible refine up_alloc ?_ _) | (with_reducible refine up_drewN ?_ _) | (with_reducible refine up_drew ?_) | (with_reducible refine up_set ?_ (by first | (simp; done) | (simp; omega) | omega) _) | (refine up_trans ?_ (by with_reducible assumption))))
  have B0 : Bx W0 w.heap.size [.string s, .slice A n capA, .slice B m capB, .int .i64 f] := by rw [hW0]; exact bx_new w _ 25
  clear hW0
  have c1 := (B0 1 _ rfl).1
  have c2 := (B0 2 _ rfl).1
  go_wp2_with fail
  clear g1 g2 g3
  go_loopw [3, 4] (fun t i wr => ∃ k : Nat, k ≤ n ∧ t = .int .i64 (mas (ps.take k)) ∧ i = .int .i64 k ∧ Up W0 wr ∧ okPs (ps.take k) = true) (fun _ i _ => n - (intOf i).toNat)
  case atStart => exact ⟨0, by omega, rfl, rfl, up_refl _, rfl⟩
  case round =>
    obtain ⟨k, hk, rfl, rfl, hu, ho⟩ := hrel
    have HO := hide ho
    clear ho c1 c2
    have B1 := bx_up B0 hu
    have c1 := (B1 1 _ rfl).1
    by_cases hlt : k < n
    · have hl : k < ps.length := by rw [unhide HN]; exact hlt
      rcases pcs_up (unhide HA) (up_trans U0 hu) with hnil | ⟨b, off, rfl, hc⟩
      · rw [hnil] at hl; simp at hl
      obtain ⟨d0, d1, d2, d3, d4, d5, d6⟩ := hc k hl
      clear hc
      have HI := hide (fun W => unhide HP ps[k].x ps[k].y ps[k].z ps[k].l ps[k].w ps[k].h ps[k].m W)
      have HFa := hide (fun h => all_atP (f := okP) hl h)
      have HT := hide (fun h => all_take (f := okP) hl (unhide HO) h)
      have hms := hide (fun h => mas_pre (ps := ps) (k := k + 1) hl h)
      have hmk := hide (mas_pre (ps := ps) (Nat.le_of_lt hl) (unhide HO))
      have hmt := hide (mas_take hl)
      have hq : okP ps[k] = okP ⟨ps[k].x, ps[k].y, ps[k].z, ps[k].l, ps[k].w, ps[k].h, ps[k].m⟩ := rfl
      rw [hq] at HFa HT
      generalize ps[k].x = x at *
      generalize ps[k].y = y at *
      generalize ps[k].z = z at *
      generalize ps[k].l = l at *
      generalize ps[k].w = wd at *
      generalize ps[k].h = h at *
      generalize ps[k].m = mm at *
      clear hq
      generalize okP ⟨x, y, z, l, wd, h, mm⟩ = q at *
      generalize mas (ps.take k) = S at *
      cases q
      · have HF2 := hide (unhide hE2 (.inr (.inr (.inl (by rw [show okPs ps = false from unhide HFa rfl]; rfl)))))
        clear HFa HT hms hE2 hE0
        go_wp2_with (go_at_call 60; (with_reducible refine (unhide HI _).mono ?_); rintro e w1 ⟨rfl, hb⟩)
        go_ret
        exact ⟨by rw [unhide HF2]; rfl, (by repeat' (first | (with_reducible exact up_refl _) | (with_reducible assumption) | (with_reducible refine up_alloc ?_ _) | (with_reducible refine up_drewN ?_ _) | (with_reducible refine up_drew ?_) | (with_reducible refine up_set ?_ (by first | (simp; done) | (simp; omega) | omega) _) | (refine up_trans ?_ (by with_reducible assumption))))⟩
      · have HT2 := hide (show okPs (ps.take (k + 1)) = true from unhide HT rfl)
        have b1 := unhide hmk
        have b2 := unhide hms (unhide HT2)
        have b3 := unhide hmt
        have hw1 : IntKind.i64.wrap (S + mm) = S + mm := IntWalk.i64_in _ ⟨by omega, by omega⟩
        have hw2 : IntKind.i64.wrap ((k : Int) + 1) = (k : Int) + 1 := IntWalk.i64_in _ ⟨by omega, by omega⟩
        clear HFa HT hms hmk b1 b2 b3
        go_wp2_with (go_at_call 60; (with_reducible refine (unhide HI _).mono ?_); rintro e w1 ⟨rfl, hb⟩; have k1 := (bx_up B1 hb 1 _ rfl).1; have k6 := up_cell hb d6)
        go_roundw
        case rel => exact ⟨k + 1, by omega, by rw [unhide hmt], by first | rfl | trivial | go_num, (by repeat' (first | (with_reducible exact up_refl _) | (with_reducible assumption) | (with_reducible refine up_alloc ?_ _) | (with_reducible refine up_drewN ?_ _) | (with_reducible refine up_drew ?_) | (with_reducible refine up_set ?_ (by first | (simp; done) | (simp; omega) | omega) _) | (refine up_trans ?_ (by with_reducible assumption)))), unhide HT2⟩
        case measure => simp [intOf]; omega
    · obtain rfl : k = n := by omega
      have hfull : ps.take k = ps := List.take_of_length_le (by rw [unhide HN]; omega)
      rw [hfull] at HO ⊢
      have HOk := hide (unhide HO)
      clear HO hfull
      have V1 := up_trans U0 hu
      have c2 := (B1 2 _ rfl).1
      generalize mas ps = S at *
      clear hu HP HA
      go_wp2_with fail
      obtain ⟨wo, hwo⟩ : ∃ wo, wo = wr := ⟨_, rfl⟩
      rw [← hwo] at V1 B1 c1 c2 ⊢
      clear hwo
      go_loopw [5] (fun i wr => ∃ k : Nat, k ≤ m ∧ i = .int .i64 k ∧ Up wo wr ∧ okYs (ys.take k) = true) (fun i _ => m - (intOf i).toNat)
      case atStart => exact ⟨0, by omega, rfl, up_refl _, rfl⟩
      case round =>
        obtain ⟨j, hj, rfl, hu, ho⟩ := hrel
        have HO := hide ho
        have V2 := up_trans V1 hu
        have B2 := bx_up B1 hu
        clear ho c1 c2
        have c2 := (B2 2 _ rfl).1
        by_cases hlt : j < m
        · have hl : j < ys.length := by rw [unhide HM]; exact hlt
          rcases eyes_up (unhide HB) V2 with hnil | ⟨b, off, rfl, hc⟩
          · rw [hnil] at hl; simp at hl
          obtain ⟨d0, d1, d2, d3⟩ := hc j hl
          clear hc
          have HI := hide (fun W => unhide HY ys[j].x ys[j].y ys[j].z ys[j].s W)
          have HFa := hide (fun h => all_atP (f := okY) hl h)
          have HT := hide (fun h => all_take (f := okY) hl (unhide HO) h)
          have hq : okY ys[j] = okY ⟨ys[j].x, ys[j].y, ys[j].z, ys[j].s⟩ := rfl
          rw [hq] at HFa HT
          generalize ys[j].x = x at *
          generalize ys[j].y = y at *
          generalize ys[j].z = z at *
          generalize ys[j].s = t at *
          clear hq
          generalize okY ⟨x, y, z, t⟩ = q at *
          cases q
          · have HF2 := hide (unhide hE2 (.inr (.inr (.inl (by rw [show okYs ys = false from unhide HFa rfl, Bool.and_false])))))
            clear HFa HT hE2 hE0
            go_wp2_with (go_at_call 61; (with_reducible refine (unhide HI _).mono ?_); rintro e w1 ⟨rfl, hb⟩)
            go_ret
            exact ⟨by rw [unhide HF2]; rfl, (by repeat' (first | (with_reducible exact up_refl _) | (with_reducible assumption) | (with_reducible refine up_alloc ?_ _) | (with_reducible refine up_drewN ?_ _) | (with_reducible refine up_drew ?_) | (with_reducible refine up_set ?_ (by first | (simp; done) | (simp; omega) | omega) _) | (refine up_trans ?_ (by with_reducible assumption))))⟩
          · have HT2 := hide (show okYs (ys.take (j + 1)) = true from unhide HT rfl)
            clear HFa HT
            have hw2 : IntKind.i64.wrap ((j : Int) + 1) = (j : Int) + 1 := IntWalk.i64_in _ ⟨by omega, by omega⟩
            go_wp2_with (go_at_call 61; (with_reducible refine (unhide HI _).mono ?_); rintro e w1 ⟨rfl, hb⟩)
            go_roundw
            case rel => exact ⟨j + 1, by omega, by first | rfl | trivial | go_num, (by repeat' (first | (with_reducible exact up_refl _) | (with_reducible assumption) | (with_reducible refine up_alloc ?_ _) | (with_reducible refine up_drewN ?_ _) | (with_reducible refine up_drew ?_) | (with_reducible refine up_set ?_ (by first | (simp; done) | (simp; omega) | omega) _) | (refine up_trans ?_ (by with_reducible assumption)))), unhide HT2⟩
            case measure => simp [intOf]; omega
        · obtain rfl : j = m := by omega
          have HYs := hide (show okYs ys = true by have t := unhide HO; rwa [List.take_of_length_le (by rw [unhide HM]; omega)] at t)
          have HQ2 := hide (show (okPs ps && okYs ys) = true by rw [unhide HOk, unhide HYs]; rfl)
          have c0 := (B2 0 _ rfl).1
          clear HO HY HB
          cases q0
          · have HF2 := hide (unhide hE2 (.inl rfl))
            clear hE2 hE0
            go_wp2_with (go_at_call 62; (with_reducible refine (unhide HNm _).mono ?_); rintro e w1 ⟨rfl, hb⟩)
            go_ret
            exact ⟨by rw [unhide HF2]; rfl, up_trans V2 hb⟩
          cases q3
          · have HF2 := hide (unhide hE2 (.inr (.inr (.inr rfl))))
            clear hE2 hE0 HF
            go_wp2_with (first | (go_at_call 62; (with_reducible refine (unhide HNm _).mono ?_); rintro e w1 ⟨rfl, hb⟩) | (go_at_call 63; (with_reducible refine (unhide HW _).mono ?_); rintro e w2 ⟨rfl, rfl⟩))
            go_ret
            exact ⟨by rw [unhide HF2]; rfl, up_trans V2 hb⟩
          cases q1
          · have HF2 := hide (unhide hE2 (.inr (.inl rfl)))
            clear hE2 hE0
            go_wp2_with (first | (go_at_call 62; (with_reducible refine (unhide HNm _).mono ?_); rintro e w1 ⟨rfl, hb⟩; have k3 := (bx_up B2 hb 3 _ rfl).1) | (go_at_call 63; (with_reducible refine (unhide HW _).mono ?_); rintro e w2 ⟨rfl, rfl⟩) | (go_at_call 63; (with_reducible refine (unhide HF _).mono ?_); rintro e w2 ⟨rfl, rfl⟩))
            go_ret
            exact ⟨by rw [unhide HF2]; rfl, up_trans V2 hb⟩
          · have HF2 := hide (unhide hE0 rfl rfl (unhide HQ2) rfl)
            clear hE2 hE0
            go_wp2_with (first | (go_at_call 62; (with_reducible refine (unhide HNm _).mono ?_); rintro e w1 ⟨rfl, hb⟩; have k3 := (bx_up B2 hb 3 _ rfl).1) | (go_at_call 63; (with_reducible refine (unhide HW _).mono ?_); rintro e w2 ⟨rfl, rfl⟩) | (go_at_call 63; (with_reducible refine (unhide HF _).mono ?_); rintro e w2 ⟨rfl, rfl⟩))
            go_ret
            exact ⟨by rw [unhide HF2]; rfl, up_trans V2 hb⟩
set_option maxRecDepth 100000 in
theorem r_MassL (s : ByteArray) (A : Option Addr) (ps : List Pce) (capA : Nat) (B : Option Addr) (ys : List Eye) (capB : Nat) (f : Int) (w : World) (hA : Pcs w A ps) (hB : Eyes w B ys) (hn : ps.length ≤ 9223372036854775807) (hm : ys.length ≤ 9223372036854775807) :
    Calls Tryz.prog 11 #[loV s A ps.length capA B ys.length capB f] w fun e w' => e = .returned (.tuple #[.int .i64 (loM s ps ys f), .int .i64 (loE s ps ys f)]) ∧ Up w w' := by
  have HC := hide (fun W (hW : Up w W) => r_CheckL s A ps capA B ys capB f W (pcs_up hA hW) (eyes_up hB hW) hn hm)
  have HM := hide (fun W (hW : Up w W) (he : loE s ps ys f = 0) => r_mass2 A ps capA W (pcs_up hA hW) (loE_ok he).2.2.2.1 (loE_ok he).1.2.1)
  unfold loM
  clear hA hB
  generalize loE s ps ys f = E at *
  generalize mas ps = S at *
  generalize ps.length = n at *
  generalize ys.length = m at *
  go_enter Tryz.func11, Tryz.ntmps11
  go_upto_region 1 with fail
  refine at_wp (fun W0 hW0 => ?_)
  have U0 : Up w W0 := by rw [hW0]; exact (by repeat' (first | (with_reducible exact up_refl _) | (with_reducible assumption) | (with_reducible refine up_alloc ?_ _) | (with_reducible refine up_drewN ?_ _) | (with_reducible refine up_drew ?_) | (with_reducible refine up_set ?_ (by first | (simp; done) | (simp; omega) | omega) _) | (refine up_trans ?_ (by with_reducible assumption))))
  have B0 : Bx W0 w.heap.size [.string s, .slice A n capA, .slice B m capB, .int .i64 f] := by rw [hW0]; exact bx_new w _ 25
  clear hW0
  have c0 := (B0 0 _ rfl).1
  have c1 := (B0 1 _ rfl).1
  have c2 := (B0 2 _ rfl).1
  have c3 := (B0 3 _ rfl).1
  by_cases he : E = 0
  · subst he
    have HM2 := hide (fun W hW => unhide HM W hW rfl)
    clear HM
    go_wp2_with (first | (go_at_call 17; (with_reducible refine (unhide HC _ U0).mono ?_); rintro e w1 ⟨rfl, hb⟩; have k1 := (bx_up B0 hb 1 _ rfl).1; have U1 := up_trans U0 hb) | (go_at_call 52; (with_reducible refine (unhide HM2 _ U1).mono ?_); rintro e w2 ⟨rfl, hb2⟩))
    go_returns
    exact ⟨rfl, up_trans U1 hb2⟩
  · have t : (E == 0) = false := by simp [he]
    have HH := hide he
    clear he
    have HC2 := hide (fun W hW => unhide HC W hW)
    go_wp2_with (go_at_call 17; (with_reducible refine (unhide HC _ (by first | exact U2 | exact U1 | exact U0)).mono ?_); rintro e w1 ⟨rfl, hb⟩; first | (have U2 := up_trans U1 hb) | (have U1 := up_trans U0 hb; have B1 := bx_up B0 hb; have k0 := (B1 0 _ rfl).1; have k1 := (B1 1 _ rfl).1; have k2 := (B1 2 _ rfl).1; have k3 := (B1 3 _ rfl).1))
    go_returns
    exact ⟨by first | rfl | (rw [if_neg (unhide HH)]; rfl), by first | exact U2 | exact U1⟩
end Go.Proofs.YtdehnokcjnbjoaaGreat
namespace Go.Proofs.YtdehnokcjnbjoaaGreat
open Go.RowKit Go.Proofs.Gn
attribute [local go_sem] Oper.semAt_some
set_option linter.unusedVariables false
/-- The corners of a piece in the plan, and those of all that are higher than z. -/
def cnP (p : Pce) : Pl := [(p.x, p.y), (p.x + p.l, p.y), (p.x, p.y + p.w), (p.x + p.l, p.y + p.w)]
def cnL (z : Int) (ps : List Pce) : Pl := ps.flatMap fun p => if z < p.z + p.h then cnP p else []
theorem cnL_take (z : Int) {ps : List Pce} {k : Nat} (h : k < ps.length) : cnL z (ps.take (k + 1)) = cnL z (ps.take k) ++ (if z < ps[k].z + ps[k].h then cnP ps[k] else []) := by
  unfold cnL; rw [List.take_succ_eq_append_getElem h, List.flatMap_append]; simp
theorem cnL_len (z : Int) : ∀ ps : List Pce, (cnL z ps).length ≤ 4 * ps.length
  | [] => by simp [cnL]
  | p :: ps => by
    have ih := cnL_len z ps
    unfold cnL at ih ⊢
    rw [List.flatMap_cons, List.length_append, List.length_cons]
    have hq : (if z < p.z + p.h then cnP p else []).length ≤ 4 := by
      split
      · exact Nat.le_refl 4
      · exact Nat.zero_le 4
    omega
def cnV (p : Pce) : List Value := [.int .i64 p.x, .int .i64 p.y, .int .i64 (p.x + p.l), .int .i64 p.y, .int .i64 p.x, .int .i64 (p.y + p.w), .int .i64 (p.x + p.l), .int .i64 (p.y + p.w)]
theorem cells_cnP (acc : Pl) (p : Pce) : cellsPl (acc ++ cnP p) = cellsPl acc ++ cnV p := by simp [cellsPl, cnP, cnV]
theorem cnL_nr (z : Int) {ps : List Pce} (ho : okPs ps = true) : ∀ q ∈ cnL z ps, Nr 262144 q := by
  intro q hq
  unfold cnL at hq
  obtain ⟨p, hp, h⟩ := List.mem_flatMap.1 hq
  have hk := (okP_iff _).1 (List.all_eq_true.1 (show ps.all okP = true from ho) p hp)
  unfold okPp at hk
  split at h
  · unfold cnP at h
    simp at h
    unfold Nr
    rcases h with rfl | rfl | rfl | rfl <;> dsimp only <;> omega
  · cases h
theorem r_rect (x y u v : Int) (w : World) :
    Calls Tryz.prog 109 #[.int .i64 x, .int .i64 y, .int .i64 u, .int .i64 v] w fun e w' => e = .returned (.slice (some ⟨w.heap.size, 0, none⟩) 4 4) ∧ w' = w.alloc (.cells #[.int .i64 x, .int .i64 y, .int .i64 u, .int .i64 y, .int .i64 x, .int .i64 v, .int .i64 u, .int .i64 v] 55) := by
  go_enter Tryz.func109, Tryz.ntmps109
  go_wp2_with fail
  go_ret
  exact ⟨rfl, rfl⟩
set_option maxRecDepth 100000 in
set_option maxHeartbeats 8000000 in
theorem r_cornersG (A : Option Addr) (ps : List Pce) (cap : Nat) (z : Int) (w : World) (h : Pcs w A ps) (ho : okPs ps = true) (hn : ps.length ≤ 1000) :
    Calls Tryz.prog 66 #[.slice A ps.length cap, .int .i64 z] w fun e w' => (∃ v, e = .returned v ∧ w'.ownsRow w.heap.size 55 2 v (cnL z ps).length (cellsPl (cnL z ps))) ∧ Up w w' := by
  have HT := hide (fun k (hk : k < ps.length) => cnL_take z hk)
  have HE := hide (show cnL z (ps.take ps.length) = cnL z ps by rw [List.take_length])
  have HK := hide (fun k (hk : k < ps.length) => (okP_iff _).1 (okPs_get ho hk))
  have HL := hide (fun k => (Nat.le_trans (cnL_len z (ps.take k)) (by have := List.length_take_le k ps; have := List.length_take_le' k ps; omega) : (cnL z (ps.take k)).length ≤ 4000))
  have HP := hide h
  have H0 := hide (show cnL z (ps.take 0) = [] by simp [cnL])
  obtain ⟨n, hnn⟩ : ∃ n, ps.length = n := ⟨_, rfl⟩
  have HNN := hide hnn
  rw [hnn] at hn HE ⊢
  obtain ⟨i0', hi, hz0, hz1, hz2⟩ := info_parts info_pt
  have HI := hide hi
  clear h ho hnn hi
  go_enter Tryz.func66, Tryz.ntmps66
  go_upto_region 3 with fail
  have ow0 : w.ownsRow w.heap.size 55 2 (.slice none 0 0) (cnL z (ps.take 0)).length (cellsPl (cnL z (ps.take 0))) := by rw [unhide H0]; exact World.ownsRow_nil _ _ _ _
  go_loopw [5, 6] (fun s5 s6 wr => ∃ (k : Nat) (B : Option Addr) (m c : Nat), k ≤ n ∧ s6 = .int .i64 k ∧ s5 = .slice B m c ∧ m = (cnL z (ps.take k)).length ∧ wr.ownsRow w.heap.size 55 2 s5 m (cellsPl (cnL z (ps.take k))) ∧ Up w wr) (fun _ s6 _ => n - (intOf s6).toNat)
  case atStart => exact ⟨0, none, 0, 0, by omega, rfl, rfl, by rw [unhide H0]; rfl, by have := ow0; rw [unhide H0] at this ⊢; exact this, up_refl _⟩
  case round =>
    clear ow0 H0
    obtain ⟨k, B, m, c, hk, rfl, rfl, hm, ow, hu⟩ := hrel
    by_cases hlt : k < n
    · have hl : k < ps.length := by rw [unhide HNN]; exact hlt
      have hps := unhide HP
      obtain ⟨b, off, rfl, hc⟩ := hps.resolve_left (by intro e; rw [e] at hl; simp at hl)
      obtain ⟨a0, a1, a2, a3, a4, a5, a6⟩ := pceAt_up (hc k hl) hu
      have hst := unhide HT k hl
      have hp := unhide HK k hl
      have hL := unhide HL k
      unfold okPp at hp
      generalize ps[k] = p at *
      rw [← hm] at hL
      have i0 : (0 : Int) ≤ (k : Int) := by omega
      have i1 : (k : Int) < (n : Int) := by omega
      have i3 : (k : Int).toNat = k := by omega
      have hwk : IntKind.i64.wrap ((k : Int) + 1) = (k : Int) + 1 := IntWalk.i64_in _ ⟨by omega, by omega⟩
      have s1 : IntKind.i64.wrap (p.z + p.h) = p.z + p.h := i64_small (by omega)
      have s2 : IntKind.i64.wrap (p.x + p.l) = p.x + p.l := i64_small (by omega)
      have s3 : IntKind.i64.wrap (p.y + p.w) = p.y + p.w := i64_small (by omega)
      clear hps hc hp
      go_upto_region 6 with fail
      refine at_wpC (fun W1 hW1 => ?_)
      have u1' : Up wr W1 := by rw [hW1]; exact (by repeat' (first | (with_reducible exact up_refl _) | (with_reducible assumption) | (with_reducible refine up_alloc ?_ _) | (with_reducible refine up_drewN ?_ _) | (with_reducible refine up_drew ?_) | (with_reducible refine up_set ?_ (by first | (simp; done) | (simp; omega) | omega) _) | (refine up_trans ?_ (by with_reducible assumption))))
      have b7 : Bx W1 wr.heap.size [.int .i64 p.x, .int .i64 p.y, .int .i64 p.z, .int .i64 p.l, .int .i64 p.w, .int .i64 p.h, .int .i64 p.m] := by rw [hW1]; exact bx_new wr _ _
      have ow1 := own_up ow u1'
      have U1 := up_trans hu u1'
      have hb1 : w.heap.size ≤ W1.heap.size := U1.size
      clear hW1 u1' hu ow a0 a1 a2 a3 a4 a5 a6
      obtain ⟨g7, hg⟩ : ∃ g, wr.heap.size = g := ⟨_, rfl⟩
      rw [hg] at b7 ⊢
      clear hg
      have c2 := (b7 2 _ rfl).1
      have c5 := (b7 5 _ rfl).1
      by_cases hz : z < p.z + p.h
      · rw [if_pos hz] at hst
        have HST := hide hst
        have c0 := (b7 0 _ rfl).1
        have c1 := (b7 1 _ rfl).1
        have c3 := (b7 3 _ rfl).1
        have c4 := (b7 4 _ rfl).1
        have OW := hide ow1
        have HM := hide hm
        have hlo : ∀ j, (Value.slice B m c).ownBlock = some j → w.heap.size ≤ j := fun j e => (ow1.lt j e).1
        clear hst ow1 hm
        go_wp2_with (first
          | (go_at_call 109; (with_reducible refine (r_rect _ _ _ _ _).mono ?_); rintro e w2 ⟨rfl, rfl⟩)
          | (at_builtin; refine wpList_append_own_at _ rfl _ _ 37 rfl w.heap.size 55 i0' _ 2 16 Tryz.underlying37 (unhide HI) hz0 hz1 hz2 rfl (by decide) (.slice B m c) m (cellsPl (cnL z (ps.take k))) rfl ((unhide OW).alloc _) ⟨W1.heap.size, 0, none⟩ 4 4 (cnV p) rfl rfl (news_pt W1 (cnV p) _) (by intro u hu; simp [cnV] at hu; rcases hu with rfl | rfl | rfl | rfl | rfl | rfl | rfl | rfl <;> rfl) (by unfold maxLen; omega) (by omega) (by simp; omega) ?_; intro v5 W5 hown hgr _ hat))
        have U5 : Up w W5 := (up_alloc U1 _).grown hgr (up_alloc U1 _).size hlo
        obtain ⟨B5, c5', rfl⟩ : ∃ B5 c5, v5 = .slice B5 (m + 4) c5 := by
          rcases hown.2 with ⟨_, h2⟩ | ⟨g', c', cur, h1, _⟩
          · omega
          · exact ⟨_, _, h1⟩
        have HO := hide hown
        clear hgr hat hown OW
        go_roundw
        case rel => exact ⟨k + 1, B5, m + 4, c5', by omega, by go_num, rfl, by rw [unhide HST, List.length_append, ← unhide HM]; rfl, by rw [unhide HST, cells_cnP]; exact unhide HO, U5⟩
        case measure => simp [intOf]; omega
      · rw [if_neg hz, List.append_nil] at hst
        have HST := hide hst
        have HO := hide ow1
        clear hst ow1
        go_wp2_with fail
        go_roundw
        case rel => exact ⟨k + 1, B, m, c, by omega, by go_num, rfl, by rw [unhide HST]; exact hm, by rw [unhide HST]; exact unhide HO, U1⟩
        case measure => simp [intOf]; omega
    · obtain rfl : k = n := by omega
      rw [unhide HE] at ow hm
      have i1 : ¬ (k : Int) < (k : Int) := by omega
      have HO := hide ow
      have HM := hide hm
      clear ow hm
      go_wp2_with fail
      go_ret
      exact ⟨⟨_, rfl, by rw [← unhide HM]; exact unhide HO⟩, hu⟩
/-- The error, and the points, of an outline. -/
def ouE (E : Int) (L : Pl) : Int := if E = 0 then (if L = [] then 5 else 0) else E
def ouL (E : Int) (L : Pl) : Pl := if E = 0 then hlL L else []
/-- A list of points that the call has made, with an error. -/
def PlBack (E : Int) (L : Pl) (w : World) (e : Ending) (w' : World) : Prop := (∃ v, e = .returned (.tuple #[v, .int .i64 E]) ∧ w'.ownsRow w.heap.size 55 2 v L.length (cellsPl L)) ∧ Up w w'
end Go.Proofs.YtdehnokcjnbjoaaGreat
namespace Go.Proofs.YtdehnokcjnbjoaaGreat
open Go.RowKit Go.Proofs.Gn
attribute [local go_sem] Oper.semAt_some
set_option linter.unusedVariables false
theorem hl_len {L : Pl} (h : L.length ≤ 1000) : (Gx.hullF L).length ≤ 2000 := by have := hullF_len L; omega
theorem cnL_32 {s : ByteArray} {ps : List Pce} {ys : List Eye} {f : Int} (h : loE s ps ys f = 0) (z : Int) : (cnL z ps).length ≤ 128 := by
  have := cnL_len z ps
  have := (loE_ok h).1
  omega
set_option maxRecDepth 100000 in
set_option maxHeartbeats 8000000 in
theorem r_OutlineG (s : ByteArray) (A : Option Addr) (ps : List Pce) (cA : Nat) (B : Option Addr) (ys : List Eye) (cB : Nat) (f : Int) (w : World) (hA : Pcs w A ps) (hB : Eyes w B ys) (hn : ps.length ≤ 9223372036854775807) (hm : ys.length ≤ 9223372036854775807) :
    Calls Tryz.prog 21 #[loV s A ps.length cA B ys.length cB f] w fun e w' => PlBack (loE s ps ys f) (ouL (loE s ps ys f) (cnL (-1) ps)) w e w' := by
  have HC := hide (fun W (hW : Up w W) => r_CheckL s A ps cA B ys cB f W (pcs_up hA hW) (eyes_up hB hW) hn hm)
  by_cases hE : loE s ps ys f = 0
  · rw [hE] at HC ⊢
    have hok := (loE_ok hE).2.2.2.1
    have hlen := (loE_ok hE).1
    have hc32 := cnL_32 hE (-1)
    have HK := hide (fun W (hW : Up w W) => (r_cornersG A ps cA (-1) W (pcs_up hA hW) hok (by omega)).mono fun e w' ⟨⟨v, he, ho⟩, hu⟩ => by
      obtain ⟨A', c', rfl, hp⟩ := own_pts ho
      exact (⟨⟨A', c', he, hp⟩, hu⟩ : (∃ A' c', e = Ending.returned (.slice A' (cnL (-1) ps).length c') ∧ Pts w' A' (cnL (-1) ps)) ∧ Up W w'))
    have HH := hide (fun W (hW : Up w W) A' c' (hp : Pts W A' (cnL (-1) ps)) => (r_HullG A' (cnL (-1) ps) c' W hp (by omega) (cnL_nr (-1) hok) (hl_len (by omega))).mono fun e w' ⟨⟨v, he, ho⟩, hu⟩ => (⟨⟨v, he, ownLow ho hW.size⟩, hu⟩ : (∃ v, e = Ending.returned v ∧ w'.ownsRow w.heap.size 55 2 v (hlL (cnL (-1) ps)).length (cellsPl (hlL (cnL (-1) ps)))) ∧ Up W w'))
    show Calls Tryz.prog 21 _ w fun e w' => PlBack 0 (hlL (cnL (-1) ps)) w e w'
    generalize hlL (cnL (-1) ps) = R at *
    generalize (cnL (-1) ps).length = M at *
    generalize ps.length = n at *
    generalize ys.length = m at *
    clear hA hB hok hlen hc32 hE hn hm
    go_enter Tryz.func21, Tryz.ntmps21
    go_upto_region 1 with fail
    refine at_wpC (fun W0 hW0 => ?_)
    have U0 : Up w W0 := by rw [hW0]; exact (by repeat' (first | (with_reducible exact up_refl _) | (with_reducible assumption) | (with_reducible refine up_alloc ?_ _) | (with_reducible refine up_drewN ?_ _) | (with_reducible refine up_drew ?_) | (with_reducible refine up_set ?_ (by first | (simp; done) | (simp; omega) | omega) _) | (refine up_trans ?_ (by with_reducible assumption))))
    have bL : Bx W0 w.heap.size [.string s, .slice A n cA, .slice B m cB, .int .i64 f] := by rw [hW0]; exact bx_new w _ _
    clear hW0
    have c0 := (bL 0 _ rfl).1
    have c1 := (bL 1 _ rfl).1
    have c2 := (bL 2 _ rfl).1
    have c3 := (bL 3 _ rfl).1
    go_upto_region 3 with (go_at_call 17; (with_reducible refine (unhide HC _ U0).mono ?_); rintro e w1 ⟨rfl, v1⟩)
    have bL1 := bx_up bL v1
    have U1 := up_trans U0 v1
    clear c0 c1 c2 c3 bL v1 U0
    have c1 := (bL1 1 _ rfl).1
    go_wp2_with (first
      | (go_at_call 66; (with_reducible refine (unhide HK _ U1).mono ?_); rintro e w2 ⟨⟨A', c', rfl, hp2⟩, v2⟩; have U2 := up_trans U1 v2)
      | (go_at_call 48; (with_reducible refine (unhide HH _ U2 A' c' hp2).mono ?_); rintro e w3 ⟨⟨v, rfl, ho⟩, v3⟩; have HO := hide ho; clear ho))
    go_ret2
    exact ⟨⟨v, rfl, unhide HO⟩, up_trans U2 v3⟩
  · unfold ouL
    rw [if_neg hE]
    have hne := hE
    generalize loE s ps ys f = E at *
    have t0 : (E == 0) = false := by simp [hE]
    have t1 : (E != 0) = true := by simp [hE]
    generalize ps.length = n at *
    generalize ys.length = m at *
    clear hA hB hE hne hn hm
    go_enter Tryz.func21, Tryz.ntmps21
    go_upto_region 1 with fail
    refine at_wpC (fun W0 hW0 => ?_)
    have U0 : Up w W0 := by rw [hW0]; exact (by repeat' (first | (with_reducible exact up_refl _) | (with_reducible assumption) | (with_reducible refine up_alloc ?_ _) | (with_reducible refine up_drewN ?_ _) | (with_reducible refine up_drew ?_) | (with_reducible refine up_set ?_ (by first | (simp; done) | (simp; omega) | omega) _) | (refine up_trans ?_ (by with_reducible assumption))))
    have bL : Bx W0 w.heap.size [.string s, .slice A n cA, .slice B m cB, .int .i64 f] := by rw [hW0]; exact bx_new w _ _
    clear hW0
    have c0 := (bL 0 _ rfl).1
    have c1 := (bL 1 _ rfl).1
    have c2 := (bL 2 _ rfl).1
    have c3 := (bL 3 _ rfl).1
    go_upto_region 2 with (go_at_call 17; (with_reducible refine (unhide HC _ U0).mono ?_); rintro e w1 ⟨rfl, v1⟩)
    have bL1 := bx_up bL v1
    have U1 := up_trans U0 v1
    clear c0 c1 c2 c3 bL v1 U0
    have c0 := (bL1 0 _ rfl).1
    have c1 := (bL1 1 _ rfl).1
    have c2 := (bL1 2 _ rfl).1
    have c3 := (bL1 3 _ rfl).1
    go_wp2_with (go_at_call 17; (with_reducible refine (unhide HC _ U1).mono ?_); rintro e w2 ⟨rfl, v2⟩)
    go_ret2
    exact ⟨⟨_, rfl, World.ownsRow_nil _ _ _ _⟩, up_trans U1 v2⟩
set_option maxRecDepth 100000 in
set_option maxHeartbeats 8000000 in
theorem r_AboveG (s : ByteArray) (A : Option Addr) (ps : List Pce) (cA : Nat) (B : Option Addr) (ys : List Eye) (cB : Nat) (f z : Int) (w : World) (hA : Pcs w A ps) (hB : Eyes w B ys) (hn : ps.length ≤ 9223372036854775807) (hm : ys.length ≤ 9223372036854775807) :
    Calls Tryz.prog 23 #[loV s A ps.length cA B ys.length cB f, .int .i64 z] w fun e w' => PlBack (ouE (loE s ps ys f) (cnL z ps)) (ouL (loE s ps ys f) (cnL z ps)) w e w' := by
  have HC := hide (fun W (hW : Up w W) => r_CheckL s A ps cA B ys cB f W (pcs_up hA hW) (eyes_up hB hW) hn hm)
  by_cases hE : loE s ps ys f = 0
  · rw [hE] at HC ⊢
    have hok := (loE_ok hE).2.2.2.1
    have hlen := (loE_ok hE).1
    have hc32 := cnL_32 hE z
    have HK := hide (fun W (hW : Up w W) => (r_cornersG A ps cA z W (pcs_up hA hW) hok (by omega)).mono fun e w' ⟨⟨v, he, ho⟩, hu⟩ => by
      obtain ⟨A', c', rfl, hp⟩ := own_pts ho
      exact (⟨⟨A', c', he, hp⟩, hu⟩ : (∃ A' c', e = Ending.returned (.slice A' (cnL z ps).length c') ∧ Pts w' A' (cnL z ps)) ∧ Up W w'))
    have HH := hide (fun W (hW : Up w W) A' c' (hp : Pts W A' (cnL z ps)) => (r_HullG A' (cnL z ps) c' W hp (by omega) (cnL_nr z hok) (hl_len (by omega))).mono fun e w' ⟨⟨v, he, ho⟩, hu⟩ => (⟨⟨v, he, ownLow ho hW.size⟩, hu⟩ : (∃ v, e = Ending.returned v ∧ w'.ownsRow w.heap.size 55 2 v (hlL (cnL z ps)).length (cellsPl (hlL (cnL z ps)))) ∧ Up W w'))
    show Calls Tryz.prog 23 _ w fun e w' => PlBack (if cnL z ps = [] then 5 else 0) (hlL (cnL z ps)) w e w'
    have hz : cnL z ps = [] → hlL (cnL z ps) = [] := fun h => if_pos h
    have hM : cnL z ps = [] ↔ (cnL z ps).length = 0 := ⟨fun h => by rw [h]; rfl, fun h => List.eq_nil_of_length_eq_zero h⟩
    by_cases hne : cnL z ps = []
    · have hM0 := hM.1 hne
      rw [if_pos hne, hz hne]
      rw [hM0] at HK
      generalize ps.length = n at *
      generalize ys.length = m at *
      clear hA hB hok hlen hc32 hE hn hm HH hz hM hM0 hne
      go_enter Tryz.func23, Tryz.ntmps23
      go_upto_region 1 with fail
      refine at_wpC (fun W0 hW0 => ?_)
      have U0 : Up w W0 := by rw [hW0]; exact (by repeat' (first | (with_reducible exact up_refl _) | (with_reducible assumption) | (with_reducible refine up_alloc ?_ _) | (with_reducible refine up_drewN ?_ _) | (with_reducible refine up_drew ?_) | (with_reducible refine up_set ?_ (by first | (simp; done) | (simp; omega) | omega) _) | (refine up_trans ?_ (by with_reducible assumption))))
      have bL : Bx W0 w.heap.size [.string s, .slice A n cA, .slice B m cB, .int .i64 f] := by rw [hW0]; exact bx_new w _ _
      clear hW0
      have c0 := (bL 0 _ rfl).1
      have c1 := (bL 1 _ rfl).1
      have c2 := (bL 2 _ rfl).1
      have c3 := (bL 3 _ rfl).1
      go_upto_region 3 with (go_at_call 17; (with_reducible refine (unhide HC _ U0).mono ?_); rintro e w1 ⟨rfl, v1⟩)
      have bL1 := bx_up bL v1
      have U1 := up_trans U0 v1
      clear c0 c1 c2 c3 bL v1 U0
      have c1 := (bL1 1 _ rfl).1
      go_wp2_with (go_at_call 66; (with_reducible refine (unhide HK _ U1).mono ?_); rintro e w2 ⟨⟨A', c', rfl, hp2⟩, v2⟩; have U2 := up_trans U1 v2)
      go_ret2
      exact ⟨⟨_, rfl, World.ownsRow_nil _ _ _ _⟩, U2⟩
    · have hM0 : ¬ (cnL z ps).length = 0 := fun h => hne (hM.2 h)
      rw [if_neg hne]
      generalize hlL (cnL z ps) = R at *
      generalize (cnL z ps).length = M at *
      have n1 : ((M : Int) == 0) = false := by simp; omega
      generalize ps.length = n at *
      generalize ys.length = m at *
      clear hA hB hok hlen hc32 hE hn hm hz hM hne
      go_enter Tryz.func23, Tryz.ntmps23
      go_upto_region 1 with fail
      refine at_wpC (fun W0 hW0 => ?_)
      have U0 : Up w W0 := by rw [hW0]; exact (by repeat' (first | (with_reducible exact up_refl _) | (with_reducible assumption) | (with_reducible refine up_alloc ?_ _) | (with_reducible refine up_drewN ?_ _) | (with_reducible refine up_drew ?_) | (with_reducible refine up_set ?_ (by first | (simp; done) | (simp; omega) | omega) _) | (refine up_trans ?_ (by with_reducible assumption))))
      have bL : Bx W0 w.heap.size [.string s, .slice A n cA, .slice B m cB, .int .i64 f] := by rw [hW0]; exact bx_new w _ _
      clear hW0
      have c0 := (bL 0 _ rfl).1
      have c1 := (bL 1 _ rfl).1
      have c2 := (bL 2 _ rfl).1
      have c3 := (bL 3 _ rfl).1
      go_upto_region 3 with (go_at_call 17; (with_reducible refine (unhide HC _ U0).mono ?_); rintro e w1 ⟨rfl, v1⟩)
      have bL1 := bx_up bL v1
      have U1 := up_trans U0 v1
      clear c0 c1 c2 c3 bL v1 U0
      have c1 := (bL1 1 _ rfl).1
      go_wp2_with (first
        | (go_at_call 66; (with_reducible refine (unhide HK _ U1).mono ?_); rintro e w2 ⟨⟨A', c', rfl, hp2⟩, v2⟩; have U2 := up_trans U1 v2)
        | (go_at_call 48; (with_reducible refine (unhide HH _ U2 A' c' hp2).mono ?_); rintro e w3 ⟨⟨v, rfl, ho⟩, v3⟩; have HO := hide ho; clear ho))
      go_ret2
      exact ⟨⟨v, rfl, unhide HO⟩, up_trans U2 v3⟩
  · unfold ouL ouE
    rw [if_neg hE, if_neg hE]
    generalize loE s ps ys f = E at *
    have t0 : (E == 0) = false := by simp [hE]
    have t1 : (E != 0) = true := by simp [hE]
    generalize ps.length = n at *
    generalize ys.length = m at *
    clear hA hB hE hn hm
    go_enter Tryz.func23, Tryz.ntmps23
    go_upto_region 1 with fail
    refine at_wpC (fun W0 hW0 => ?_)
    have U0 : Up w W0 := by rw [hW0]; exact (by repeat' (first | (with_reducible exact up_refl _) | (with_reducible assumption) | (with_reducible refine up_alloc ?_ _) | (with_reducible refine up_drewN ?_ _) | (with_reducible refine up_drew ?_) | (with_reducible refine up_set ?_ (by first | (simp; done) | (simp; omega) | omega) _) | (refine up_trans ?_ (by with_reducible assumption))))
    have bL : Bx W0 w.heap.size [.string s, .slice A n cA, .slice B m cB, .int .i64 f] := by rw [hW0]; exact bx_new w _ _
    clear hW0
    have c0 := (bL 0 _ rfl).1
    have c1 := (bL 1 _ rfl).1
    have c2 := (bL 2 _ rfl).1
    have c3 := (bL 3 _ rfl).1
    go_upto_region 2 with (go_at_call 17; (with_reducible refine (unhide HC _ U0).mono ?_); rintro e w1 ⟨rfl, v1⟩)
    have bL1 := bx_up bL v1
    have U1 := up_trans U0 v1
    clear c0 c1 c2 c3 bL v1 U0
    have c0 := (bL1 0 _ rfl).1
    have c1 := (bL1 1 _ rfl).1
    have c2 := (bL1 2 _ rfl).1
    have c3 := (bL1 3 _ rfl).1
    go_wp2_with (go_at_call 17; (with_reducible refine (unhide HC _ U1).mono ?_); rintro e w2 ⟨rfl, v2⟩)
    go_ret2
    exact ⟨⟨_, rfl, World.ownsRow_nil _ _ _ _⟩, up_trans U1 v2⟩
end Go.Proofs.YtdehnokcjnbjoaaGreat
namespace Go.Proofs.YtdehnokcjnbjoaaGreat
open Go.RowKit Go.Proofs.Gn Go.Shelf
attribute [local go_sem] Oper.semAt_some
set_option linter.unusedVariables false
/-- A round keeps what lies in a box. -/
def KpB (Bs : Nat) (W W' : World) : Prop := ∀ i v, W.cell? ⟨Bs, i, none⟩ = some v → W'.cell? ⟨Bs, i, none⟩ = some v
theorem kpB_refl (Bs : Nat) (W : World) : KpB Bs W W := fun _ _ h => h
theorem kpB_trans {Bs : Nat} {A B C : World} (h : KpB Bs A B) (k : KpB Bs B C) : KpB Bs A C := fun i v hv => k i v (h i v hv)
theorem kpB_up {Bs : Nat} {W W' : World} (h : Up W W') : KpB Bs W W' := fun _ _ hv => up_cell h hv
theorem kpB_put {Bs : Nat} (W : World) (l : Nat) (o o' : Obj) (h : W.heap[l]? = some o) (hc : o.isCells = false) : KpB Bs W (W.putObj l o') := fun i v hv => by
  obtain ⟨q, hq, hqc⟩ := cells_of_cell hv
  have hne : Bs ≠ l := fun e => by
    subst e
    rw [h] at hq
    cases hq
    rw [hc] at hqc
    cases hqc
  exact (World.cell?_of_block (a := ⟨Bs, i, none⟩) (World.putObj_heap_other hne)).trans hv
theorem cn_make (n : Nat) (p : Pce) (w : World) :
    CallsIn Fence.wide n Tryz.prog 107 #[pcV p] w fun e w' => e = .returned (.func (.func 138) #[] #[.pointer (some ⟨w.heap.size, 0, none⟩)]) ∧ w' = w.alloc (.cells #[.int .i64 p.x, .int .i64 p.y, .int .i64 p.z, .int .i64 p.l, .int .i64 p.w, .int .i64 p.h, .int .i64 p.m] 75) := by
  refine callsIn_of_wp Tryz.func107 rfl trivial ?_ rfl
  simp only [Tryz.ntmps107, List.size_toArray, List.length_cons, List.length_nil, Nat.reduceAdd, Nat.reduceSub, Array.replicate_succ, Array.replicate_zero, List.push_toArray, List.append_toArray, List.nil_append, List.cons_append]
  gi_wp2
  go_ret
  exact ⟨rfl, rfl⟩
theorem cnP_0 (p : Pce) : (cnP p).take 0 = [] := rfl
theorem cnP_1 (p : Pce) : (cnP p).take (0 + 1) = (cnP p).take 0 ++ [(p.x, p.y)] := rfl
theorem cnP_2 (p : Pce) : (cnP p).take (1 + 1) = (cnP p).take 1 ++ [(p.x + p.l, p.y)] := rfl
theorem cnP_3 (p : Pce) : (cnP p).take (2 + 1) = (cnP p).take 2 ++ [(p.x, p.y + p.w)] := rfl
theorem cnP_4 (p : Pce) : (cnP p).take (3 + 1) = (cnP p).take 3 ++ [(p.x + p.l, p.y + p.w)] := rfl
/-- The corners are not too far out. -/
def wdP (p : Pce) : Prop := (-16777216 ≤ p.x ∧ p.x ≤ 16777216) ∧ (-16777216 ≤ p.y ∧ p.y ≤ 16777216) ∧ (-16777216 ≤ p.x + p.l ∧ p.x + p.l ≤ 16777216) ∧ (-16777216 ≤ p.y + p.w ∧ p.y + p.w ≤ 16777216)
theorem wd_ok {p : Pce} (h : okPp p) : wdP p := by
  unfold okPp at h
  unfold wdP
  omega
set_option maxRecDepth 100000 in
set_option maxHeartbeats 8000000 in
theorem cn_stops (p : Pce) (hp : wdP p) (n : Nat) (hn : 3 ≤ n) (Bs : Nat) (w : World) (hb : Bx w Bs [.int .i64 p.x, .int .i64 p.y, .int .i64 p.z, .int .i64 p.l, .int .i64 p.w, .int .i64 p.h, .int .i64 p.m]) :
    SeqStopsK Fence.wide n Tryz.prog 138 #[.pointer (some ⟨Bs, 0, none⟩)] (fun q : Int × Int => #[pt q.1 q.2]) (KpB Bs) (fun ys => ys = cnP p) (fun _ => True) 4 w := by
  intro l J Jx W hW hJ hJx hY hJ0
  have hbW : KpB Bs w W := fun i v hv => by
    have hlt := World.block_lt_of_cell? _ _ hv
    exact (hW.cell (p := ⟨Bs, i, none⟩) hlt).trans hv
  have c0 := hbW 0 _ (hb 0 _ rfl).1
  have c1 := hbW 1 _ (hb 1 _ rfl).1
  have c3 := hbW 3 _ (hb 3 _ rfl).1
  have c4 := hbW 4 _ (hb 4 _ rfl).1
  unfold wdP at hp
  have s0 : IntKind.i64.wrap p.x = p.x := i64_small (by omega)
  have s1 : IntKind.i64.wrap p.y = p.y := i64_small (by omega)
  have s2 : IntKind.i64.wrap p.l = p.l := i64_small (by omega)
  have s3 : IntKind.i64.wrap p.w = p.w := i64_small (by omega)
  have s4 : IntKind.i64.wrap (p.x + p.l) = p.x + p.l := i64_small (by omega)
  have s5 : IntKind.i64.wrap (p.y + p.w) = p.y + p.w := i64_small (by omega)
  have s6 : IntKind.i64.wrap 0 = 0 := i64_small (by omega)
  have HY := hide hY
  have HJ0 := hide hJ0
  have HP0 := hide (cnP_0 p)
  have HP1 := hide (cnP_1 p)
  have HP2 := hide (cnP_2 p)
  have HP3 := hide (cnP_3 p)
  have HP4 := hide (cnP_4 p)
  have HPE := hide (show (cnP p).take 4 = cnP p from rfl)
  have HPL := hide (show ∀ k, k < 4 → ((cnP p).take k).length < 4 from fun k hk => by rw [List.length_take]; omega)
  generalize cnP p = L at *
  clear hb hbW hp hW hJ hJx hY hJ0
  have h1 : 1 ≤ n := by omega
  have h2 : 1 ≤ n - 1 := by omega
  refine callsIn_of_wp Tryz.func138 rfl trivial ?_ rfl
  simp only [Tryz.ntmps138, List.size_toArray, List.length_cons, List.length_nil, Nat.reduceAdd, Nat.reduceSub, Array.replicate_succ, Array.replicate_zero, List.push_toArray, List.append_toArray, List.nil_append, List.cons_append]
  gi_wp2
  gi_loopw [4] (fun s4 wr => ∃ k : Nat, k ≤ 4 ∧ s4 = .int .i64 k ∧ Hid (J (L.take k) wr) ∧ Hid (KpB Bs W wr)) (fun s4 _ => 4 - (intOf s4).toNat)
  case atStart => exact ⟨0, by omega, rfl, hide (by rw [unhide HP0]; exact unhide HJ0), hide (kpB_refl _ _)⟩
  case round =>
    clear HJ0
    obtain ⟨k, hk, rfl, HJs, HKp⟩ := hrel
    have d0 := unhide HKp 0 _ c0
    have d1 := unhide HKp 1 _ c1
    have d3 := unhide HKp 3 _ c3
    have d4 := unhide HKp 4 _ c4
    rcases (show k = 0 ∨ k = 1 ∨ k = 2 ∨ k = 3 ∨ k = 4 by omega) with rfl | rfl | rfl | rfl | rfl
    · obtain ⟨fn, tm, asg, bo, hy, hR⟩ := unhide HY _ (p.x, p.y) wr (unhide HJs) (unhide HPL 0 (by omega))
      have HR := hide hR
      dsimp only at hy
      clear hR HJs
      gi_wp2
      refine (unhide HR).mono ?_
      rintro e V2 hR
      obtain ⟨bv, rfl, h3⟩ := yield_casesP hR
      clear hR HR hy
      rcases h3 with ⟨rfl, hJ2, hk2⟩ | ⟨rfl, hJx2⟩
      · have HJ3 := hide (by rw [unhide HP1]; exact hJ2 : J (L.take (0 + 1)) V2)
        have HK3 := hide (kpB_trans (unhide HKp) hk2)
        clear hJ2 hk2 d0 d1 d3 d4 HKp
        gi_wp2
        go_roundw
        case rel => exact ⟨0 + 1, by omega, by first | rfl | trivial | go_num, HJ3, HK3⟩
        case measure => simp [intOf]
      · gi_wp2
        refine bodyPost_ret (results_none rfl _ _ _) rfl ?_
        exact ⟨⟨_, rfl⟩, .inr ⟨_, trivial, hJx2⟩⟩
    · obtain ⟨fn, tm, asg, bo, hy, hR⟩ := unhide HY _ (p.x + p.l, p.y) wr (unhide HJs) (unhide HPL 1 (by omega))
      have HR := hide hR
      dsimp only at hy
      clear hR HJs
      gi_wp2
      refine (unhide HR).mono ?_
      rintro e V2 hR
      obtain ⟨bv, rfl, h3⟩ := yield_casesP hR
      clear hR HR hy
      rcases h3 with ⟨rfl, hJ2, hk2⟩ | ⟨rfl, hJx2⟩
      · have HJ3 := hide (by rw [unhide HP2]; exact hJ2 : J (L.take (1 + 1)) V2)
        have HK3 := hide (kpB_trans (unhide HKp) hk2)
        clear hJ2 hk2 d0 d1 d3 d4 HKp
        gi_wp2
        go_roundw
        case rel => exact ⟨1 + 1, by omega, by first | rfl | trivial | go_num, HJ3, HK3⟩
        case measure => simp [intOf]
      · gi_wp2
        refine bodyPost_ret (results_none rfl _ _ _) rfl ?_
        exact ⟨⟨_, rfl⟩, .inr ⟨_, trivial, hJx2⟩⟩
    · obtain ⟨fn, tm, asg, bo, hy, hR⟩ := unhide HY _ (p.x, p.y + p.w) wr (unhide HJs) (unhide HPL 2 (by omega))
      have HR := hide hR
      dsimp only at hy
      clear hR HJs
      gi_wp2
      refine (unhide HR).mono ?_
      rintro e V2 hR
      obtain ⟨bv, rfl, h3⟩ := yield_casesP hR
      clear hR HR hy
      rcases h3 with ⟨rfl, hJ2, hk2⟩ | ⟨rfl, hJx2⟩
      · have HJ3 := hide (by rw [unhide HP3]; exact hJ2 : J (L.take (2 + 1)) V2)
        have HK3 := hide (kpB_trans (unhide HKp) hk2)
        clear hJ2 hk2 d0 d1 d3 d4 HKp
        gi_wp2
        go_roundw
        case rel => exact ⟨2 + 1, by omega, by first | rfl | trivial | go_num, HJ3, HK3⟩
        case measure => simp [intOf]
      · gi_wp2
        refine bodyPost_ret (results_none rfl _ _ _) rfl ?_
        exact ⟨⟨_, rfl⟩, .inr ⟨_, trivial, hJx2⟩⟩
    · obtain ⟨fn, tm, asg, bo, hy, hR⟩ := unhide HY _ (p.x + p.l, p.y + p.w) wr (unhide HJs) (unhide HPL 3 (by omega))
      have HR := hide hR
      dsimp only at hy
      clear hR HJs
      gi_wp2
      refine (unhide HR).mono ?_
      rintro e V2 hR
      obtain ⟨bv, rfl, h3⟩ := yield_casesP hR
      clear hR HR hy
      rcases h3 with ⟨rfl, hJ2, hk2⟩ | ⟨rfl, hJx2⟩
      · have HJ3 := hide (by rw [unhide HP4]; exact hJ2 : J (L.take (3 + 1)) V2)
        have HK3 := hide (kpB_trans (unhide HKp) hk2)
        clear hJ2 hk2 d0 d1 d3 d4 HKp
        gi_wp2
        go_roundw
        case rel => exact ⟨3 + 1, by omega, by first | rfl | trivial | go_num, HJ3, HK3⟩
        case measure => simp [intOf]
      · gi_wp2
        refine bodyPost_ret (results_none rfl _ _ _) rfl ?_
        exact ⟨⟨_, rfl⟩, .inr ⟨_, trivial, hJx2⟩⟩
    · gi_wp2
      go_end0
      exact ⟨⟨_, rfl⟩, .inl ⟨_, rfl, by rw [← unhide HPE]; exact unhide HJs⟩⟩
end Go.Proofs.YtdehnokcjnbjoaaGreat
namespace Go.Proofs.YtdehnokcjnbjoaaGreat
open Go.RowKit Go.Proofs.Gn Go.Shelf
attribute [local go_sem] Oper.semAt_some
set_option linter.unusedVariables false
/-- The corners of all pieces. -/
def cnA (ps : List Pce) : Pl := ps.flatMap cnP
theorem cnA_take {ps : List Pce} {k : Nat} (h : k < ps.length) : cnA (ps.take (k + 1)) = cnA (ps.take k) ++ cnP ps[k] := by
  unfold cnA; rw [List.take_succ_eq_append_getElem h, List.flatMap_append]; simp
theorem cnA_len : ∀ ps : List Pce, (cnA ps).length = 4 * ps.length
  | [] => by simp [cnA]
  | p :: ps => by
    have ih := cnA_len ps
    unfold cnA at ih ⊢
    rw [List.flatMap_cons, List.length_append, List.length_cons, ih]
    simp [cnP]; omega
theorem cnA_wd {ps : List Pce} (ho : ∀ p ∈ ps, wdP p) : okL (cnA ps) = true := by
  refine List.all_eq_true.2 fun q hq => ?_
  unfold cnA at hq
  obtain ⟨p, hp, h⟩ := List.mem_flatMap.1 hq
  have hk := ho p hp
  unfold wdP at hk
  unfold cnP at h
  simp at h
  rcases h with rfl | rfl | rfl | rfl <;> (unfold okp okc; simp only [Bool.and_eq_true, decide_eq_true_eq]; omega)
theorem wd_oks {ps : List Pce} (ho : okPs ps = true) : ∀ p ∈ ps, wdP p := fun p hp => wd_ok ((okP_iff _).1 (List.all_eq_true.1 (show ps.all okP = true from ho) p hp))
theorem cnA_ok {ps : List Pce} (ho : okPs ps = true) : okL (cnA ps) = true := cnA_wd (wd_oks ho)
/-- A block of cells that is read. -/
def Raw (W : World) (B : Nat) (cs : Array Value) (t : TypeId) : Prop := W.heap[B]? = some (.cells cs t (0, 0))
theorem raw_new (W : World) (cs : Array Value) (t : TypeId) : Raw (W.alloc (.cells cs t)) W.heap.size cs t := World.alloc_heap_new W _
theorem Raw.lt {W : World} {B : Nat} {cs : Array Value} {t : TypeId} (h : Raw W B cs t) : B < W.heap.size := (Array.getElem?_eq_some_iff.1 h).1
theorem Raw.kept {W W' : World} {row : Option Nat} {B : Nat} {cs : Array Value} {t : TypeId} (h : Raw W B cs t) (g : W.grownBy W' row) (hne : some B ≠ row) : Raw W' B cs t := (g.block B h.lt hne).trans h
theorem Raw.up {W W' : World} {B : Nat} {cs : Array Value} {t : TypeId} (h : Raw W B cs t) (u : Up W W') : Raw W' B cs t := (u.block B h.lt).trans h
theorem Raw.set {W : World} {B : Nat} {cs : Array Value} {t : TypeId} (h : Raw W B cs t) {p : Addr} (hp : p.block ≠ B) (u : Value) : Raw (W.setCell p u) B cs t := (Below.heap_setCell W p u B (fun e => hp e.symm)).trans h
theorem Raw.not_row {W : World} {B : Nat} {cs : Array Value} {t e : TypeId} (h : Raw W B cs t) (hte : t ≠ e) {base size k : Nat} {v : Value} {xs : List Value} (hr : W.ownsRow base e size v k xs) : some B ≠ v.ownBlock := by
  rcases hr.2 with ⟨rfl, _⟩ | ⟨g, cap, cur, rfl, _, hgb, _⟩
  · simp [Value.ownBlock]
  · intro e'
    obtain rfl : B = g := by simpa [Value.ownBlock] using e'
    have := (show W.heap[B]? = _ from h).symm.trans hgb
    simp at this
    exact hte this.2
theorem Raw.kpB {W W' : World} {B : Nat} {cs : Array Value} {t : TypeId} (h : Raw W B cs t) (h' : Raw W' B cs t) : KpB B W W' := fun i v hv =>
  (World.cell?_of_block (a := ⟨B, i, none⟩) ((show W'.heap[B]? = _ from h').trans (show W.heap[B]? = _ from h).symm)).trans hv
theorem Raw.own {β : Type} (C B : Nat) (cs : Array Value) (t : TypeId) : OwnFrom C (fun (_ : β) W => Raw W B cs t) := fun _ X _ row hs hg hr => hs.kept hg (fun e' => by
  obtain ⟨o, ho, hc⟩ := (hr B e'.symm).2
  rw [show X.heap[B]? = _ from hs] at ho; cases ho; cases hc)
theorem raw_bx {W : World} {B : Nat} {vs : List Value} {t : TypeId} (h : Raw W B vs.toArray t) : Bx W B vs := fun i v hi => by
  have e : W.heap[B]? = _ := h
  constructor
  · simp [World.cell?, e, hi]
  · simp [World.frozen?, e]
theorem own_cellsB {W : World} {base e size k : Nat} {v : Value} {xs : List Value} (h : W.ownsRow base e size v k xs) {r : Nat} (hr : v.ownBlock = some r) : ∃ o : Obj, W.heap[r]? = some o ∧ o.isCells = true := by
  rcases h.2 with ⟨rfl, _⟩ | ⟨g, cap, cur, rfl, _, hgb, _⟩
  · simp [Value.ownBlock] at hr
  · obtain rfl : g = r := by simpa [Value.ownBlock] using hr
    exact ⟨_, hgb, rfl⟩
abbrev pcC (p : Pce) : Array Value := #[.int .i64 p.x, .int .i64 p.y, .int .i64 p.z, .int .i64 p.l, .int .i64 p.w, .int .i64 p.h, .int .i64 p.m]
/-- What holds while the corners are collected. -/
structure OuI (w : World) (acc : Pl) (Ds : List Nat) (v : Value) (W : World) : Prop where
  bx : Boxed W w.heap.size 37 v
  ow : W.ownsRow w.heap.size 55 2 v acc.length (cellsPl acc)
  mar : MkAt w.heap.size Ds W
  up : Below w.heap.size w W
set_option maxRecDepth 100000 in
set_option maxHeartbeats 16000000 in
theorem p_outlineW (A : Option Addr) (ps : List Pce) (cap : Nat) (w : World) (h : Pcs w A ps) (ho : ∀ p ∈ ps, wdP p) (hn : ps.length ≤ 60) :
    Calls Tryz.prog 65 #[.slice A ps.length cap] w fun e w' => PlBack (if cnA ps = [] then 5 else 0) (hlL (cnA ps)) w e w' := by
  refine (callsIn_wide (n := 9)).1 ?_
  have HH := hide (fun (W : World) (hW : Up w W) A' c' (hp : Pts W A' (cnA ps)) => (show Calls Tryz.prog 108 #[.slice A' (cnA ps).length c'] W fun e w' => (∃ v, e = .returned (.tuple #[v, .int .i64 (if cnA ps = [] then 5 else 0)]) ∧ w'.ownsRow w.heap.size 55 2 v (hlL (cnA ps)).length (cellsPl (hlL (cnA ps)))) ∧ Up W w' from by
    by_cases e : cnA ps = []
    · rw [if_pos e, show hlL (cnA ps) = [] from if_pos e, e]
      exact (p_HullNone A' c' W).mono fun e w' ⟨he, hu⟩ => ⟨⟨_, he, World.ownsRow_nil _ _ _ _⟩, hu⟩
    · rw [if_neg e, show hlL (cnA ps) = Gx.hullF (cnA ps) from if_neg e]
      exact (p_Hull A' (cnA ps) c' W hp (List.length_pos_iff.2 e) (by rw [cnA_len]; omega) (cnA_wd ho)).mono fun e w' ⟨v, he, ho, hu⟩ => ⟨⟨v, he, ownLow ho hW.size⟩, hu⟩))
  have HT := hide (fun k (hk : k < ps.length) => cnA_take hk)
  have HE := hide (show cnA (ps.take ps.length) = cnA ps by rw [List.take_length])
  have HK := hide (fun k (hk : k < ps.length) => ho _ (List.getElem_mem hk))
  have HL := hide (fun k => (show (cnA (ps.take k)).length ≤ 4000 by rw [cnA_len]; have := List.length_take_le' k ps; omega))
  have HP := hide h
  have H0 := hide (show cnA (ps.take 0) = [] by simp [cnA])
  have HX : Hid (∀ W v (ho : W.ownsRow w.heap.size 55 2 v (cnA ps).length (cellsPl (cnA ps))), ∃ A' c', v = .slice A' (cnA ps).length c' ∧ Pts W A' (cnA ps)) := hide (fun W v ho => own_pts ho)
  generalize hR : hlL (cnA ps) = R at *
  generalize hq : (if cnA ps = [] then (5 : Int) else 0) = q at *
  obtain ⟨n, hnn⟩ : ∃ n, ps.length = n := ⟨_, rfl⟩
  have HNN := hide hnn
  rw [hnn] at hn HE ⊢
  have hmx : Tryz.prog.follows .mixedOrders = true := by kernel_rfl
  obtain ⟨i0, hi, hz0, hz1, hz2⟩ := info_parts info_pt
  have HI := hide hi
  have h1 : 1 ≤ 9 := by omega
  have rO : Fence.wide.round = none := rfl
  clear h ho hnn hi hR hq
  refine callsIn_of_wp_marks Tryz.func65 rfl trivial ?_ rfl
  simp only [Tryz.ntmps65, List.size_toArray, List.length_cons, List.length_nil, Nat.reduceAdd, Nat.reduceSub, Array.replicate_succ, Array.replicate_zero, List.push_toArray, List.append_toArray, List.nil_append, List.cons_append]
  gi_wp2
  have hI0 : OuI w [] [] (.slice none 0 0) (w.alloc (.cells #[.slice none 0 0] 37)) := ⟨Boxed.new w _ _, World.ownsRow_nil _ _ _ _, MkAt.nil _ _, up_alloc (up_refl w) _⟩
  generalize w.alloc (.cells #[.slice none 0 0] 37) = W0 at hI0 ⊢
  refine wpIn_loop (fun a' w' => ∃ (k : Nat) (x6 x7 x11 x12 x13 x14 x15 x16 x17 x18 x19 x20 x21 v : Value) (Ds : List Nat), k ≤ n ∧ a' = { tmps := #[.slice A n cap, undef, .slice none 0 0, .int .i64 0, .pointer (some ⟨w.heap.size, 0, none⟩), undef, x6, x7, .slice A n cap, .int .i64 n, .int .i64 k, x11, x12, x13, x14, x15, x16, x17, x18, x19, x20, x21, undef, undef, undef, undef], defers := Ds.map mkD } ∧ OuI w (cnA (ps.take k)) Ds v w') (fun a' _ => n - (intOf (a'.tmps.getD 10 undef)).toNat) ?_ ?_
  · exact ⟨0, undef, undef, undef, undef, undef, undef, undef, undef, undef, undef, undef, undef, undef, _, [], by omega, rfl, by rw [unhide H0]; exact hI0⟩
  rintro a' wr ⟨k, x6, x7, x11, x12, x13, x14, x15, x16, x17, x18, x19, x20, x21, v, Ds, hk, rfl, hI⟩
  clear hI0
  by_cases hlt : k < n
  · have hl : k < ps.length := by rw [unhide HNN]; exact hlt
    have hps := unhide HP
    obtain ⟨b, off, rfl, hc⟩ := hps.resolve_left (by intro e; rw [e] at hl; simp at hl)
    obtain ⟨a0, a1, a2, a3, a4, a5, a6⟩ := pceAt_up (hc k hl) hI.up
    have hst := unhide HT k hl
    have hp := unhide HK k hl
    have hL := unhide HL k
    generalize ps[k] = p at *
    have i0' : (0 : Int) ≤ (k : Int) := by omega
    have i1 : (k : Int) < (n : Int) := by omega
    have i3 : (k : Int).toNat = k := by omega
    have hwk : IntKind.i64.wrap ((k : Int) + 1) = (k : Int) + 1 := IntWalk.i64_in _ ⟨by omega, by omega⟩
    clear hps hc
    gi_wp2_with (refine ⟨trivial, ?_⟩; gi_at_call 107; (with_reducible refine CallsIn.mono (cn_make _ p _) ?_); rintro e w2 ⟨rfl, rfl⟩)
    have r6 := raw_new (wr.alloc (.cells (pcC p) 75)) (pcC p) 75
    have u3w : Up wr ((wr.alloc (.cells (pcC p) 75)).alloc (.cells (pcC p) 75)) := up_alloc (up_alloc (up_refl wr) _) _
    have hz3 : ((wr.alloc (.cells (pcC p) 75)).alloc (.cells (pcC p) 75)).heap.size = wr.heap.size + 2 := by simp
    have hI3 : OuI w (cnA (ps.take k)) Ds v ((wr.alloc (.cells (pcC p) 75)).alloc (.cells (pcC p) 75)) := ⟨(hI.bx.alloc _).alloc _, (hI.ow.alloc _).alloc _, hI.mar.up u3w, up_trans hI.up u3w⟩
    rw [World.size_alloc] at r6
    have hg4 : w.heap.size < wr.heap.size := hI.bx.lt
    obtain ⟨g6, hg6⟩ : ∃ g, wr.heap.size = g := ⟨_, rfl⟩
    rw [hg6] at r6 hz3 hg4 ⊢
    generalize (wr.alloc (.cells (pcC p) 75)).alloc (.cells (pcC p) 75) = W3 at *
    clear hI u3w a0 a1 a2 a3 a4 a5 a6
    obtain ⟨acc, hacc⟩ : ∃ l, cnA (ps.take k) = l := ⟨_, rfl⟩
    rw [hacc] at hst hL hI3
    have hDs : ∀ D ∈ Ds, D < W3.heap.size := fun D hD => hI3.mar.lt hD
    have hbp : Bx W3 (g6 + 1) [.int .i64 p.x, .int .i64 p.y, .int .i64 p.z, .int .i64 p.l, .int .i64 p.w, .int .i64 p.h, .int .i64 p.m] := raw_bx r6
    refine wpIn_rangeFunc_ownH rO h1 (gf := 138) (lb := #[.pointer (some ⟨g6 + 1, 0, none⟩)]) rfl trivial (enters_of Tryz.func138 (by kernel_rfl) rfl)
      (cn_stops p hp 8 (by omega) (g6 + 1) W3 hbp)
      kpB_trans (fun W l o o' _ h hc _ => kpB_put W l o o' h hc) (Below.refl _ _) (fun _ => rfl)
      (fun pre W => (∃ v, Boxed W w.heap.size 37 v ∧ W.ownsRow w.heap.size 55 2 v (acc.length + pre.length) (cellsPl (acc ++ pre)) ∧ True) ∧ MkAt w.heap.size Ds W ∧ Raw W (g6 + 1) (pcC p) 75 ∧ Below w.heap.size w W)
      (fun _ _ _ => False)
      (OwnFrom.and ((holdsRow_own w.heap.size w.heap.size 37 55 2 (fun pre : Pl => acc.length + pre.length) (fun pre => cellsPl (acc ++ pre)) (fun _ _ => True)).from _) (OwnFrom.and (MkAt.own hDs) (OwnFrom.and (Raw.own _ _ _ _) (ownFrom_below (Nat.le_refl _) (by omega)))))
      (fun c s A B row hs _ _ => hs)
      ⟨⟨_, hI3.bx, by rw [List.append_nil]; exact hI3.ow, trivial⟩, hI3.mar, r6, hI3.up⟩
      (fun x a' W => ∃ B7, (W.cell? ⟨B7, 0, none⟩ = some (.int .i64 x.1) ∧ W.cell? ⟨B7, 1, none⟩ = some (.int .i64 x.2)) ∧ a' = { tmps := #[.slice (some ⟨b, off, none⟩) n cap, undef, .slice none 0 0, .int .i64 0, .pointer (some ⟨w.heap.size, 0, none⟩), undef, .pointer (some ⟨g6, 0, none⟩), .pointer (some ⟨B7, 0, none⟩), .slice (some ⟨b, off, none⟩) n cap, .int .i64 n, .int .i64 k, .bool true, .pointer (some ⟨b, off + k * 7, none⟩), pcV p, pcV p, .func (.func 138) #[] #[.pointer (some ⟨g6 + 1, 0, none⟩)], pt x.1 x.2, x17, x18, x19, x20, x21, undef, undef, undef, undef], defers := [] })
      (fun x a' _ X Y row hs hg hr => by obtain ⟨B7, ⟨e1, e2⟩, e5⟩ := hs; exact ⟨B7, ⟨cell_kept e1 hg (fun r e => (hr r e).2), cell_kept e2 hg (fun r e => (hr r e).2)⟩, e5⟩)
      ?assign ?body ?done ?stop
    case assign =>
      rintro l pre x W K ⟨⟨v, hv, hown, _⟩, hm, hr, hB⟩ hK
      gi_wp2
      exact hK _ _ ((KeepsOthers.alloc _ _).from _) (kpB_up (up_alloc (up_refl W) _))
        ⟨⟨v, hv.alloc _, hown.alloc _, trivial⟩, hm.up (up_alloc (up_refl W) _), hr.up (up_alloc (up_refl W) _), up_alloc hB _⟩
        ⟨W.heap.size, ⟨by go_cell, by go_cell⟩, rfl⟩
    case body =>
      rintro l pre x a' W hl ⟨r, hr⟩ ⟨⟨v, hv, hown, _⟩, hm, hraw, hB⟩ ⟨B7, ⟨e1, e2⟩, rfl⟩ hlt
      obtain ⟨x1, x2⟩ := x
      dsimp only at e1 e2 ⊢
      have z1 := hv.cell
      have z2 := hv.frozen
      have HV := hide hv
      have HO := hide hown
      have HB := hide hB
      have HM := hide hm
      have HRw := hide hraw
      clear hv hown hB hm hraw
      gi_wp2_with (refine wpListIn_append_own _ rfl (.tmp 17) (.tmp 19) 37 rfl w.heap.size 55 i0 _ 2 16 Tryz.underlying37 (unhide HI) hz0 hz1 hz2 rfl (by decide) _ (acc.length + pre.length) (cellsPl (acc ++ pre)) rfl ((unhide HO).alloc _) ⟨W.heap.size, 0, none⟩ 1 1 [.int .i64 x1, .int .i64 x2] rfl rfl (two_new _ _ _ _) (by intro u hu; simp at hu; rcases hu with rfl | rfl <;> rfl) (by unfold maxLen; omega) (by omega) (by have := (unhide HB).size; simp; omega) ?_; intro v' w3 hown' hgrow _; have A := (unhide HV).appended (by decide) (unhide HO) (unhide HB).size (Nat.le_refl _) hown' hgrow; obtain ⟨g', cp', rfl⟩ := ownsRow_succ (k := acc.length + pre.length) (by rw [show acc.length + pre.length + 1 = acc.length + pre.length + 1 from rfl]; exact hown'); have z3 := A.1.cell; have z4 := A.1.frozen; have HA := hide A; have HG := hide hgrow; clear A hown' hgrow)
      obtain ⟨q1, a2, a3, a4, a5⟩ := unhide HA
      have uW := up_alloc (up_refl W) (.cells #[.int .i64 x1, .int .i64 x2] 55)
      have c2 := (((unhide HRw).up uW).kept (unhide HG) (((unhide HRw).up uW).not_row (by decide) ((unhide HO).alloc _))).set (p := ⟨w.heap.size, 0, none⟩) (by simp only; omega) (.slice (some ⟨g', 0, none⟩) (acc.length + pre.length + 1) cp')
      have c3 := (((unhide HM).up uW).grown (unhide HG) (fun r e hmem => by
        obtain ⟨o, ho, hoc⟩ := own_cellsB ((unhide HO).alloc (.cells #[.int .i64 x1, .int .i64 x2] 55)) e
        rw [((unhide HM).up uW).at_ r hmem] at ho
        cases ho
        cases hoc)).set (p := ⟨w.heap.size, 0, none⟩) q1.cell (.slice (some ⟨g', 0, none⟩) (acc.length + pre.length + 1) cp')
      refine ⟨a4.from _, (unhide HRw).kpB c2, ⟨⟨_, a2, ?_, trivial⟩, c3, c2, (unhide HB).trans a5⟩⟩
      rw [List.length_append, ← List.append_assoc, cellsPl_snoc]
      exact a3
    case done =>
      rintro D ys W hD rfl ⟨⟨v, hv, hown, _⟩, hm, _, hB⟩ hK
      have hDn : D ∉ Ds := fun hmem => by have := hDs D hmem; omega
      have hm2 := hm.cons hK (by omega) hDn
      have hI9 : OuI w (cnA (ps.take (k + 1))) (D :: Ds) v W := by
        refine ⟨hv, ?_, hm2, hB⟩
        rw [hst, List.length_append]
        exact hown
      have HI9 := hide hI9
      clear hv hown hm hB hm2 hI9
      gi_wp2
      refine ⟨⟨k + 1, _, _, _, _, _, _, _, _, _, _, _, _, _, v, D :: Ds, by omega, rfl, unhide HI9⟩, ?_⟩
      simp [intOf]
      omega
    case stop =>
      rintro D c pre W hD _ hf hK
      exact hf.elim
  · obtain rfl : k = n := by omega
    rw [unhide HE] at hI
    have z1 := hI.bx.cell
    obtain ⟨A', c', rfl, hpts⟩ := unhide HX wr v hI.ow
    have HI9 := hide hI
    have hu : Up w wr := hI.up
    have i1 : ¬ (k : Int) < (k : Int) := by omega
    clear hI
    gi_wp2_with (refine ⟨trivial, ?_⟩; gi_at_call 108; (with_reducible refine CallsIn.mono (callsIn_wide.2 (unhide HH _ hu A' c' hpts)) ?_); rintro e w2 ⟨⟨v2, rfl, ho⟩, hu2⟩; have HO := hide ho; clear ho)
    refine leaves_marks (fun W => W.ownsRow w.heap.size 55 2 v2 R.length (cellsPl R) ∧ Up w W) (B := w.heap.size) ?_ ?_ Ds w2 ((unhide HI9).mar.up hu2) ⟨unhide HO, up_trans hu hu2⟩
    · rintro W D hB ⟨h1', h2'⟩ hD
      exact ⟨ownsRow_putObj h1' _ hD rfl, h2'.trans (belowK_b (w := w) (Nat.le_refl _) W D _ _ hB hD rfl rfl)⟩
    · rintro W ⟨h1', h2'⟩
      refine ⟨.tuple #[v2, .int .i64 q], ?_, ⟨v2, rfl, h1'⟩, h2'⟩
      simp [results, Tryz.f65, go_sem]
theorem p_outline (A : Option Addr) (ps : List Pce) (cap : Nat) (w : World) (h : Pcs w A ps) (ho : okPs ps = true) (hn : ps.length ≤ 60) :
    Calls Tryz.prog 65 #[.slice A ps.length cap] w fun e w' => PlBack (if cnA ps = [] then 5 else 0) (hlL (cnA ps)) w e w' := p_outlineW A ps cap w h (wd_oks ho) hn
end Go.Proofs.YtdehnokcjnbjoaaGreat
namespace Go.Proofs.YtdehnokcjnbjoaaGreat
open Go.RowKit Go.Proofs.Gn
attribute [local go_sem] Oper.semAt_some
set_option linter.unusedVariables false
theorem cnL_all {ps : List Pce} (ho : okPs ps = true) : cnL (-1) ps = cnA ps := by
  unfold cnL cnA
  have : ∀ l : List Pce, (∀ p ∈ l, okP p = true) → (l.flatMap fun p => if -1 < p.z + p.h then cnP p else []) = l.flatMap cnP := by
    intro l
    induction l with
    | nil => intro _; rfl
    | cons p l ih =>
      intro h
      have hk := (okP_iff _).1 (h p (by simp))
      unfold okPp at hk
      rw [List.flatMap_cons, List.flatMap_cons, ih (fun q hq => h q (by simp [hq])), if_pos (by omega)]
  exact this ps (List.all_eq_true.1 (show ps.all okP = true from ho))
/-- The pieces that are higher than z. -/
def hiP (z : Int) (ps : List Pce) : List Pce := ps.filter fun p => decide (z < p.z + p.h)
theorem hiP_take (z : Int) {ps : List Pce} {k : Nat} (h : k < ps.length) : hiP z (ps.take (k + 1)) = hiP z (ps.take k) ++ (if z < ps[k].z + ps[k].h then [ps[k]] else []) := by
  unfold hiP
  rw [List.take_succ_eq_append_getElem h, List.filter_append]
  by_cases c : z < ps[k].z + ps[k].h
  · simp [c]
  · simp [c]
theorem hiP_cn (z : Int) : ∀ ps : List Pce, cnA (hiP z ps) = cnL z ps
  | [] => rfl
  | p :: ps => by
    have ih := hiP_cn z ps
    unfold hiP cnA cnL at ih ⊢
    rw [List.flatMap_cons, ← ih]
    by_cases c : z < p.z + p.h
    · rw [List.filter_cons_of_pos (by simpa using c), List.flatMap_cons, if_pos c]
    · rw [List.filter_cons_of_neg (by simpa using c), if_neg c]; rfl
theorem hiP_ok (z : Int) {ps : List Pce} (ho : okPs ps = true) : okPs (hiP z ps) = true :=
  List.all_eq_true.2 fun p hp => List.all_eq_true.1 (show ps.all okP = true from ho) p (List.mem_filter.1 hp).1
theorem hiP_len (z : Int) (ps : List Pce) : (hiP z ps).length ≤ ps.length := List.length_filter_le _ _
theorem cellsPc_snocA (l : List Pce) (p : Pce) : cellsPc (l ++ [p]) = cellsPc l ++ [.int .i64 p.x, .int .i64 p.y, .int .i64 p.z, .int .i64 p.l, .int .i64 p.w, .int .i64 p.h, .int .i64 p.m] := by simp [cellsPc]
set_option maxRecDepth 100000 in
set_option maxHeartbeats 8000000 in
theorem p_OutlineL (s : ByteArray) (A : Option Addr) (ps : List Pce) (cA : Nat) (B : Option Addr) (ys : List Eye) (cB : Nat) (f : Int) (w : World) (hA : Pcs w A ps) (hB : Eyes w B ys) (hn : ps.length ≤ 9223372036854775807) (hm : ys.length ≤ 9223372036854775807) :
    Calls Tryz.prog 20 #[loV s A ps.length cA B ys.length cB f] w fun e w' => PlBack (loE s ps ys f) (ouL (loE s ps ys f) (cnL (-1) ps)) w e w' := by
  have HC := hide (fun W (hW : Up w W) => p_CheckL s A ps cA B ys cB f W (pcs_up hA hW) (eyes_up hB hW) hn hm)
  by_cases hE : loE s ps ys f = 0
  · rw [hE] at HC ⊢
    have hok := (loE_ok hE).2.2.2.1
    have hlen := (loE_ok hE).1
    have hne : cnA ps ≠ [] := fun e => by have := cnA_len ps; rw [e] at this; simp at this; omega
    have HK := hide (fun W (hW : Up w W) => (p_outline A ps cA W (pcs_up hA hW) hok (by omega)).mono fun e w' hq => by
      rw [if_neg hne] at hq
      obtain ⟨⟨v, he, ho⟩, hu⟩ := hq
      exact (⟨⟨v, he, ownLow ho hW.size⟩, hu⟩ : (∃ v, e = Ending.returned (.tuple #[v, .int .i64 0]) ∧ w'.ownsRow w.heap.size 55 2 v (hlL (cnA ps)).length (cellsPl (hlL (cnA ps)))) ∧ Up W w'))
    show Calls Tryz.prog 20 _ w fun e w' => PlBack 0 (hlL (cnL (-1) ps)) w e w'
    rw [cnL_all hok]
    generalize hlL (cnA ps) = R at *
    generalize ps.length = n at *
    generalize ys.length = m at *
    clear hA hB hok hlen hE hn hm hne
    go_enter Tryz.func20, Tryz.ntmps20
    go_upto_region 1 with fail
    refine at_wpC (fun W0 hW0 => ?_)
    have U0 : Up w W0 := by rw [hW0]; exact (by repeat' (first | (with_reducible exact up_refl _) | (with_reducible assumption) | (with_reducible refine up_alloc ?_ _) | (with_reducible refine up_drewN ?_ _) | (with_reducible refine up_drew ?_) | (with_reducible refine up_set ?_ (by first | (simp; done) | (simp; omega) | omega) _) | (refine up_trans ?_ (by with_reducible assumption))))
    have bL : Bx W0 w.heap.size [.string s, .slice A n cA, .slice B m cB, .int .i64 f] := by rw [hW0]; exact bx_new w _ _
    clear hW0
    have c0 := (bL 0 _ rfl).1
    have c1 := (bL 1 _ rfl).1
    have c2 := (bL 2 _ rfl).1
    have c3 := (bL 3 _ rfl).1
    go_upto_region 4 with (go_at_call 16; (with_reducible refine (unhide HC _ U0).mono ?_); rintro e w1 ⟨rfl, v1⟩)
    have bL1 := bx_up bL v1
    have U1 := up_trans U0 v1
    clear c0 c1 c2 c3 bL v1 U0
    have c1 := (bL1 1 _ rfl).1
    go_wp2_with (go_at_call 65; (with_reducible refine (unhide HK _ U1).mono ?_); rintro e w2 ⟨⟨v, rfl, ho⟩, v2⟩; have HO := hide ho; clear ho)
    go_ret2
    exact ⟨⟨v, rfl, unhide HO⟩, up_trans U1 v2⟩
  · unfold ouL
    rw [if_neg hE]
    generalize loE s ps ys f = E at *
    have t0 : (E == 0) = false := by simp [hE]
    have t1 : (E != 0) = true := by simp [hE]
    generalize ps.length = n at *
    generalize ys.length = m at *
    clear hA hB hE hn hm
    go_enter Tryz.func20, Tryz.ntmps20
    go_upto_region 1 with fail
    refine at_wpC (fun W0 hW0 => ?_)
    have U0 : Up w W0 := by rw [hW0]; exact (by repeat' (first | (with_reducible exact up_refl _) | (with_reducible assumption) | (with_reducible refine up_alloc ?_ _) | (with_reducible refine up_drewN ?_ _) | (with_reducible refine up_drew ?_) | (with_reducible refine up_set ?_ (by first | (simp; done) | (simp; omega) | omega) _) | (refine up_trans ?_ (by with_reducible assumption))))
    have bL : Bx W0 w.heap.size [.string s, .slice A n cA, .slice B m cB, .int .i64 f] := by rw [hW0]; exact bx_new w _ _
    clear hW0
    have c0 := (bL 0 _ rfl).1
    have c1 := (bL 1 _ rfl).1
    have c2 := (bL 2 _ rfl).1
    have c3 := (bL 3 _ rfl).1
    go_wp2_with (go_at_call 16; (with_reducible refine (unhide HC _ U0).mono ?_); rintro e w1 ⟨rfl, v1⟩)
    go_ret2
    exact ⟨⟨_, rfl, World.ownsRow_nil _ _ _ _⟩, up_trans U0 v1⟩
set_option maxRecDepth 100000 in
set_option maxHeartbeats 8000000 in
theorem p_AboveL (s : ByteArray) (A : Option Addr) (ps : List Pce) (cA : Nat) (B : Option Addr) (ys : List Eye) (cB : Nat) (f z : Int) (w : World) (hA : Pcs w A ps) (hB : Eyes w B ys) (hn : ps.length ≤ 9223372036854775807) (hm : ys.length ≤ 9223372036854775807) :
    Calls Tryz.prog 22 #[loV s A ps.length cA B ys.length cB f, .int .i64 z] w fun e w' => PlBack (ouE (loE s ps ys f) (cnL z ps)) (ouL (loE s ps ys f) (cnL z ps)) w e w' := by
  have HC := hide (fun W (hW : Up w W) => p_CheckL s A ps cA B ys cB f W (pcs_up hA hW) (eyes_up hB hW) hn hm)
  by_cases hE : loE s ps ys f = 0
  · rw [hE] at HC ⊢
    have hok := (loE_ok hE).2.2.2.1
    have hlen := (loE_ok hE).1
    have HK := hide (fun W (hW : Up w W) A' c' (hp : Pcs W A' (hiP z ps)) => (p_outline A' (hiP z ps) c' W hp (hiP_ok z hok) (by have := hiP_len z ps; omega)).mono fun e w' hq => by
      rw [hiP_cn] at hq
      obtain ⟨⟨v, he, ho⟩, hu⟩ := hq
      exact (⟨⟨v, he, ownLow ho hW.size⟩, hu⟩ : (∃ v, e = Ending.returned (.tuple #[v, .int .i64 (if cnL z ps = [] then 5 else 0)]) ∧ w'.ownsRow w.heap.size 55 2 v (hlL (cnL z ps)).length (cellsPl (hlL (cnL z ps)))) ∧ Up W w'))
    show Calls Tryz.prog 22 _ w fun e w' => PlBack (if cnL z ps = [] then 5 else 0) (hlL (cnL z ps)) w e w'
    have HT := hide (fun k (hk : k < ps.length) => hiP_take z hk)
    have HE := hide (show hiP z (ps.take ps.length) = hiP z ps by rw [List.take_length])
    have HKp := hide (fun k (hk : k < ps.length) => (okP_iff _).1 (okPs_get hok hk))
    have HL := hide (fun k => (show (hiP z (ps.take k)).length ≤ 40 by have := hiP_len z (ps.take k); have := List.length_take_le' k ps; omega))
    have HP := hide hA
    have H0 := hide (show hiP z (ps.take 0) = [] by simp [hiP])
    have HX : Hid (∀ W b v (ho : W.ownsRow b 75 7 v (hiP z ps).length (cellsPc (hiP z ps))), ∃ A' c', v = .slice A' (hiP z ps).length c' ∧ Pcs W A' (hiP z ps)) := hide (fun W b v ho => own_pcs ho)
    generalize hlL (cnL z ps) = R at *
    generalize (if cnL z ps = [] then (5 : Int) else 0) = q at *
    obtain ⟨n, hnn⟩ : ∃ n, ps.length = n := ⟨_, rfl⟩
    have HNN := hide hnn
    rw [hnn] at hlen HE HC ⊢
    generalize ys.length = m at *
    obtain ⟨i0', hi, hz0, hz1, hz2⟩ := info_parts info_pc
    have HI := hide hi
    clear hA hB hok hE hn hm hnn hi
    go_enter Tryz.func22, Tryz.ntmps22
    go_upto_region 1 with fail
    refine at_wpC (fun W0 hW0 => ?_)
    have U0 : Up w W0 := by rw [hW0]; exact (by repeat' (first | (with_reducible exact up_refl _) | (with_reducible assumption) | (with_reducible refine up_alloc ?_ _) | (with_reducible refine up_drewN ?_ _) | (with_reducible refine up_drew ?_) | (with_reducible refine up_set ?_ (by first | (simp; done) | (simp; omega) | omega) _) | (refine up_trans ?_ (by with_reducible assumption))))
    have bL : Bx W0 w.heap.size [.string s, .slice A n cA, .slice B m cB, .int .i64 f] := by rw [hW0]; exact bx_new w _ _
    clear hW0
    have c0 := (bL 0 _ rfl).1
    have c1 := (bL 1 _ rfl).1
    have c2 := (bL 2 _ rfl).1
    have c3 := (bL 3 _ rfl).1
    go_upto_region 4 with (go_at_call 16; (with_reducible refine (unhide HC _ U0).mono ?_); rintro e w1 ⟨rfl, v1⟩)
    have bL1 := bx_up bL v1
    have U1 := up_trans U0 v1
    clear c0 c1 c2 c3 bL v1 U0
    have c1 := (bL1 1 _ rfl).1
    go_upto_region 6 with fail
    clear c1 bL1
    have ow0 : w1.ownsRow w1.heap.size 75 7 (.slice none 0 0) (hiP z (ps.take 0)).length (cellsPc (hiP z (ps.take 0))) := by rw [unhide H0]; exact World.ownsRow_nil _ _ _ _
    go_loopw [7, 18] (fun s7 s18 wr => ∃ (k : Nat) (G : Option Addr) (l c : Nat), k ≤ n ∧ s18 = .int .i64 k ∧ s7 = .slice G l c ∧ l = (hiP z (ps.take k)).length ∧ wr.ownsRow w1.heap.size 75 7 s7 l (cellsPc (hiP z (ps.take k))) ∧ Up w1 wr) (fun _ s18 _ => n - (intOf s18).toNat)
    case atStart => exact ⟨0, none, 0, 0, by omega, rfl, rfl, by rw [unhide H0]; rfl, by have := ow0; rw [unhide H0] at this ⊢; exact this, up_refl _⟩
    case round =>
      clear ow0 H0
      obtain ⟨k, G, l, c, hk, rfl, rfl, hl', ow, hu⟩ := hrel
      by_cases hlt : k < n
      · have hl : k < ps.length := by rw [unhide HNN]; exact hlt
        have hps := unhide HP
        obtain ⟨b, off, rfl, hc⟩ := hps.resolve_left (by intro e; rw [e] at hl; simp at hl)
        obtain ⟨a0, a1, a2, a3, a4, a5, a6⟩ := pceAt_up (hc k hl) (up_trans U1 hu)
        have hst := unhide HT k hl
        have hp := unhide HKp k hl
        have hL := unhide HL k
        unfold okPp at hp
        generalize ps[k] = p at *
        rw [← hl'] at hL
        have i0 : (0 : Int) ≤ (k : Int) := by omega
        have i1 : (k : Int) < (n : Int) := by omega
        have i3 : (k : Int).toNat = k := by omega
        have hwk : IntKind.i64.wrap ((k : Int) + 1) = (k : Int) + 1 := IntWalk.i64_in _ ⟨by omega, by omega⟩
        have s1 : IntKind.i64.wrap (p.z + p.h) = p.z + p.h := i64_small (by omega)
        clear hps hc hp
        go_upto_region 8 with fail
        refine at_wpC (fun W4 hW4 => ?_)
        have v4 : Up wr W4 := by rw [hW4]; exact (by repeat' (first | (with_reducible exact up_refl _) | (with_reducible assumption) | (with_reducible refine up_alloc ?_ _) | (with_reducible refine up_drewN ?_ _) | (with_reducible refine up_drew ?_) | (with_reducible refine up_set ?_ (by first | (simp; done) | (simp; omega) | omega) _) | (refine up_trans ?_ (by with_reducible assumption))))
        have b9 : Bx W4 wr.heap.size [.int .i64 p.x, .int .i64 p.y, .int .i64 p.z, .int .i64 p.l, .int .i64 p.w, .int .i64 p.h, .int .i64 p.m] := by rw [hW4]; exact bx_new wr _ _
        have ow4 := own_up ow v4
        have V4 := up_trans hu v4
        have hb4 : w1.heap.size ≤ W4.heap.size := V4.size
        clear hW4 v4 hu ow a0 a1 a2 a3 a4 a5 a6
        obtain ⟨g9, hg⟩ : ∃ g, wr.heap.size = g := ⟨_, rfl⟩
        rw [hg] at b9 ⊢
        clear hg
        have c0 := (b9 0 _ rfl).1
        have c1 := (b9 1 _ rfl).1
        have c2 := (b9 2 _ rfl).1
        have c3 := (b9 3 _ rfl).1
        have c4 := (b9 4 _ rfl).1
        have c5 := (b9 5 _ rfl).1
        have c6 := (b9 6 _ rfl).1
        by_cases hz : z < p.z + p.h
        · rw [if_pos hz] at hst
          have HST := hide hst
          have OW := hide ow4
          have HM := hide hl'
          have hlo : ∀ j, (Value.slice G l c).ownBlock = some j → w1.heap.size ≤ j := fun j e => (ow4.lt j e).1
          clear hst ow4 hl'
          go_wp2_with (at_builtin; refine wpList_append_own_at _ rfl _ _ 22 rfl w1.heap.size 75 i0' _ 7 56 Tryz.underlying22 (unhide HI) hz0 hz1 hz2 rfl (by decide) (.slice G l c) l (cellsPc (hiP z (ps.take k))) rfl ((unhide OW).alloc _) ⟨W4.heap.size, 0, none⟩ 1 1 [.int .i64 p.x, .int .i64 p.y, .int .i64 p.z, .int .i64 p.l, .int .i64 p.w, .int .i64 p.h, .int .i64 p.m] rfl rfl (news_pt W4 _ _) (by intro u hu; simp at hu; rcases hu with rfl | rfl | rfl | rfl | rfl | rfl | rfl <;> rfl) (by unfold maxLen; omega) (by omega) (by simp; omega) ?_; intro v5 W5 hown hgr _ hat)
          have V5 : Up w1 W5 := (up_alloc V4 _).grown hgr (up_alloc V4 _).size hlo
          obtain ⟨G5, c5', rfl⟩ : ∃ B5 c5, v5 = .slice B5 (l + 1) c5 := by
            rcases hown.2 with ⟨_, h2⟩ | ⟨g', c', cur, h1, _⟩
            · omega
            · exact ⟨_, _, h1⟩
          have HO := hide hown
          clear hgr hat hown OW
          go_roundw
          case rel => exact ⟨k + 1, G5, l + 1, c5', by omega, by go_num, rfl, by rw [unhide HST, List.length_append, ← unhide HM]; rfl, by rw [unhide HST, cellsPc_snocA]; exact unhide HO, V5⟩
          case measure => simp [intOf]; omega
        · rw [if_neg hz, List.append_nil] at hst
          have HST := hide hst
          have HO := hide ow4
          clear hst ow4
          go_wp2_with fail
          go_roundw
          case rel => exact ⟨k + 1, G, l, c, by omega, by go_num, rfl, by rw [unhide HST]; exact hl', by rw [unhide HST]; exact unhide HO, V4⟩
          case measure => simp [intOf]; omega
      · obtain rfl : k = n := by omega
        rw [unhide HE] at ow hl'
        have i1 : ¬ (k : Int) < (k : Int) := by omega
        rw [hl'] at ow
        obtain ⟨A', c', hv, hp9⟩ := unhide HX wr _ _ ow
        obtain ⟨rfl, rfl, rfl⟩ : G = A' ∧ l = (hiP z ps).length ∧ c = c' := by injection hv with a b c; exact ⟨a, hl', c⟩
        have U9 := up_trans U1 hu
        clear ow hl' hv
        go_wp2_with (go_at_call 65; (with_reducible refine (unhide HK _ U9 _ _ hp9).mono ?_); rintro e w2 ⟨⟨v, rfl, ho⟩, v2⟩; have HO := hide ho; clear ho)
        go_ret2
        exact ⟨⟨v, rfl, unhide HO⟩, up_trans U9 v2⟩
  · unfold ouL ouE
    rw [if_neg hE, if_neg hE]
    generalize loE s ps ys f = E at *
    have t0 : (E == 0) = false := by simp [hE]
    have t1 : (E != 0) = true := by simp [hE]
    generalize ps.length = n at *
    generalize ys.length = m at *
    clear hA hB hE hn hm
    go_enter Tryz.func22, Tryz.ntmps22
    go_upto_region 1 with fail
    refine at_wpC (fun W0 hW0 => ?_)
    have U0 : Up w W0 := by rw [hW0]; exact (by repeat' (first | (with_reducible exact up_refl _) | (with_reducible assumption) | (with_reducible refine up_alloc ?_ _) | (with_reducible refine up_drewN ?_ _) | (with_reducible refine up_drew ?_) | (with_reducible refine up_set ?_ (by first | (simp; done) | (simp; omega) | omega) _) | (refine up_trans ?_ (by with_reducible assumption))))
    have bL : Bx W0 w.heap.size [.string s, .slice A n cA, .slice B m cB, .int .i64 f] := by rw [hW0]; exact bx_new w _ _
    clear hW0
    have c0 := (bL 0 _ rfl).1
    have c1 := (bL 1 _ rfl).1
    have c2 := (bL 2 _ rfl).1
    have c3 := (bL 3 _ rfl).1
    go_wp2_with (go_at_call 16; (with_reducible refine (unhide HC _ U0).mono ?_); rintro e w1 ⟨rfl, v1⟩)
    go_ret2
    exact ⟨⟨_, rfl, World.ownsRow_nil _ _ _ _⟩, up_trans U0 v1⟩
end Go.Proofs.YtdehnokcjnbjoaaGreat
namespace Go.Proofs.YtdehnokcjnbjoaaGreat
open Go.RowKit Go.Proofs.Gn
set_option linter.unusedVariables false
theorem pcs_news {W : World} {b : Nat} {ps : List Pce} : ∀ {off : Nat} (h : ∀ k (hk : k < ps.length), PceAt W b (off + k * 7) ps[k]), ∀ j u, (cellsPc ps)[j]? = some u → W.cell? ⟨b, off + j, none⟩ = some u := by
  induction ps with
  | nil => intro off h j u hj; simp [cellsPc] at hj
  | cons p ps ih =>
    intro off h j u hj
    have e : cellsPc (p :: ps) = .int .i64 p.x :: .int .i64 p.y :: .int .i64 p.z :: .int .i64 p.l :: .int .i64 p.w :: .int .i64 p.h :: .int .i64 p.m :: cellsPc ps := rfl
    rw [e] at hj
    obtain ⟨a0, a1, a2, a3, a4, a5, a6⟩ := h 0 (by simp)
    match j, hj with
    | 0, hj => simp at hj; subst hj; simpa using a0
    | 1, hj => simp at hj; subst hj; simpa using a1
    | 2, hj => simp at hj; subst hj; simpa using a2
    | 3, hj => simp at hj; subst hj; simpa using a3
    | 4, hj => simp at hj; subst hj; simpa using a4
    | 5, hj => simp at hj; subst hj; simpa using a5
    | 6, hj => simp at hj; subst hj; simpa using a6
    | (j + 7), hj =>
      have q := ih (off := off + 7) (fun k hk => by
        have t := h (k + 1) (by simpa using hk)
        rw [show off + (k + 1) * 7 = off + 7 + k * 7 by omega] at t
        exact t) j u (by simpa using hj)
      rw [show off + (j + 7) = off + 7 + j by omega]
      exact q
theorem cellsPc_one {ps : List Pce} : ∀ u ∈ cellsPc ps, u.oneCell' = true := by
  intro u hu
  unfold cellsPc at hu
  obtain ⟨p, _, hp⟩ := List.mem_flatMap.1 hu
  simp at hp
  rcases hp with rfl | rfl | rfl | rfl | rfl | rfl | rfl <;> rfl
theorem addr_add (b o j : Nat) : (⟨b, o, none⟩ : Addr).add j = ⟨b, o + j, none⟩ := by
  unfold Addr.add
  split <;> simp_all
theorem cellsPc_append (a b : List Pce) : cellsPc (a ++ b) = cellsPc a ++ cellsPc b := by simp [cellsPc]
end Go.Proofs.YtdehnokcjnbjoaaGreat
namespace Go.Proofs.YtdehnokcjnbjoaaGreat
open Go.RowKit Go.Proofs.Gn
attribute [local go_sem] Oper.semAt_some
set_option linter.unusedVariables false
abbrev lo0V : Value := .agg #[.string { data := #[] }, .slice none 0 0, .slice none 0 0, .int .i64 0]
theorem p_checkC (P : Option Addr) (ps : List Pce) (cp : Nat) (w : World) (h : Pcs w P ps) (hn : ps.length ≤ 100) (E : Int) (hE : loE cgN ps [] 300 = E) :
    Calls Tryz.prog 16 #[loV cgN P ps.length cp none 0 0 300] w fun e w' => e = .returned (.int .i64 E) ∧ Up w w' := by
  have q := p_CheckL cgN P ps cp none [] 0 300 w h (.inl rfl) (by omega) (by simp)
  rw [hE] at q
  exact q
set_option maxRecDepth 100000 in
set_option maxHeartbeats 4000000 in
theorem p_resultOk (P : Option Addr) (ps : List Pce) (cp : Nat) (w : World) (h : Pcs w P ps) (hE : loE cgN ps [] 300 = 0) (hn : ps.length ≤ 100) :
    Calls Tryz.prog 99 #[loV cgN P ps.length cp none 0 0 300] w fun e w' => e = .returned (.tuple #[loV cgN P ps.length cp none 0 0 300, .int .i64 0]) ∧ Up w w' := by
  have HC := hide (fun W (hW : Up w W) => p_checkC P ps cp W (pcs_up h hW) hn 0 hE)
  clear h hE
  generalize ps.length = n at *
  go_enter Tryz.func99, Tryz.ntmps99
  go_upto_region 1 with fail
  refine at_wpC (fun W0 hW0 => ?_)
  have U0 : Up w W0 := by rw [hW0]; exact (by repeat' (first | (with_reducible exact up_refl _) | (with_reducible assumption) | (with_reducible refine up_alloc ?_ _) | (with_reducible refine up_drewN ?_ _) | (with_reducible refine up_drew ?_) | (with_reducible refine up_set ?_ (by first | (simp; done) | (simp; omega) | omega) _) | (refine up_trans ?_ (by with_reducible assumption))))
  have hz : W0.heap.size = w.heap.size + 2 := by rw [hW0]; simp
  obtain ⟨bA, bR⟩ : Bx W0 w.heap.size [.string cgN, .slice P n cp, .slice none 0 0, .int .i64 300] ∧ Bx W0 (w.heap.size + 1) [.string { data := #[] }, .slice none 0 0, .slice none 0 0, .int .i64 0] := by
    rw [hW0]
    refine ⟨bx_alloc (bx_new w _ _) _, ?_⟩
    have q := bx_new (w.alloc (.cells #[.string cgN, .slice P n cp, .slice none 0 0, .int .i64 300] 25)) [.string { data := #[] }, .slice none 0 0, .slice none 0 0, .int .i64 0] 25
    rw [World.size_alloc] at q
    exact q
  clear hW0
  have c0 := (bA 0 _ rfl).1
  have c1 := (bA 1 _ rfl).1
  have c2 := (bA 2 _ rfl).1
  have c3 := (bA 3 _ rfl).1
  go_upto_region 3 with (go_at_call 16; (with_reducible refine (unhide HC _ U0).mono ?_); rintro e w1 ⟨rfl, hb⟩)
  have bA1 := bx_up bA hb
  have bR1 := bx_up bR hb
  have U1 := up_trans U0 hb
  clear c0 c1 c2 c3 bA bR U0 hb HC
  have c0 := (bA1 0 _ rfl).1
  have c1 := (bA1 1 _ rfl).1
  have c2 := (bA1 2 _ rfl).1
  have c3 := (bA1 3 _ rfl).1
  have d0 := (bR1 0 _ rfl).1
  have d1 := (bR1 1 _ rfl).1
  have d2 := (bR1 2 _ rfl).1
  have d3 := (bR1 3 _ rfl).1
  have f0 := (bR1 0 _ rfl).2
  have f1 := (bR1 1 _ rfl).2
  have f2 := (bR1 2 _ rfl).2
  have f3 := (bR1 3 _ rfl).2
  go_wp2_with fail
  have B9 := bx_set (bx_set (bx_set (bx_set bR1 0 (.string cgN)) 1 (.slice P n cp)) 2 (.slice none 0 0)) 3 (.int .i64 300)
  have U9 : Up w ((((w1.setCell ⟨w.heap.size + 1, 0, none⟩ (.string cgN)).setCell ⟨w.heap.size + 1, 1, none⟩ (.slice P n cp)).setCell ⟨w.heap.size + 1, 2, none⟩ (.slice none 0 0)).setCell ⟨w.heap.size + 1, 3, none⟩ (.int .i64 300)) := up_set (up_set (up_set (up_set U1 (by simp only; omega) _) (by simp only; omega) _) (by simp only; omega) _) (by simp only; omega) _
  generalize (((w1.setCell ⟨w.heap.size + 1, 0, none⟩ (.string cgN)).setCell ⟨w.heap.size + 1, 1, none⟩ (.slice P n cp)).setCell ⟨w.heap.size + 1, 2, none⟩ (.slice none 0 0)).setCell ⟨w.heap.size + 1, 3, none⟩ (.int .i64 300) = W9 at *
  have z0 := (B9 0 _ rfl).1
  have z1 := (B9 1 _ rfl).1
  have z2 := (B9 2 _ rfl).1
  have z3 := (B9 3 _ rfl).1
  refine bodyPost_ret (v := .tuple #[loV cgN P n cp none 0 0 300, .int .i64 0]) (by simp [results, Tryz.f99, go_sem, z0, z1, z2, z3]) rfl ?_
  exact ⟨rfl, U9⟩
end Go.Proofs.YtdehnokcjnbjoaaGreat
namespace Go.Proofs.YtdehnokcjnbjoaaGreat
open Go.RowKit Go.Proofs.Gn
attribute [local go_sem] Oper.semAt_some
set_option linter.unusedVariables false
theorem nilPc (a : Addr) (n c : Nat) (w : World) : (binOp BinOp.eql 22 (.slice (some a) n c) (.slice none 0 0)).run Tryz.prog w = .ok (.bool false) w := by
  first | (kernel_rfl) | (simp [binOp, go_sem]; done) | (simp [binOp, Op.equalIn, run_underlying Tryz.underlying22, go_sem])
theorem nilEy (w : World) : (binOp BinOp.eql 23 (.slice none 0 0) (.slice none 0 0)).run Tryz.prog w = .ok (.bool true) w := by
  first | (kernel_rfl) | (simp [binOp, go_sem]; done) | (simp [binOp, Op.equalIn, run_underlying Tryz.underlying23, go_sem])
theorem bx_own7 {W : World} {base e n g cap : Nat} {ps : List Pce} (h : W.ownsRow base e 7 (.slice (some ⟨g, 0, none⟩) n cap) n (cellsPc ps)) : Bx W g (cellsPc ps) := fun j v hj => by
  have hl := h.1
  have hj2 : j < (cellsPc ps).length := (List.getElem?_eq_some_iff.1 hj).1
  exact ⟨(h.cellAt j (by omega)).trans hj, h.frozenAt j⟩
set_option maxRecDepth 100000 in
set_option maxHeartbeats 8000000 in
theorem p_ClonePc (A : Option Addr) (L : List Pce) (cap : Nat) (h0 : 0 < L.length) (hn : L.length ≤ 100) (w : World) (hp : Pcs w A L) :
    Calls Tryz.prog 134 #[.slice A L.length cap] w fun e w' => ∃ g c, e = .returned (.slice (some ⟨g, 0, none⟩) L.length c) ∧ Bx w' g (cellsPc L) ∧ w.heap.size ≤ g ∧ Up w w' := by
  rcases hp with hx | ⟨ba, off, rfl, hc⟩
  · rw [hx] at h0; simp at h0
  have HNW := hide (pcs_news (W := w.alloc (.cells #[] 75)) (b := ba) (ps := L) (off := off) fun k hk => pceAt_up (hc k hk) (up_alloc (up_refl w) _))
  clear hc
  obtain ⟨i1', hj, hy0, hy1, hy2⟩ := info_parts info_pc
  have HJ := hide hj
  clear hj
  have hls0 := cellsPc_len L
  obtain ⟨n, hN⟩ : ∃ n, L.length = n := ⟨_, rfl⟩
  rw [hN] at h0 hn hls0 ⊢
  clear hN
  have hnil := fun W => nilPc ⟨ba, off, none⟩ n cap W
  go_enter Tryz.func134, Tryz.ntmps134
  go_wp2_with (at_builtin; refine wpList_append_own _ rfl _ _ 22 rfl w.heap.size 75 i1' _ 7 56 Tryz.underlying22 (unhide HJ) hy0 hy1 hy2 rfl (by decide) (.slice (some ⟨w.heap.size, 0, none⟩) 0 0) 0 [] rfl (World.ownsRow_made w #[] 0 (Nat.le_refl _) (by unfold maxLen; omega) rfl) ⟨ba, off, none⟩ n cap (cellsPc L) rfl hls0 (fun j u hj => by rw [addr_add]; exact unhide HNW j u hj) cellsPc_one (by unfold maxLen; omega) (by omega) (by simp) ?_; intro vq W2 hown hgrow _)
  simp only [Nat.zero_add, List.nil_append] at hown
  rcases hown.2 with ⟨_, h00⟩ | ⟨g, cq, cur, rfl, hbg, hgg, _⟩
  · omega
  have U2 : Up w W2 := (up_alloc (up_refl w) _).grown hgrow (up_alloc (up_refl w) _).size (by intro j hj; simp [Value.ownBlock] at hj; omega)
  have Q2 := hide (bx_own7 hown)
  clear hown hgrow hgg HNW hls0
  go_wp2_with fail
  go_ret
  exact ⟨g, cq, rfl, unhide Q2, hbg, U2⟩
theorem p_CloneEy (w : World) :
    Calls Tryz.prog 135 #[.slice none 0 0] w fun e w' => e = .returned (.slice none 0 0) ∧ w = w' := by
  have hnil := fun W => nilEy W
  go_enter Tryz.func135, Tryz.ntmps135
  go_wp2
  go_ret
  exact ⟨rfl, rfl⟩
/-- What stays while a load is copied. -/
def CB (A : Option Addr) (n cp : Nat) (w wx : World) : Prop := Bx wx w.heap.size [.string cgN, .slice A n cp, .slice none 0 0, .int .i64 300] ∧ Bx wx (w.heap.size + 1) [.string { data := #[] }, .slice none 0 0, .slice none 0 0, .int .i64 0] ∧ Up w wx
theorem CB.ups {A : Option Addr} {n cp : Nat} {w wx wy : World} (h : CB A n cp w wx) (hu : Up wx wy) : CB A n cp w wy := ⟨bx_up h.1 hu, bx_up h.2.1 hu, up_trans h.2.2 hu⟩
theorem CB.cells {A : Option Addr} {n cp : Nat} {w wx : World} (h : CB A n cp w wx) : wx.cell? ⟨w.heap.size, 1, none⟩ = some (.slice A n cp) ∧ wx.cell? ⟨w.heap.size, 2, none⟩ = some (.slice none 0 0) ∧ CB A n cp w wx := ⟨(h.1 1 _ rfl).1, (h.1 2 _ rfl).1, h⟩
set_option maxRecDepth 100000 in
set_option maxHeartbeats 8000000 in
theorem p_cloneL (A : Option Addr) (L : List Pce) (cp : Nat) (w : World) (h : Pcs w A L) (h0 : 0 < L.length) (hn : L.length ≤ 100) :
    Calls Tryz.prog 98 #[loV cgN A L.length cp none 0 0 300] w fun e w' => (∃ g c, e = .returned (loV cgN (some ⟨g, 0, none⟩) L.length c none 0 0 300) ∧ Bx w' g (cellsPc L) ∧ w.heap.size ≤ g) ∧ Up w w' := by
  have HC := hide (fun W (hW : Up w W) => p_ClonePc A L cp h0 hn W (pcs_up h hW))
  have HE := hide (fun W => p_CloneEy W)
  generalize hq : cellsPc L = vs at *
  generalize L.length = n at *
  clear h hq
  go_enter Tryz.func98, Tryz.ntmps98
  go_upto_region 1 with fail
  refine at_wpC (fun W0 hW0 => ?_)
  have U0 : Up w W0 := by rw [hW0]; exact (by repeat' (first | (with_reducible exact up_refl _) | (with_reducible assumption) | (with_reducible refine up_alloc ?_ _) | (with_reducible refine up_drewN ?_ _) | (with_reducible refine up_drew ?_) | (with_reducible refine up_set ?_ (by first | (simp; done) | (simp; omega) | omega) _) | (refine up_trans ?_ (by with_reducible assumption))))
  have hz : W0.heap.size = w.heap.size + 2 := by rw [hW0]; simp
  obtain ⟨bA, bR⟩ : Bx W0 w.heap.size [.string cgN, .slice A n cp, .slice none 0 0, .int .i64 300] ∧ Bx W0 (w.heap.size + 1) [.string { data := #[] }, .slice none 0 0, .slice none 0 0, .int .i64 0] := by
    rw [hW0]
    refine ⟨bx_alloc (bx_new w _ _) _, ?_⟩
    have q := bx_new (w.alloc (.cells #[.string cgN, .slice A n cp, .slice none 0 0, .int .i64 300] 25)) [.string { data := #[] }, .slice none 0 0, .slice none 0 0, .int .i64 0] 25
    rw [World.size_alloc] at q
    exact q
  clear hW0
  have H0 : CB A n cp w W0 := ⟨bA, bR, U0⟩
  have c1 := (bA 1 _ rfl).1
  have c2 := (bA 2 _ rfl).1
  have f1 := (bA 1 _ rfl).2
  have f2 := (bA 2 _ rfl).2
  clear bA bR
  go_region_with (first
      | (go_at_call 134; (with_reducible refine (unhide HC _ (by repeat' (first | (with_reducible exact up_refl _) | (with_reducible assumption) | (with_reducible refine up_alloc ?_ _) | (with_reducible refine up_drewN ?_ _) | (with_reducible refine up_drew ?_) | (with_reducible refine up_set ?_ (by first | (simp; done) | (simp; omega) | omega) _) | (refine up_trans ?_ (by with_reducible assumption))))).mono ?_); rintro e w2 ⟨g, c, rfl, hg, hgz, hu2⟩; have d1 := up_cell hu2 c1; have d2 := up_cell hu2 c2; have e1 := up_frozen hu2 c1 f1; have e2 := up_frozen hu2 c2 f2)
      | (go_at_call 135; (with_reducible refine (unhide HE _).mono ?_); rintro e w3 ⟨rfl, rfl⟩))
  all_goals
    have hw2 : Up W0 w2 := up_trans (by repeat' (first | (with_reducible exact up_refl _) | (with_reducible assumption) | (with_reducible refine up_alloc ?_ _) | (with_reducible refine up_drewN ?_ _) | (with_reducible refine up_drew ?_) | (with_reducible refine up_set ?_ (by first | (simp; done) | (simp; omega) | omega) _) | (refine up_trans ?_ (by with_reducible assumption)))) hu2
    have hgg : w.heap.size + 2 ≤ g := by
      have := hgz
      first | (simp [hz] at this; omega) | omega
    have A9 := bx_set (bx_set (bx_up H0.1 hw2) 1 (.slice (some ⟨g, 0, none⟩) n c)) 2 (.slice none 0 0)
    have R9 := bx_far (bx_far (bx_up H0.2.1 hw2) (p := ⟨w.heap.size, 1, none⟩) (by simp only; omega) (.slice (some ⟨g, 0, none⟩) n c)) (p := ⟨w.heap.size, 2, none⟩) (by simp only; omega) (.slice none 0 0)
    have G9 := bx_far (bx_far hg (p := ⟨w.heap.size, 1, none⟩) (by simp only; omega) (.slice (some ⟨g, 0, none⟩) n c)) (p := ⟨w.heap.size, 2, none⟩) (by simp only; omega) (.slice none 0 0)
    have U9 := up_set (up_set (up_trans H0.2.2 hw2) (p := ⟨w.heap.size, 1, none⟩) (by simp only; omega) (.slice (some ⟨g, 0, none⟩) n c)) (p := ⟨w.heap.size, 2, none⟩) (by simp only; omega) (.slice none 0 0)
    generalize (w2.setCell ⟨w.heap.size, 1, none⟩ (.slice (some ⟨g, 0, none⟩) n c)).setCell ⟨w.heap.size, 2, none⟩ (.slice none 0 0) = W9 at A9 R9 G9 U9 ⊢
    clear hg hgz hu2 hw2 c1 c2 f1 f2 d1 d2 e1 e2 H0 HC HE hz U0
    have c0 := (A9 0 _ rfl).1
    have c1 := (A9 1 _ rfl).1
    have c2 := (A9 2 _ rfl).1
    have c3 := (A9 3 _ rfl).1
    have d0 := (R9 0 _ rfl).1
    have d1 := (R9 1 _ rfl).1
    have d2 := (R9 2 _ rfl).1
    have d3 := (R9 3 _ rfl).1
    have e0 := (R9 0 _ rfl).2
    have e1 := (R9 1 _ rfl).2
    have e2 := (R9 2 _ rfl).2
    have e3 := (R9 3 _ rfl).2
    go_wp2_with fail
    have B9 := bx_set (bx_set (bx_set (bx_set R9 0 (.string cgN)) 1 (.slice (some ⟨g, 0, none⟩) n c)) 2 (.slice none 0 0)) 3 (.int .i64 300)
    have V9 := up_set (up_set (up_set (up_set U9 (p := ⟨w.heap.size + 1, 0, none⟩) (by simp only; omega) (.string cgN)) (p := ⟨w.heap.size + 1, 1, none⟩) (by simp only; omega) (.slice (some ⟨g, 0, none⟩) n c)) (p := ⟨w.heap.size + 1, 2, none⟩) (by simp only; omega) (.slice none 0 0)) (p := ⟨w.heap.size + 1, 3, none⟩) (by simp only; omega) (.int .i64 300)
    have K9 := bx_far (bx_far (bx_far (bx_far G9 (p := ⟨w.heap.size + 1, 0, none⟩) (by simp only; omega) (.string cgN)) (p := ⟨w.heap.size + 1, 1, none⟩) (by simp only; omega) (.slice (some ⟨g, 0, none⟩) n c)) (p := ⟨w.heap.size + 1, 2, none⟩) (by simp only; omega) (.slice none 0 0)) (p := ⟨w.heap.size + 1, 3, none⟩) (by simp only; omega) (.int .i64 300)
    generalize (((W9.setCell ⟨w.heap.size + 1, 0, none⟩ (.string cgN)).setCell ⟨w.heap.size + 1, 1, none⟩ (.slice (some ⟨g, 0, none⟩) n c)).setCell ⟨w.heap.size + 1, 2, none⟩ (.slice none 0 0)).setCell ⟨w.heap.size + 1, 3, none⟩ (.int .i64 300) = WA at B9 V9 K9 ⊢
    have z0 := (B9 0 _ rfl).1
    have z1 := (B9 1 _ rfl).1
    have z2 := (B9 2 _ rfl).1
    have z3 := (B9 3 _ rfl).1
    refine bodyPost_ret (v := loV cgN (some ⟨g, 0, none⟩) n c none 0 0 300) (by simp [results, Tryz.f98, go_sem, z0, z1, z2, z3]) rfl ?_
    exact ⟨⟨g, c, rfl, K9, by omega⟩, V9⟩
end Go.Proofs.YtdehnokcjnbjoaaGreat
