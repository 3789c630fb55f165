/- The links of a vehicle: the iterator's contract. -/
import Derived.Test.YthifcalemhpmoaaGreatLkS
import Derived.RangeFuncNested
import Derived.RangeFuncLeaves
import Derived.Shelf.Abstract
import Derived.Shelf.RegionOpen
import Derived.OwnWalkIn
import Derived.TacticsInMore
import Derived.LoopNIn
import Derived.LoopIn
import Derived.Sort.CutIn
namespace Go.Proofs.YthifcalemhpmoaaGreat
open Go.RowKit Go.Proofs.Gn
attribute [local go_sem] Oper.semAt_some
set_option linter.unusedVariables false
theorem at_then {K : Act → World → Prop} {Q : Exit → Act → World → Prop} {e : Exit} {a : Act} {w : World} (h : ∀ W, W = w → Exit.then K Q e a W) : Exit.then K Q e a w := h w rfl
set_option maxRecDepth 100000 in
set_option maxHeartbeats 8000000 in
theorem lk_seq (p : Nat → Prop) (m : Nat) (Bc : Nat) (Au : Option Addr) (us : List Unt) (cu : Nat) (lx ly : Int) (Aa : Option Addr) (qs : Pl) (ca : Nat) (w : World) (hW : LkW Bc Au us cu lx ly Aa qs ca w) (hN : LkN p Bc Au Aa) (hp : ∀ k, p k → k < w.heap.size) (hu : ∀ u ∈ us, okU u = true) (hlen : us.length ≤ qs.length) (hn : us.length ≤ 9223372036854775807) (hq : qs.length ≤ 9223372036854775807) (n : Nat) (hn3 : 3 ≤ n) :
    SeqZ Fence.wide n Tryz.prog 131 #[.pointer (some ⟨Bc, 0, none⟩)] (fun x : Lk => #[.int .i64 x.k, linkV x]) (KpQ p m) (fun _ _ => True)
      (fun xs => xs = lkS 0 us lx ly qs) (fun xs => ∃ D, xs ++ D = lkS 0 us lx ly qs) w := by
  intro lp J Jx W hWu _ _ hJ hJx hJ0 hY
  have hsW := hWu.size
  have hWW : LkW Bc Au us cu lx ly Aa qs ca W := hW.kept (p := fun _ => False) ⟨id, fun _ _ _ => id, fun _ _ _ => id⟩ ((KC.refl _ w).below hWu)
  have HR := hide (fun k (h : k < us.length) (x : Lk) (hx : x.u = us[k]) (V : World) => (show _ from by
    have t := hu _ (List.getElem_mem h)
    rw [okU, Bool.and_eq_true] at t
    obtain ⟨t1, t2, t3, _⟩ := szU_ok t.1
    rw [← hx] at t1 t2 t3
    exact p_lrear x.u.kd x.u.le x.u.be x.u.fr x.u.re x.u.wi x.u.he x.u.ma x.u.st x.u.mo x.u.A x.u.xs.length x.u.cap x.jx x.jy x.ax x.ay V t1 t3 t2))
  have HSt := hide (fun k (h : k < us.length) (jx jy : Int) => lkS_drop (us := us) (qs := qs) h (by omega) jx jy)
  have hend : ∀ jx jy, lkS us.length (us.drop us.length) jx jy (qs.drop us.length) = [] := fun jx jy => by rw [List.drop_length]; rfl
  have HEnd := hide hend
  have HY := hide hY
  have HJ := hide hJ
  have HN := hide hN
  have HP := hide hp
  have HW0 := hide hWW
  have HJ0 := hide hJ0
  have cx := hWW.x
  have cy := hWW.y
  have cu1 := hWW.u
  obtain ⟨WL, hWL⟩ : ∃ WL, lkS 0 us lx ly qs = WL := ⟨_, rfl⟩
  have HWL := hide hWL
  rw [hWL]
  obtain ⟨N, hNN⟩ : ∃ N, us.length = N := ⟨_, rfl⟩
  have HNN := hide hNN
  rw [hNN] at hn hlen HEnd cu1
  obtain ⟨M, hMM⟩ : ∃ N, qs.length = N := ⟨_, rfl⟩
  have HMM := hide hMM
  rw [hMM] at hq hlen
  clear hW hWu hJ hJx hY hN hp hend hWW hJ0 hWL hNN hMM hu
  have hmx : Tryz.prog.follows .mixedOrders = true := by kernel_rfl
  have h1 : 1 ≤ n := by omega
  have h2 : 1 ≤ n - 1 := by omega
  have hpW : ¬ p W.heap.size := fun h => by have := unhide HP _ h; omega
  refine callsIn_of_wp Tryz.func131 rfl trivial ?_ rfl
  simp only [Tryz.ntmps131, List.size_toArray, List.length_cons, List.length_nil, Nat.reduceAdd, Nat.reduceSub, Array.replicate_succ, Array.replicate_zero, List.push_toArray, List.append_toArray, List.nil_append, List.cons_append]
  gi_upto_region 1 with fail
  refine at_wpIn (fun W1 hW1 => ?_)
  have U1 : Up W W1 := by rw [hW1]; exact (by repeat' (first | (with_reducible exact up_refl _) | (with_reducible assumption) | (with_reducible refine up_alloc ?_ _) | (with_reducible refine up_drewN ?_ _) | (with_reducible refine up_drew ?_) | (with_reducible refine up_set ?_ (by first | (simp; done) | (simp; omega) | omega) _) | (refine up_trans ?_ (by with_reducible assumption))))
  have hB1 : Bx W1 W.heap.size [.int .i64 lx, .int .i64 ly] := by rw [hW1]; exact bx_new W _ _
  have hz1 : W.heap.size < W1.heap.size := by rw [hW1]; simp
  have cu2 := up_cell U1 cu1
  have HK1 := hide ((KC.refl p W).below U1)
  have HJ1 := hide (unhide HJ [] _ _ (unhide HJ0) U1)
  clear hW1 cx cy cu1 HJ0 U1
  gi_wp2
  gi_loopw [15] (fun s15 wr => ∃ (k : Nat) (xs : List Lk) (jx jy : Int), k ≤ N ∧ s15 = .int .i64 k ∧ Hid (xs ++ lkS k (us.drop k) jx jy (qs.drop k) = WL) ∧ Hid (J xs wr) ∧ Hid (KC p W wr) ∧ Bx wr W.heap.size [.int .i64 jx, .int .i64 jy]) (fun s15 _ => N - (intOf s15).toNat)
  case atStart => exact ⟨0, [], lx, ly, by omega, rfl, hide (unhide HWL), HJ1, HK1, hB1⟩
  case round =>
    obtain ⟨k, xs, jx, jy, hk, rfl, HX, HJr, HKr, hB⟩ := hrel
    clear HJ1 HK1 hB1 hz1 cu2
    by_cases hlt : k < N
    · have hl : k < us.length := by rw [unhide HNN]; exact hlt
      have hlq : k < qs.length := by rw [unhide HMM]; omega
      have hst := unhide HSt k hl jx jy
      have hrr := fun V => unhide HR k hl ⟨k, us[k], jx, jy, qs[k].1, qs[k].2⟩ rfl V
      have hyy := fun V hJ => unhide HY xs ⟨k, us[k], jx, jy, qs[k].1, qs[k].2⟩ V hJ trivial
      have hxs := unhide HX
      rw [hst] at hxs
      have hWr := (unhide HW0).kept (unhide HN) (unhide HKr)
      have hsz : W.heap.size ≤ wr.heap.size := (unhide HKr).1
      rcases hWr.us with hnil | ⟨b, off, rfl, hcc⟩
      · rw [hnil] at hl; simp at hl
      rcases hWr.qs with hnil | ⟨bq, offq, rfl, hcq⟩
      · rw [hnil] at hlq; simp at hlq
      obtain ⟨k0, k1, k2, k3, k4, k5, k6, k7, k8, k9, k10⟩ := hcc k hl
      obtain ⟨q0, q1⟩ := hcq k hlq
      have ca6 := hWr.a
      rw [unhide HMM] at ca6
      generalize us[k] = u at *
      obtain ⟨kd, le, be, fr, re, wi, he, ma, st, mo, A, axs, cap⟩ := u
      generalize qs[k].1 = ax at *
      generalize qs[k].2 = ay at *
      dsimp only [linkV] at hrr hyy hxs k0 k1 k2 k3 k4 k5 k6 k7 k8 k9 k10
      obtain ⟨X, hX⟩ : ∃ X, (rrR le st be jx jy ax ay).1.1 = X := ⟨_, rfl⟩
      obtain ⟨Y, hY'⟩ : ∃ X, (rrR le st be jx jy ax ay).1.2 = X := ⟨_, rfl⟩
      obtain ⟨E, hE'⟩ : ∃ X, (rrR le st be jx jy ax ay).2 = X := ⟨_, rfl⟩
      rw [hX, hY', hE'] at hrr hxs
      clear hX hY' hE'
      have HRR := hide hrr
      have HYY := hide hyy
      have HXS := hide hxs
      clear hst hrr hyy hxs hcc hcq hWr HX
      obtain ⟨un, hun⟩ : ∃ un, axs.length = un := ⟨_, rfl⟩
      rw [hun] at k10
      have HUN := hide hun
      clear hun
      have hwk : IntKind.i64.wrap ((k : Int) + 1) = (k : Int) + 1 := IntWalk.i64_in _ ⟨by omega, by omega⟩
      have i0 : (0 : Int) ≤ (k : Int) := by omega
      have i1 : (k : Int) < (N : Int) := by omega
      have i2 : (k : Int).toNat = k := by omega
      have i3 : (k : Int) < (M : Int) := by omega
      gi_upto_region 4 with fail
      refine at_wpIn (fun W1 hW1 => ?_)
      have U1 : Up wr W1 := by rw [hW1]; exact (by repeat' (first | (with_reducible exact up_refl _) | (with_reducible assumption) | (with_reducible refine up_alloc ?_ _) | (with_reducible refine up_drewN ?_ _) | (with_reducible refine up_drew ?_) | (with_reducible refine up_set ?_ (by first | (simp; done) | (simp; omega) | omega) _) | (refine up_trans ?_ (by with_reducible assumption))))
      have BU : Bx W1 wr.heap.size [.int .i64 kd, .int .i64 le, .int .i64 be, .int .i64 fr, .int .i64 re, .int .i64 wi, .int .i64 he, .int .i64 ma, .int .i64 st, .int .i64 mo, .slice A un cap] := by rw [hW1]; exact bx_new wr _ _
      have B3 := bx_up hB U1
      have d0 := up_cell U1 q0
      have d1 := up_cell U1 q1
      have d2 := up_cell U1 ca6
      have hs1 : wr.heap.size < W1.heap.size := by rw [hW1]; simp
      have HK1 := hide ((unhide HKr).below (Below.mono U1 hsz))
      have HJ1 := hide (unhide HJ xs _ _ (unhide HJr) (Below.mono U1 hsz))
      clear hW1 U1 q0 q1 ca6 hB k0 k1 k2 k3 k4 k5 k6 k7 k8 k9 k10 HKr HJr
      obtain ⟨Bu, hBu⟩ : ∃ B, wr.heap.size = B := ⟨_, rfl⟩
      rw [hBu] at BU hs1 hsz ⊢
      clear hBu
      obtain ⟨v0, v1, v2, v3, v4, v5, v6, v7, v8, v9, v10⟩ := bx11 BU
      obtain ⟨j0, j1⟩ := bx2 B3
      have w0 := fun o => alloc_cell o v0
      have w1 := fun o => alloc_cell o v1
      have w2 := fun o => alloc_cell o v2
      have w3 := fun o => alloc_cell o v3
      have w4 := fun o => alloc_cell o v4
      have w5 := fun o => alloc_cell o v5
      have w6 := fun o => alloc_cell o v6
      have w7 := fun o => alloc_cell o v7
      have w8 := fun o => alloc_cell o v8
      have w9 := fun o => alloc_cell o v9
      have w10 := fun o => alloc_cell o v10
      have j0' := fun o => alloc_cell o j0
      have j1' := fun o => alloc_cell o j1
      have d0' := fun o => alloc_cell o d0
      have d1' := fun o => alloc_cell o d1
      have d2' := fun o => alloc_cell o d2
      gi_region_o
      simp only [Exit.then]
      apply ‹∀ (a : Act) (w : World), _ → _›
      refine at_wpIn (fun W2 hW2 => ?_)
      have U2 : Up W1 W2 := by rw [hW2]; exact (by repeat' (first | (with_reducible exact up_refl _) | (with_reducible assumption) | (with_reducible refine up_alloc ?_ _) | (with_reducible refine up_drewN ?_ _) | (with_reducible refine up_drew ?_) | (with_reducible refine up_set ?_ (by first | (simp; done) | (simp; omega) | omega) _) | (refine up_trans ?_ (by with_reducible assumption))))
      have B6 : Bx W2 W1.heap.size [.int .i64 kd, .int .i64 le, .int .i64 be, .int .i64 fr, .int .i64 re, .int .i64 wi, .int .i64 he, .int .i64 ma, .int .i64 st, .int .i64 mo, .slice A un cap, .int .i64 jx, .int .i64 jy, .int .i64 ax, .int .i64 ay] := by rw [hW2]; exact bx_drew (bx_new W1 _ _)
      have hs2 : W1.heap.size < W2.heap.size := by rw [hW2]; simp
      have B32 := bx_up B3 U2
      have h01 : W.heap.size < W1.heap.size := by omega
      have hK2 := (unhide HK1).below (Below.mono U2 (Nat.le_of_lt h01))
      have HK2 := hide hK2
      have hJ2 := unhide HJ xs _ _ (unhide HJ1) (Below.mono U2 (Nat.le_of_lt h01))
      have hp6 : ¬ p W1.heap.size := fun h => by have := unhide HP _ h; omega
      clear hW2 U2 HK1 HJ1 v0 v1 v2 v3 v4 v5 v6 v7 v8 v9 v10 w0 w1 w2 w3 w4 w5 w6 w7 w8 w9 w10 j0 j1 j0' j1' d0 d1 d2 d0' d1' d2' BU B3
      obtain ⟨Bl, hBl⟩ : ∃ B, W1.heap.size = B := ⟨_, rfl⟩
      rw [hBl] at B6 hs2 hp6 h01 ⊢
      clear hBl hs1
      obtain ⟨fn, tm, asg, bo, hy, hR⟩ := unhide HYY W2 hJ2
      rw [unhide HUN] at hy
      have HR2 := hide hR
      clear hR hJ2 hK2
      have HB6 := hide B6
      have v0 := (B6 0 _ rfl).1
      have v1 := (B6 1 _ rfl).1
      have v2 := (B6 2 _ rfl).1
      have v3 := (B6 3 _ rfl).1
      have v4 := (B6 4 _ rfl).1
      have v5 := (B6 5 _ rfl).1
      have v6 := (B6 6 _ rfl).1
      have v7 := (B6 7 _ rfl).1
      have v8 := (B6 8 _ rfl).1
      have v9 := (B6 9 _ rfl).1
      have v10 := (B6 10 _ rfl).1
      have v11 := (B6 11 _ rfl).1
      have v12 := (B6 12 _ rfl).1
      have v13 := (B6 13 _ rfl).1
      have v14 := (B6 14 _ rfl).1
      clear B6
      gi_wp2
      refine (unhide HR2).mono ?_
      rintro e V2 hR
      obtain ⟨bv, rfl, h3⟩ := yield_casesP hR
      clear hR HR2 hy
      rcases h3 with ⟨rfl, hJ3, hk3⟩ | ⟨rfl, hJx3, _⟩
      · have HJ3 := hide hJ3
        have HK3 := hide ((unhide HK2).kp hk3.1)
        have B63 := bx_kpP (unhide HB6) hk3.1 hp6
        have B33 := bx_kpP B32 hk3.1 hpW
        have hz2 : W.heap.size ≤ V2.heap.size := (unhide HK3).1
        clear hJ3 hk3 HB6 HK2 B32 v0 v1 v2 v3 v4 v5 v6 v7 v8 v9 v10 v11 v12 v13 v14
        have w0 := (B63 0 _ rfl).1
        have w1 := (B63 1 _ rfl).1
        have w2 := (B63 2 _ rfl).1
        have w3 := (B63 3 _ rfl).1
        have w4 := (B63 4 _ rfl).1
        have w5 := (B63 5 _ rfl).1
        have w6 := (B63 6 _ rfl).1
        have w7 := (B63 7 _ rfl).1
        have w8 := (B63 8 _ rfl).1
        have w9 := (B63 9 _ rfl).1
        have w10 := (B63 10 _ rfl).1
        have w11 := (B63 11 _ rfl).1
        have w12 := (B63 12 _ rfl).1
        have w13 := (B63 13 _ rfl).1
        have w14 := (B63 14 _ rfl).1
        rw [unhide HUN] at HRR
        clear B63
        by_cases hE : E = 0
        · obtain rfl := hE
          rw [if_pos rfl] at HXS
          gi_wp2_with ((try refine ⟨trivial, ?_⟩); gi_at_call 82; (with_reducible refine CallsIn.mono (callsIn_wide.2 (unhide HRR _)) ?_); rintro e V3 ⟨rfl, hu3⟩; have B34 := bx_up B33 hu3; have a0 := (B34 0 _ rfl).1; have f0 := (B34 0 _ rfl).2; have a1 := (B34 1 _ rfl).1; have f1 := (B34 1 _ rfl).2; have hb3 := Below.mono hu3 hz2)
          go_roundw
          case rel => exact ⟨k + 1, _, X, Y, by omega, by first | rfl | trivial | go_num, hide (by rw [List.append_assoc, List.singleton_append]; exact unhide HXS), hide (unhide HJ _ _ _ (unhide HJ3) (Below.setCell (Below.setCell hb3 (Nat.le_refl _) _) (Nat.le_refl _) _)), hide ((unhide HK3).below (Below.setCell (Below.setCell hb3 (Nat.le_refl _) _) (Nat.le_refl _) _)), bx_set (bx_set B34 0 _) 1 _⟩
          case measure => simp [intOf]; omega
        · rw [if_neg hE] at HXS
          have hE0 : (E == 0) = false := beq_eq_false_iff_ne.2 hE
          gi_wp2_with ((try refine ⟨trivial, ?_⟩); gi_at_call 82; (with_reducible refine CallsIn.mono (callsIn_wide.2 (unhide HRR _)) ?_); rintro e V3 ⟨rfl, hu3⟩; have B34 := bx_up B33 hu3; have a0 := (B34 0 _ rfl).1; have f0 := (B34 0 _ rfl).2; have a1 := (B34 1 _ rfl).1; have f1 := (B34 1 _ rfl).2; have hb3 := Below.mono hu3 hz2)
          refine bodyPost_ret (results_none rfl _ _ _) rfl ?_
          exact ⟨⟨_, rfl⟩, .inl ⟨_, unhide HXS, unhide HJ _ _ _ (unhide HJ3) (Below.setCell (Below.setCell hb3 (Nat.le_refl _) _) (Nat.le_refl _) _)⟩⟩
      · gi_wp2
        refine bodyPost_ret (results_none rfl _ _ _) rfl ?_
        exact ⟨⟨_, rfl⟩, .inr ⟨_, ⟨_, by rw [List.append_assoc, List.singleton_append]; exact unhide HXS⟩, hJx3⟩⟩
    · obtain rfl : k = N := by omega
      have hA := unhide HX
      rw [unhide HEnd, List.append_nil] at hA
      have HA := hide hA
      clear hA HX
      gi_wp2
      go_end0
      exact ⟨⟨_, rfl⟩, .inl ⟨_, unhide HA, unhide HJr⟩⟩
end Go.Proofs.YthifcalemhpmoaaGreat
