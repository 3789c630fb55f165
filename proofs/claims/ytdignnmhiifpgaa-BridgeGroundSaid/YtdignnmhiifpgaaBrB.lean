/- The breaks of a line, as the program yields them. -/
import Derived.Test.YtdignnmhiifpgaaBrL
import Derived.Test.YtdignnmhiifpgaaKp
import Derived.RangeFuncNested
import Derived.RangeFuncLeaves
import Derived.Shelf.Abstract
import Derived.Shelf.RegionOpen
import Derived.OwnWalkIn
import Derived.TacticsInMore
import Derived.LoopNIn
import Derived.LoopIn
import Derived.Sort.CutIn
namespace Go.Proofs.Ytdignnmhiifpgaa
open Go.RowKit Go.Proofs.Gn Go.Shelf
attribute [local go_sem] Oper.semAt_some
theorem ix6 (x0 x1 x2 : Int) (w : World) : (Instr.index 84 (.agg #[.int .i64 x0, .int .i64 x1, .int .i64 x2]) (.int .i64 0)).run Try.prog w = .ok (.int .i64 x0) w ∧ (Instr.index 84 (.agg #[.int .i64 x0, .int .i64 x1, .int .i64 x2]) (.int .i64 1)).run Try.prog w = .ok (.int .i64 x1) w ∧ (Instr.index 84 (.agg #[.int .i64 x0, .int .i64 x1, .int .i64 x2]) (.int .i64 2)).run Try.prog w = .ok (.int .i64 x2) w := by
  refine ⟨?_, ?_, ?_⟩ <;> kernel_rfl
/-- The breaks of one axle. -/
def brT (L : Ln) (t : Int × Int) : List Int := [L.org + L.c0 + t.1, L.org + L.c1 + t.1, L.org + L.c2 + t.1]
/-- The breaks of a train. -/
def brs (L : Ln) (ts : List (Int × Int)) : List Int := ts.flatMap (brT L)
theorem brs_take (L : Ln) {ts : List (Int × Int)} {k : Nat} (h : k < ts.length) : brs L (ts.take (k + 1)) = brs L (ts.take k) ++ brT L ts[k] := by
  unfold brs; rw [List.take_succ_eq_append_getElem h, List.flatMap_append]; simp
theorem brs_pre (L : Ln) (ts : List (Int × Int)) (k : Nat) : ∃ D, brs L (ts.take k) ++ D = brs L ts := ⟨brs L (ts.drop k), by unfold brs; rw [← List.flatMap_append, List.take_append_drop]⟩
/-- The corners are near. -/
def CoOk (L : Ln) : Prop := (-131072 ≤ L.c0 ∧ L.c0 ≤ 131072) ∧ (-131072 ≤ L.c1 ∧ L.c1 ≤ 131072) ∧ (-131072 ≤ L.c2 ∧ L.c2 ≤ 131072) ∧ (0 ≤ L.org ∧ L.org ≤ 1048576)
theorem br_make (n : Nat) (L : Ln) (A : Option Addr) (len cap : Nat) (w : World) :
    CallsIn Fence.wide n Try.prog 90 #[lnV L, .slice A len cap] w fun e w' => e = .returned (.func (.func 95) #[] #[.pointer (some ⟨w.heap.size + 1, 0, none⟩), .pointer (some ⟨w.heap.size, 0, none⟩)]) ∧ w' = (w.alloc (.cells (lnC L).toArray 87)).alloc (.cells #[.slice A len cap] 30) := by
  unfold lnV lnC
  refine callsIn_of_wp Try.func90 rfl trivial ?_ rfl
  simp only [Try.ntmps90, List.size_toArray, List.length_cons, List.length_nil, Nat.reduceAdd, Nat.reduceSub, Array.replicate_succ, Array.replicate_zero, List.push_toArray, List.append_toArray, List.nil_append, List.cons_append]
  gi_wp2
  go_ret
  exact ⟨rfl, rfl⟩
/-- Where the train and the line lie. -/
structure BrW (Bt Bl : Nat) (A : Option Addr) (cap : Nat) (L : Ln) (ts : List (Int × Int)) (V : World) : Prop where
  t : V.cell? ⟨Bt, 0, none⟩ = some (.slice A ts.length cap)
  l : Bx V Bl (lnC L)
  f : Frs V A ts
/-- None of these blocks is one of p. -/
structure BrN (p : Nat → Prop) (Bt Bl : Nat) (A : Option Addr) : Prop where
  t : ¬ p Bt
  l : ¬ p Bl
  a : ∀ b off, A = some ⟨b, off, none⟩ → ¬ p b
theorem frs_kpP {p : Nat → Prop} {V V' : World} {A : Option Addr} {ts : List (Int × Int)} (h : Frs V A ts) (k : KpP p V V') (ha : ∀ b off, A = some ⟨b, off, none⟩ → ¬ p b) : Frs V' A ts := by
  rcases h with h | ⟨b, off, rfl, hc⟩
  · exact .inl h
  · exact .inr ⟨b, off, rfl, fun i hi => ⟨kpP_cell k (ha b off rfl) (hc i hi).1, kpP_cell k (ha b off rfl) (hc i hi).2⟩⟩
theorem BrW.kept {p : Nat → Prop} {Bt Bl : Nat} {A : Option Addr} {cap : Nat} {L : Ln} {ts : List (Int × Int)} {V V' : World} (h : BrW Bt Bl A cap L ts V) (hn : BrN p Bt Bl A) (k : KpP p V V') : BrW Bt Bl A cap L ts V' :=
  ⟨kpP_cell k (a := ⟨Bt, 0, none⟩) hn.t h.t, bx_kpP h.l k hn.l, frs_kpP h.f k hn.a⟩
theorem BrW.up {Bt Bl : Nat} {A : Option Addr} {cap : Nat} {L : Ln} {ts : List (Int × Int)} {V V' : World} (h : BrW Bt Bl A cap L ts V) (u : Up V V') : BrW Bt Bl A cap L ts V' :=
  ⟨up_cell u h.t, bx_up h.l u, frs_up h.f u⟩
set_option maxRecDepth 100000 in
set_option maxHeartbeats 8000000 in
theorem br_seq (p : Nat → Prop) (m : Nat) (Bt Bl : Nat) (A : Option Addr) (cap : Nat) (L : Ln) (ts : List (Int × Int)) (w : World) (hW : BrW Bt Bl A cap L ts w) (hN : BrN p Bt Bl A) (hp : ∀ k, p k → k < w.heap.size) (ht : TrOk ts) (hc : CoOk L) (n : Nat) (hn3 : 3 ≤ n) :
    SeqY Fence.wide n Try.prog 95 #[.pointer (some ⟨Bt, 0, none⟩), .pointer (some ⟨Bl, 0, none⟩)] (fun s : Int => #[.int .i64 s]) (KpQ p m) (fun s _ => -6291456 ≤ s ∧ s ≤ 6291456)
      (fun xs => xs = brs L ts) (fun xs => ∃ D, xs ++ D = brs L ts) w := by
  intro lp J Jx W hWu _ _ hJ hJx hJ0 hY
  have hsW := hWu.size
  have hWW : BrW Bt Bl A cap L ts W := hW.up hWu
  have HT := hide (fun k (h : k < ts.length) => (⟨(ht.2 k h).1, brs_take L h⟩ : _ ∧ _))
  have h64 := ht.1
  have HPre := hide (brs_pre L ts)
  have hall : brs L (ts.take ts.length) = brs L ts := by rw [List.take_length]
  have HAll := hide hall
  have HY := hide hY
  have HJ := hide hJ
  have HN := hide hN
  have HP := hide hp
  have HW0 := hide hWW
  obtain ⟨⟨x0, x1⟩, ⟨x2, x3⟩, ⟨x4, x5⟩, x6, x7⟩ := hc
  have hbT : ∀ t : Int × Int, brT L t = [L.org + L.c0 + t.1, L.org + L.c1 + t.1, L.org + L.c2 + t.1] := fun t => rfl
  have HbT := hide hbT
  have hb0 : brs L [] = [] := rfl
  have ix := fun w => ix6 L.c0 L.c1 L.c2 w
  obtain ⟨e0, he0⟩ : ∃ e, L.c0 = e := ⟨_, rfl⟩
  obtain ⟨e1, he1⟩ : ∃ e, L.c1 = e := ⟨_, rfl⟩
  obtain ⟨e2, he2⟩ : ∃ e, L.c2 = e := ⟨_, rfl⟩
  obtain ⟨o, ho⟩ : ∃ e, L.org = e := ⟨_, rfl⟩
  have HL := hide (⟨he0, he1, he2, ho⟩ : L.c0 = e0 ∧ L.c1 = e1 ∧ L.c2 = e2 ∧ L.org = o)
  rw [he0] at x0 x1 ix HbT
  rw [he1] at x2 x3 ix HbT
  rw [he2] at x4 x5 ix HbT
  rw [ho] at x6 x7 HbT
  have ix0 := fun w => (ix w).1
  have ix1 := fun w => (ix w).2.1
  have ix2 := fun w => (ix w).2.2
  have HJ0 := hide hJ0
  clear hW hWu hJ hJx hY hN hp ht hall hWW hbT ix he0 he1 he2 ho hJ0
  obtain ⟨N, hNN⟩ : ∃ N, ts.length = N := ⟨_, rfl⟩
  have HNN := hide hNN
  rw [hNN] at h64 HAll
  clear hNN
  have hmx : Try.prog.follows .mixedOrders = true := by kernel_rfl
  have h1 : 1 ≤ n := by omega
  have h2 : 1 ≤ n - 1 := by omega
  have c0 : W.cell? ⟨Bt, 0, none⟩ = some (.slice A N cap) := by have t := (unhide HW0).t; rwa [unhide HNN] at t
  refine callsIn_of_wp Try.func95 rfl trivial ?_ rfl
  simp only [Try.ntmps95, List.size_toArray, List.length_cons, List.length_nil, Nat.reduceAdd, Nat.reduceSub, Array.replicate_succ, Array.replicate_zero, List.push_toArray, List.append_toArray, List.nil_append, List.cons_append]
  gi_wp2
  gi_loopw [10] (fun s10 wr => ∃ k : Nat, k ≤ N ∧ s10 = .int .i64 k ∧ Hid (J (brs L (ts.take k)) wr) ∧ Hid (BrW Bt Bl A cap L ts wr) ∧ w.heap.size ≤ wr.heap.size) (fun s10 _ => N - (intOf s10).toNat)
  case atStart => exact ⟨0, by omega, rfl, hide (by rw [List.take_zero, hb0]; exact unhide HJ0), HW0, hsW⟩
  case round =>
    obtain ⟨k, hk, rfl, HJs, HWr, hsr⟩ := hrel
    clear HJ0 HW0 c0
    by_cases hlt : k < N
    · have hl : k < ts.length := by rw [unhide HNN]; exact hlt
      obtain ⟨hx, hst⟩ := unhide HT k hl
      rcases (unhide HWr).f with hnil | ⟨b, off, rfl, hcc⟩
      · rw [hnil] at hl; simp at hl
      obtain ⟨k0, k1⟩ := hcc k hl
      rw [unhide HbT] at hst
      generalize ts[k].1 = x at *
      generalize ts[k].2 = p2 at *
      have HST := hide hst
      have hwk : IntKind.i64.wrap ((k : Int) + 1) = (k : Int) + 1 := IntWalk.i64_in _ ⟨by omega, by omega⟩
      have i0 : (0 : Int) ≤ (k : Int) := by omega
      have i1 : (k : Int) < (N : Int) := by omega
      clear hst hcc
      gi_upto_region 3 with fail
      refine at_wpIn (fun W1 hW1 => ?_)
      have U1 : Up wr W1 := by rw [hW1]; exact (by repeat' (first | (with_reducible exact up_refl _) | (with_reducible assumption) | (with_reducible refine up_alloc ?_ _) | (with_reducible refine up_drewN ?_ _) | (with_reducible refine up_drew ?_) | (with_reducible refine up_set ?_ (by first | (simp; done) | (simp; omega) | omega) _) | (refine up_trans ?_ (by with_reducible assumption))))
      have BF : Bx W1 wr.heap.size [.int .i64 x, .int .i64 p2] := by rw [hW1]; exact bx_new wr _ _
      have HW1 := hide ((unhide HWr).up U1)
      have HJ1 := hide (unhide HJ _ _ _ _ (unhide HJs) (up_grP U1) (fun r e => by cases e))
      have hs1 : w.heap.size ≤ W1.heap.size := Nat.le_trans hsr U1.size
      have hBf : Hid (¬ p wr.heap.size) := hide (fun h => by have := unhide HP _ h; omega)
      clear hW1 U1 k0 k1 HWr HJs
      obtain ⟨Bf, hBfe⟩ : ∃ B, wr.heap.size = B := ⟨_, rfl⟩
      rw [hBfe] at BF hBf ⊢
      clear hBfe hsr
      obtain ⟨wo, hwo⟩ : ∃ wo, wo = W1 := ⟨_, rfl⟩
      rw [← hwo] at BF HW1 HJ1 hs1 ⊢
      clear hwo
      obtain ⟨m0, m1, m2⟩ : wo.cell? ⟨Bl, 3, none⟩ = some (.int .i64 e0) ∧ wo.cell? ⟨Bl, 4, none⟩ = some (.int .i64 e1) ∧ wo.cell? ⟨Bl, 5, none⟩ = some (.int .i64 e2) := by
        have t := (unhide HW1).l
        exact ⟨by rw [← (unhide HL).1]; exact (t 3 _ rfl).1, by rw [← (unhide HL).2.1]; exact (t 4 _ rfl).1, by rw [← (unhide HL).2.2.1]; exact (t 5 _ rfl).1⟩
      gi_wp2
      clear m0 m1 m2
      gi_loopw [16] (fun s16 wr => ∃ j : Nat, j ≤ 3 ∧ s16 = .int .i64 j ∧ Hid (J (brs L (ts.take k) ++ [o + e0 + x, o + e1 + x, o + e2 + x].take j) wr) ∧ Hid (BrW Bt Bl (some ⟨b, off, none⟩) cap L ts wr) ∧ Hid (Bx wr Bf [.int .i64 x, .int .i64 p2]) ∧ w.heap.size ≤ wr.heap.size) (fun s16 _ => 3 - (intOf s16).toNat)
      case atStart => exact ⟨0, by omega, rfl, hide (by rw [List.take_zero, List.append_nil]; exact unhide HJ1), HW1, hide BF, hs1⟩
      case round =>
        obtain ⟨j, hj, rfl, HJ2, HW2, HB2, hs2⟩ := hrel
        clear HJ1 HW1 BF hs1
        by_cases hjl : j < 3
        · rcases (show j = 0 ∨ j = 1 ∨ j = 2 by omega) with rfl | rfl | rfl
          · have org := ((unhide HW2).l 2 _ rfl).1
            rw [(unhide HL).2.2.2] at org
            have fx := (bx2 (unhide HB2)).1
            have q1 : IntKind.i64.wrap (o + e0) = o + e0 := IntWalk.i64_in _ ⟨by omega, by omega⟩
            have q2 : IntKind.i64.wrap (o + e0 + x) = o + e0 + x := IntWalk.i64_in _ ⟨by omega, by omega⟩
            obtain ⟨fn, tm, asg, bo, hy, hR⟩ := unhide HY _ (o + e0 + x) wr (unhide HJ2) ⟨by omega, by omega⟩
            have HR := hide hR
            clear hR HJ2
            gi_wp2
            refine (unhide HR).mono ?_
            rintro e V2 hR
            obtain ⟨bv, rfl, h3⟩ := yield_casesP hR
            clear hR HR hy
            rcases h3 with ⟨rfl, hJ2, hk2⟩ | ⟨rfl, hJx2, _⟩
            · have HJ3 := hide hJ2
              have HW3 := hide ((unhide HW2).kept (unhide HN) hk2.1)
              have HB3 := hide (bx_kpP (unhide HB2) hk2.1 (unhide hBf))
              have hs3 : w.heap.size ≤ V2.heap.size := Nat.le_trans hs2 hk2.1.1
              clear hJ2 hk2 org fx HW2 HB2
              gi_wp2
              go_roundw
              case rel => exact ⟨0 + 1, by omega, by first | rfl | trivial | go_num, hide (by have t := unhide HJ3; simpa using t), HW3, HB3, hs3⟩
              case measure => simp [intOf]
            · gi_wp2
              refine bodyPost_ret (results_none rfl _ _ _) rfl ?_
              obtain ⟨D, hD⟩ := unhide HPre (k + 1)
              rw [unhide HST] at hD
              exact ⟨⟨_, rfl⟩, .inr ⟨_, ⟨[o + e1 + x, o + e2 + x] ++ D, by rw [← hD]; simp⟩, hJx2⟩⟩
          · have org := ((unhide HW2).l 2 _ rfl).1
            rw [(unhide HL).2.2.2] at org
            have fx := (bx2 (unhide HB2)).1
            have q1 : IntKind.i64.wrap (o + e1) = o + e1 := IntWalk.i64_in _ ⟨by omega, by omega⟩
            have q2 : IntKind.i64.wrap (o + e1 + x) = o + e1 + x := IntWalk.i64_in _ ⟨by omega, by omega⟩
            obtain ⟨fn, tm, asg, bo, hy, hR⟩ := unhide HY _ (o + e1 + x) wr (unhide HJ2) ⟨by omega, by omega⟩
            have HR := hide hR
            clear hR HJ2
            gi_wp2
            refine (unhide HR).mono ?_
            rintro e V2 hR
            obtain ⟨bv, rfl, h3⟩ := yield_casesP hR
            clear hR HR hy
            rcases h3 with ⟨rfl, hJ2, hk2⟩ | ⟨rfl, hJx2, _⟩
            · have HJ3 := hide hJ2
              have HW3 := hide ((unhide HW2).kept (unhide HN) hk2.1)
              have HB3 := hide (bx_kpP (unhide HB2) hk2.1 (unhide hBf))
              have hs3 : w.heap.size ≤ V2.heap.size := Nat.le_trans hs2 hk2.1.1
              clear hJ2 hk2 org fx HW2 HB2
              gi_wp2
              go_roundw
              case rel => exact ⟨1 + 1, by omega, by first | rfl | trivial | go_num, hide (by have t := unhide HJ3; simpa using t), HW3, HB3, hs3⟩
              case measure => simp [intOf]
            · gi_wp2
              refine bodyPost_ret (results_none rfl _ _ _) rfl ?_
              obtain ⟨D, hD⟩ := unhide HPre (k + 1)
              rw [unhide HST] at hD
              exact ⟨⟨_, rfl⟩, .inr ⟨_, ⟨[o + e2 + x] ++ D, by rw [← hD]; simp⟩, hJx2⟩⟩
          · have org := ((unhide HW2).l 2 _ rfl).1
            rw [(unhide HL).2.2.2] at org
            have fx := (bx2 (unhide HB2)).1
            have q1 : IntKind.i64.wrap (o + e2) = o + e2 := IntWalk.i64_in _ ⟨by omega, by omega⟩
            have q2 : IntKind.i64.wrap (o + e2 + x) = o + e2 + x := IntWalk.i64_in _ ⟨by omega, by omega⟩
            obtain ⟨fn, tm, asg, bo, hy, hR⟩ := unhide HY _ (o + e2 + x) wr (unhide HJ2) ⟨by omega, by omega⟩
            have HR := hide hR
            clear hR HJ2
            gi_wp2
            refine (unhide HR).mono ?_
            rintro e V2 hR
            obtain ⟨bv, rfl, h3⟩ := yield_casesP hR
            clear hR HR hy
            rcases h3 with ⟨rfl, hJ2, hk2⟩ | ⟨rfl, hJx2, _⟩
            · have HJ3 := hide hJ2
              have HW3 := hide ((unhide HW2).kept (unhide HN) hk2.1)
              have HB3 := hide (bx_kpP (unhide HB2) hk2.1 (unhide hBf))
              have hs3 : w.heap.size ≤ V2.heap.size := Nat.le_trans hs2 hk2.1.1
              clear hJ2 hk2 org fx HW2 HB2
              gi_wp2
              go_roundw
              case rel => exact ⟨2 + 1, by omega, by first | rfl | trivial | go_num, hide (by have t := unhide HJ3; simpa using t), HW3, HB3, hs3⟩
              case measure => simp [intOf]
            · gi_wp2
              refine bodyPost_ret (results_none rfl _ _ _) rfl ?_
              obtain ⟨D, hD⟩ := unhide HPre (k + 1)
              rw [unhide HST] at hD
              exact ⟨⟨_, rfl⟩, .inr ⟨_, ⟨[] ++ D, by rw [← hD]; simp⟩, hJx2⟩⟩
        · obtain rfl : j = 3 := by omega
          have hJe : J (brs L (ts.take (k + 1))) wr := by rw [unhide HST]; exact unhide HJ2
          have HJe := hide hJe
          clear hJe HJ2
          gi_wp2
          go_roundw
          case rel => exact ⟨k + 1, by omega, by first | rfl | trivial | go_num, HJe, HW2, hs2⟩
          case measure => simp [intOf]; omega
    · obtain rfl : k = N := by omega
      have hJe : J (brs L ts) wr := by rw [← unhide HAll]; exact unhide HJs
      have HJe := hide hJe
      clear hJe HJs
      gi_wp2
      go_end0
      exact ⟨⟨_, rfl⟩, .inl ⟨_, rfl, unhide HJe⟩⟩
end Go.Proofs.Ytdignnmhiifpgaa
