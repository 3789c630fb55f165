/- Where a piece touches another one that it rests on. On which pieces a piece rests: load.Rests for any load and any number. -/
import Derived.Test.YtdehnokcjnbjoaaGreatRst
import Derived.Test.YtdehnokcjnbjoaaGreatPkTurn
namespace Go.Proofs.YtdehnokcjnbjoaaGreat
open Go.RowKit Go.Proofs.Gn
attribute [local go_sem] Oper.semAt_some
set_option linter.unusedVariables false
/-- The error of a piece's number. -/
def ixE (s : ByteArray) (ps : List Pce) (ys : List Eye) (f i : Int) : Int := if loE s ps ys f = 0 then (if 0 ≤ i ∧ i < ps.length then 0 else 3) else loE s ps ys f
/-- A list of ints of the call's own, with an error. -/
def NmE (E : Int) (l : List Int) (w : World) (e : Ending) (w' : World) : Prop := (∃ v, e = .returned (.tuple #[v, .int .i64 E]) ∧ w'.ownsRow w.heap.size 3 1 v l.length (cellsN l)) ∧ Up w w'
theorem own_lowN {W : World} {base base' e size n : Nat} {v : Value} {xs : List Value} (h : W.ownsRow base e size v n xs) (hb : base' ≤ base) : W.ownsRow base' e size v n xs := ⟨h.1, h.2.imp id (fun ⟨g, cap, cur, h1, h2, h3⟩ => ⟨g, cap, cur, h1, Nat.le_trans hb h2, h3⟩)⟩
set_option maxRecDepth 100000 in
set_option maxHeartbeats 8000000 in
theorem p_checkIndex (s : ByteArray) (A : Option Addr) (ps : List Pce) (cA : Nat) (B : Option Addr) (ys : List Eye) (cB : Nat) (f i : Int) (w : World) (hA : Pcs w A ps) (hB : Eyes w B ys) (hn : ps.length ≤ 9223372036854775807) (hm : ys.length ≤ 9223372036854775807) :
    Calls Tryz.prog 69 #[loV s A ps.length cA B ys.length cB f, .int .i64 i] w fun e w' => e = .returned (.int .i64 (ixE s ps ys f i)) ∧ Up w w' := by
  have HC := hide (fun W (hW : Up w W) => p_CheckL s A ps cA B ys cB f W (pcs_up hA hW) (eyes_up hB hW) hn hm)
  unfold ixE
  generalize loE s ps ys f = E at *
  generalize ps.length = n at *
  generalize ys.length = m at *
  clear hA hB hn hm
  generalize hV : (if E = 0 then (if 0 ≤ i ∧ i < (n : Int) then (0 : Int) else 3) else E) = V
  have HV := hide hV
  clear hV
  go_enter Tryz.func69, Tryz.ntmps69
  go_upto_region 1 with fail
  refine at_wpC (fun W0 hW0 => ?_)
  have U0 : Up w W0 := by rw [hW0]; exact (by repeat' (first | (with_reducible exact up_refl _) | (with_reducible assumption) | (with_reducible refine up_alloc ?_ _) | (with_reducible refine up_drewN ?_ _) | (with_reducible refine up_drew ?_) | (with_reducible refine up_set ?_ (by first | (simp; done) | (simp; omega) | omega) _) | (refine up_trans ?_ (by with_reducible assumption))))
  have bL : Bx W0 w.heap.size [.string s, .slice A n cA, .slice B m cB, .int .i64 f] := by rw [hW0]; exact bx_new w _ _
  clear hW0
  have c0 := (bL 0 _ rfl).1
  have c1 := (bL 1 _ rfl).1
  have c2 := (bL 2 _ rfl).1
  have c3 := (bL 3 _ rfl).1
  go_upto_region 2 with (go_at_call 16; (with_reducible refine (unhide HC _ U0).mono ?_); rintro e w1 ⟨rfl, v1⟩)
  have bL1 := bx_up bL v1
  have U1 := up_trans U0 v1
  clear c0 c1 c2 c3 bL v1 U0 HC
  have c1 := (bL1 1 _ rfl).1
  by_cases hE : E = 0
  · subst hE
    by_cases h0 : i < 0
    · go_wp2_with fail
      go_ret
      have hV := unhide HV
      rw [if_pos trivial, if_neg (by omega)] at hV
      exact ⟨by rw [← hV]; rfl, U1⟩
    · by_cases h1 : i ≥ (n : Int)
      · go_wp2_with fail
        go_ret
        have hV := unhide HV
        rw [if_pos trivial, if_neg (by omega)] at hV
        exact ⟨by rw [← hV]; rfl, U1⟩
      · go_wp2_with fail
        go_ret
        have hV := unhide HV
        rw [if_pos trivial, if_pos (by omega)] at hV
        exact ⟨by rw [← hV]; rfl, U1⟩
  · have t0 : (E == 0) = false := by simp [hE]
    have t1 : (E != 0) = true := by simp [hE]
    go_wp2_with fail
    go_ret
    have hV := unhide HV
    rw [if_neg hE] at hV
    exact ⟨by rw [← hV]; rfl, U1⟩
set_option maxRecDepth 100000 in
set_option maxHeartbeats 8000000 in
theorem p_Rests (s : ByteArray) (A : Option Addr) (ps : List Pce) (cA : Nat) (B : Option Addr) (ys : List Eye) (cB : Nat) (f i : Int) (w : World) (hA : Pcs w A ps) (hB : Eyes w B ys) (hn : ps.length ≤ 9223372036854775807) (hm : ys.length ≤ 9223372036854775807) :
    Calls Tryz.prog 27 #[loV s A ps.length cA B ys.length cB f, .int .i64 i] w fun e w' => NmE (ixE s ps ys f i) (if ixE s ps ys f i = 0 then rsL ps i.toNat else []) w e w' := by
  have HC := hide (fun W (hW : Up w W) => p_checkIndex s A ps cA B ys cB f i W (pcs_up hA hW) (eyes_up hB hW) hn hm)
  have HK : Hid (ixE s ps ys f i = 0 → ∀ W, Up w W → Calls Tryz.prog 70 #[.slice A ps.length cA, .int .i64 i] W fun e w' => NmBack (rsL ps i.toNat) W e w') := hide (fun h W hW => by
    unfold ixE at h
    split at h
    · rename_i hE
      split at h
      · rename_i hi
        obtain ⟨⟨hg1, hg2, hg3⟩, _, _, hok, _⟩ := loE_ok hE
        have q := p_below A ps cA i.toNat W (pcs_up hA hW) hok (by omega) (by omega)
        rw [show ((i.toNat : Nat) : Int) = i by omega] at q
        exact q
      · omega
    · rename_i hE
      exact absurd h hE)
  generalize ixE s ps ys f i = E at *
  generalize rsL ps i.toNat = R at *
  generalize ps.length = n at *
  generalize ys.length = m at *
  clear hA hB hn hm
  generalize hV : (if E = 0 then R else []) = V
  have HV := hide hV
  clear hV
  go_enter Tryz.func27, Tryz.ntmps27
  go_upto_region 1 with fail
  refine at_wpC (fun W0 hW0 => ?_)
  have U0 : Up w W0 := by rw [hW0]; exact (by repeat' (first | (with_reducible exact up_refl _) | (with_reducible assumption) | (with_reducible refine up_alloc ?_ _) | (with_reducible refine up_drewN ?_ _) | (with_reducible refine up_drew ?_) | (with_reducible refine up_set ?_ (by first | (simp; done) | (simp; omega) | omega) _) | (refine up_trans ?_ (by with_reducible assumption))))
  have bL : Bx W0 w.heap.size [.string s, .slice A n cA, .slice B m cB, .int .i64 f] := by rw [hW0]; exact bx_new w _ _
  clear hW0
  have c0 := (bL 0 _ rfl).1
  have c1 := (bL 1 _ rfl).1
  have c2 := (bL 2 _ rfl).1
  have c3 := (bL 3 _ rfl).1
  go_upto_region 2 with (go_at_call 69; (with_reducible refine (unhide HC _ U0).mono ?_); rintro e w1 ⟨rfl, v1⟩)
  have bL1 := bx_up bL v1
  have U1 := up_trans U0 v1
  clear c0 c1 c2 c3 bL v1 U0 HC
  have c1 := (bL1 1 _ rfl).1
  by_cases hE : E = 0
  · subst hE
    have HK' := hide (unhide HK rfl)
    go_wp2_with (go_at_call 70; (with_reducible refine (unhide HK' _ U1).mono ?_); rintro e w2 ⟨⟨v, rfl, ho⟩, v2⟩; have HO := hide ho; clear ho)
    go_ret2
    have hV := unhide HV
    rw [if_pos (by first | rfl | trivial)] at hV
    subst hV
    exact ⟨⟨v, rfl, own_lowN (unhide HO) U1.size⟩, up_trans U1 v2⟩
  · have t0 : (E == 0) = false := by simp [hE]
    have t1 : (E != 0) = true := by simp [hE]
    go_wp2_with fail
    go_ret2
    have hV := unhide HV
    rw [if_neg hE] at hV
    subst hV
    exact ⟨⟨_, rfl, World.ownsRow_nil _ _ _ _⟩, U1⟩
end Go.Proofs.YtdehnokcjnbjoaaGreat
namespace Go.Proofs.YtdehnokcjnbjoaaGreat
open Go.RowKit Go.Proofs.Gn
attribute [local go_sem] Oper.semAt_some
set_option linter.unusedVariables false
def ctP (a b : Pce) : Pce := ⟨max a.x b.x, max a.y b.y, 0, min (a.x + a.l) (b.x + b.l) - max a.x b.x, min (a.y + a.w) (b.y + b.w) - max a.y b.y, 0, 0⟩
theorem ct_wd {a b : Pce} (ha : okPp a) (hb : okPp b) : wdP (ctP a b) := by
  unfold okPp at ha hb
  unfold wdP ctP
  dsimp only
  omega
set_option maxRecDepth 100000 in
set_option maxHeartbeats 8000000 in
theorem p_contact (a b : Pce) (ha : okPp a) (hb : okPp b) (w : World) :
    Calls Tryz.prog 114 #[pceV a, pceV b] w fun e w' => e = .returned (pceV (ctP a b)) ∧ Up w w' := by
  unfold okPp at ha hb
  have w1 : IntKind.i64.wrap (b.x + b.l) = b.x + b.l := i64_small (by omega)
  have w2 : IntKind.i64.wrap (a.x + a.l) = a.x + a.l := i64_small (by omega)
  have w3 : IntKind.i64.wrap (b.y + b.w) = b.y + b.w := i64_small (by omega)
  have w4 : IntKind.i64.wrap (a.y + a.w) = a.y + a.w := i64_small (by omega)
  have w5 : IntKind.i64.wrap (min (a.x + a.l) (b.x + b.l) - max a.x b.x) = min (a.x + a.l) (b.x + b.l) - max a.x b.x := i64_small (by omega)
  have w6 : IntKind.i64.wrap (min (a.y + a.w) (b.y + b.w) - max a.y b.y) = min (a.y + a.w) (b.y + b.w) - max a.y b.y := i64_small (by omega)
  clear ha hb
  go_enter Tryz.func114, Tryz.ntmps114
  go_upto_region 1 with fail
  refine at_wpC (fun W0 hW0 => ?_)
  have U0 : Up w W0 := by rw [hW0]; exact (by repeat' (first | (with_reducible exact up_refl _) | (with_reducible assumption) | (with_reducible refine up_alloc ?_ _) | (with_reducible refine up_drewN ?_ _) | (with_reducible refine up_drew ?_) | (with_reducible refine up_set ?_ (by first | (simp; done) | (simp; omega) | omega) _) | (refine up_trans ?_ (by with_reducible assumption))))
  obtain ⟨bA, bB, bR⟩ : Bx W0 w.heap.size (pceC a) ∧ Bx W0 (w.heap.size + 1) (pceC b) ∧ Bx W0 (w.heap.size + 1 + 1) [.int .i64 0, .int .i64 0, .int .i64 0, .int .i64 0, .int .i64 0, .int .i64 0, .int .i64 0] := by
    rw [hW0]
    refine ⟨bx_alloc (bx_twoS _ _ _ _).1 _, bx_alloc (bx_twoS _ _ _ _).2 _, ?_⟩
    have q := bx_new ((w.alloc (.cells (pceC a).toArray 75)).alloc (.cells (pceC b).toArray 75)) [.int .i64 0, .int .i64 0, .int .i64 0, .int .i64 0, .int .i64 0, .int .i64 0, .int .i64 0] 75
    rw [World.size_alloc, World.size_alloc] at q
    exact q
  clear hW0
  have x0 := (bA 0 _ rfl).1
  have x1 := (bA 1 _ rfl).1
  have x3 := (bA 3 _ rfl).1
  have x4 := (bA 4 _ rfl).1
  have y0 := (bB 0 _ rfl).1
  have y1 := (bB 1 _ rfl).1
  have y3 := (bB 3 _ rfl).1
  have y4 := (bB 4 _ rfl).1
  go_region
  have bA1 := bx_drew bA
  have bB1 := bx_drew bB
  have bR1 := bx_drew bR
  have U1 := up_drew U0
  generalize W0.drew = WD at bA1 bB1 bR1 U1 ⊢
  clear x0 x1 x3 x4 y0 y1 y3 y4 bA bB bR U0
  have x0 := (bA1 0 _ rfl).1
  have x1 := (bA1 1 _ rfl).1
  have x3 := (bA1 3 _ rfl).1
  have x4 := (bA1 4 _ rfl).1
  have y0 := (bB1 0 _ rfl).1
  have y1 := (bB1 1 _ rfl).1
  have y3 := (bB1 3 _ rfl).1
  have y4 := (bB1 4 _ rfl).1
  have f0 := (bR1 0 _ rfl).2
  have r0 := (bR1 0 _ rfl).1
  have f1 := (bR1 1 _ rfl).2
  have r1 := (bR1 1 _ rfl).1
  have f2 := (bR1 2 _ rfl).2
  have r2 := (bR1 2 _ rfl).1
  have f3 := (bR1 3 _ rfl).2
  have r3 := (bR1 3 _ rfl).1
  have f4 := (bR1 4 _ rfl).2
  have r4 := (bR1 4 _ rfl).1
  have f5 := (bR1 5 _ rfl).2
  have r5 := (bR1 5 _ rfl).1
  have f6 := (bR1 6 _ rfl).2
  have r6 := (bR1 6 _ rfl).1
  go_wp2_with fail
  have B9 := bx_set (bx_set (bx_set (bx_set (bx_set (bx_set (bx_set (bR1) 0 (.int .i64 (max a.x b.x))) 1 (.int .i64 (max a.y b.y))) 2 (.int .i64 0)) 3 (.int .i64 (min (a.x + a.l) (b.x + b.l) - max a.x b.x))) 4 (.int .i64 (min (a.y + a.w) (b.y + b.w) - max a.y b.y))) 5 (.int .i64 0)) 6 (.int .i64 0)
  have U9 := up_set (up_set (up_set (up_set (up_set (up_set (up_set (U1) (p := ⟨w.heap.size + 1 + 1, 0, none⟩) (by simp only; omega) (.int .i64 (max a.x b.x))) (p := ⟨w.heap.size + 1 + 1, 1, none⟩) (by simp only; omega) (.int .i64 (max a.y b.y))) (p := ⟨w.heap.size + 1 + 1, 2, none⟩) (by simp only; omega) (.int .i64 0)) (p := ⟨w.heap.size + 1 + 1, 3, none⟩) (by simp only; omega) (.int .i64 (min (a.x + a.l) (b.x + b.l) - max a.x b.x))) (p := ⟨w.heap.size + 1 + 1, 4, none⟩) (by simp only; omega) (.int .i64 (min (a.y + a.w) (b.y + b.w) - max a.y b.y))) (p := ⟨w.heap.size + 1 + 1, 5, none⟩) (by simp only; omega) (.int .i64 0)) (p := ⟨w.heap.size + 1 + 1, 6, none⟩) (by simp only; omega) (.int .i64 0)
  generalize (((((((WD.setCell ⟨w.heap.size + 1 + 1, 0, none⟩ (.int .i64 (max a.x b.x))).setCell ⟨w.heap.size + 1 + 1, 1, none⟩ (.int .i64 (max a.y b.y))).setCell ⟨w.heap.size + 1 + 1, 2, none⟩ (.int .i64 0)).setCell ⟨w.heap.size + 1 + 1, 3, none⟩ (.int .i64 (min (a.x + a.l) (b.x + b.l) - max a.x b.x))).setCell ⟨w.heap.size + 1 + 1, 4, none⟩ (.int .i64 (min (a.y + a.w) (b.y + b.w) - max a.y b.y))).setCell ⟨w.heap.size + 1 + 1, 5, none⟩ (.int .i64 0)).setCell ⟨w.heap.size + 1 + 1, 6, none⟩ (.int .i64 0)) = W9 at B9 U9 ⊢
  have z0 := (B9 0 _ rfl).1
  have z1 := (B9 1 _ rfl).1
  have z2 := (B9 2 _ rfl).1
  have z3 := (B9 3 _ rfl).1
  have z4 := (B9 4 _ rfl).1
  have z5 := (B9 5 _ rfl).1
  have z6 := (B9 6 _ rfl).1
  refine bodyPost_ret (v := pceV (ctP a b)) (by simp [results, Tryz.f114, go_sem, z0, z1, z2, z3, z4, z5, z6, ctP]) rfl ?_
  exact ⟨rfl, U9⟩
end Go.Proofs.YtdehnokcjnbjoaaGreat
