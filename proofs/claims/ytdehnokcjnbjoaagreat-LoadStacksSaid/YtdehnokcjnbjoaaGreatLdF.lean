/- load.hull of what the example rubs. -/
import Derived.Test.YtdehnokcjnbjoaaGreatPkLdE
import Derived.Test.YtdehnokcjnbjoaaGreatCargo
namespace Go.Proofs.YtdehnokcjnbjoaaGreat
open Go.RowKit Go.Proofs.Gn
attribute [local go_sem] Oper.semAt_some
set_option linter.unusedVariables false
theorem cellsLd_snoc (l : List (Int × Int)) (x y : Int) : cellsLd (l ++ [(x, y)]) = cellsLd l ++ [.int .i64 x, .int .i64 y] := by simp [cellsLd]
theorem cellsLd_len (l : List (Int × Int)) : (cellsLd l).length = l.length * 2 := by
  induction l with
  | nil => rfl
  | cons p l ih => unfold cellsLd at ih ⊢; rw [List.flatMap_cons, List.length_append, ih]; simp; omega
theorem cellsLd_at {l : List (Int × Int)} : ∀ {k : Nat} (h : k < l.length), (cellsLd l)[k * 2]? = some (.int .i64 l[k].1) ∧ (cellsLd l)[k * 2 + 1]? = some (.int .i64 l[k].2) := by
  induction l with
  | nil => intro k h; simp at h
  | cons p l ih =>
    intro k h
    have e : cellsLd (p :: l) = .int .i64 p.1 :: .int .i64 p.2 :: cellsLd l := rfl
    rw [e]
    cases k with
    | zero => exact ⟨rfl, rfl⟩
    | succ k =>
      have q := ih (k := k) (by simpa using h)
      rw [show (k + 1) * 2 = k * 2 + 2 by omega]
      exact q
/-- The length of a slice. -/
def slLn : Value → Nat
  | .slice _ n _ => n
  | _ => 0
theorem pts_bxL {W : World} {g : Nat} {l : List (Int × Int)} (h : Bx W g (cellsLd l)) : Pts W (some ⟨g, 0, none⟩) l := by
  refine .inr ⟨g, 0, rfl, fun k hk => ?_⟩
  obtain ⟨a0, a1⟩ := cellsLd_at hk
  simp only [Nat.zero_add]
  exact ⟨(h _ _ a0).1, (h _ _ a1).1⟩
theorem bx_ownL {W : World} {base e n g cap : Nat} {xs : List Value} (h : W.ownsRow base e 2 (.slice (some ⟨g, 0, none⟩) n cap) n xs) : Bx W g xs := fun j v hj => by
  have hl := h.1
  have hj2 : j < xs.length := (List.getElem?_eq_some_iff.1 hj).1
  exact ⟨(h.cellAt j (by omega)).trans hj, h.frozenAt j⟩
theorem news_pt (W : World) (vs : List Value) (t : TypeId) : ∀ j u, vs[j]? = some u → (W.alloc (.cells vs.toArray t)).cell? ((⟨W.heap.size, 0, none⟩ : Addr).add j) = some u := fun j u hj => by
  have e : (⟨W.heap.size, 0, none⟩ : Addr).add j = ⟨W.heap.size, j, none⟩ := by unfold Addr.add; split <;> simp_all
  rw [e]
  exact (bx_new W vs t j u hj).1
/-- The corners, one by one. -/
def huP (k : Nat) : Int × Int := huL.getD k (0, 0)
theorem huP_next : ∀ k, k < 8 → nxF ruL (huP k) = huP ((k + 1) % 8) := by decide
theorem huP_x : ∀ k, k < 8 → k ≠ 0 → (huP k).1 ≠ -1500 := by decide
theorem huP_nr : ∀ k, k < 8 → Nr 4000 (huP k) := by unfold Nr; decide
theorem huL_take : ∀ k, k < 8 → huL.take (k + 1) = huL.take k ++ [huP k] := by decide
theorem huP_0 : huP 0 = (-1500, 0) := rfl
set_option maxRecDepth 100000 in
set_option maxHeartbeats 16000000 in
theorem p_hullR (A : Option Addr) (cap : Nat) (w : World) (h : Pts w A ruL) :
    Calls Tryz.prog 121 #[.slice A 8 cap] w fun e w' => (∃ g c, e = .returned (.slice (some ⟨g, 0, none⟩) 8 c) ∧ Bx w' g (cellsLd huL) ∧ w.heap.size ≤ g) ∧ Up w w' := by
  have HM := hide (fun W (hW : Up w W) => (show Calls Tryz.prog 147 #[.slice A 8 cap, fnHcmp] W fun e w' => e = .returned (pt (-1500) 0) ∧ Up W w' from p_minF A ruL cap (-1500, 0) W (pts_up h hW) (by simp [ruL]) (by simp [ruL]) ru_min))
  have HX := hide (fun k (hk : k < 8) W (hW : Up w W) => (show Calls Tryz.prog 151 #[.slice A 8 cap, pt (huP k).1 (huP k).2] W fun e w' => e = .returned (pt (huP ((k + 1) % 8)).1 (huP ((k + 1) % 8)).2) ∧ Up W w' from by
    have q := p_next A ruL cap (huP k) W (pts_up h hW) ruL_nr (huP_nr k hk) (by simp [ruL])
    rw [huP_next k hk] at q
    exact q))
  have H1 : huL.take 1 = [(-1500, 0)] := rfl
  have HH1 := hide H1
  obtain ⟨i0', hi, hz0, hz1, hz2⟩ := info_parts info_pt
  have HI := hide hi
  clear h hi H1
  go_enter Tryz.func121, Tryz.ntmps121
  go_upto_region 2 with (go_at_call 147; (with_reducible refine (unhide HM _ (by repeat' (first | (with_reducible exact up_refl _) | (with_reducible assumption) | (with_reducible refine up_alloc ?_ _) | (with_reducible refine up_drewN ?_ _) | (with_reducible refine up_drew ?_) | (with_reducible refine up_set ?_ (by first | (simp; done) | (simp; omega) | omega) _) | (refine up_trans ?_ (by with_reducible assumption))))).mono ?_); rintro e w1 ⟨rfl, u1⟩)
  refine at_wpC (fun W1 hW1 => ?_)
  have U1 : Up w W1 := by rw [hW1]; exact (by repeat' (first | (with_reducible exact up_refl _) | (with_reducible assumption) | (with_reducible refine up_alloc ?_ _) | (with_reducible refine up_drewN ?_ _) | (with_reducible refine up_drew ?_) | (with_reducible refine up_set ?_ (by first | (simp; done) | (simp; omega) | omega) _) | (refine up_trans ?_ (by with_reducible assumption))))
  have b3 : Bx W1 w1.heap.size [.int .i64 (-1500), .int .i64 0] := by rw [hW1]; exact bx_new w1 _ _
  obtain ⟨g3, hg⟩ : ∃ g, w1.heap.size = g := ⟨_, rfl⟩
  rw [hg] at b3 ⊢
  clear hW1 hg u1 HM
  have hg3 : g3 < W1.heap.size := bx_lt b3 (by simp)
  obtain ⟨y0, y1⟩ := bx2 b3
  go_upto_region 3 with fail
  refine at_wpC (fun W2 hW2 => ?_)
  have u12 : Up W1 W2 := by rw [hW2]; exact (by repeat' (first | (with_reducible exact up_refl _) | (with_reducible assumption) | (with_reducible refine up_alloc ?_ _) | (with_reducible refine up_drewN ?_ _) | (with_reducible refine up_drew ?_) | (with_reducible refine up_set ?_ (by first | (simp; done) | (simp; omega) | omega) _) | (refine up_trans ?_ (by with_reducible assumption))))
  have ow2 : W2.ownsRow W1.heap.size 55 2 (.slice (some ⟨W1.heap.size, 0, none⟩) 1 1) 1 (cellsLd (huL.take 1)) := by
    rw [hW2, unhide HH1]
    exact World.ownsRow_lit W1 #[.int .i64 (-1500), .int .i64 0] 1 (Nat.le_refl _) (by unfold maxLen; omega) rfl
  have b32 := bx_up b3 u12
  have U2 := up_trans U1 u12
  have hz2' : W1.heap.size < W2.heap.size := by rw [hW2]; simp
  clear hW2 y0 y1
  obtain ⟨y0, y1⟩ := bx2 b32
  have HX0 := hide (show Calls Tryz.prog 151 #[.slice A 8 cap, pt (-1500) 0] W2 fun e w' => e = .returned (pt (huP 1).1 (huP 1).2) ∧ Up W2 w' from by
    have q := unhide HX 0 (by omega) W2 U2
    rw [huP_0] at q
    exact q)
  obtain ⟨x1, hx1⟩ : ∃ x, (huP 1).1 = x := ⟨_, rfl⟩
  obtain ⟨x2, hx2⟩ : ∃ x, (huP 1).2 = x := ⟨_, rfl⟩
  rw [hx1, hx2] at HX0
  have HE1 := hide (show huP 1 = (x1, x2) by rw [← hx1, ← hx2])
  clear hx1 hx2
  go_upto_region 4 with (go_at_call 151; (with_reducible refine (unhide HX0).mono ?_); rintro e w3 ⟨rfl, u3⟩)
  refine at_wpC (fun W3 hW3 => ?_)
  have u23 : Up W2 W3 := by rw [hW3]; exact (by repeat' (first | (with_reducible exact up_refl _) | (with_reducible assumption) | (with_reducible refine up_alloc ?_ _) | (with_reducible refine up_drewN ?_ _) | (with_reducible refine up_drew ?_) | (with_reducible refine up_set ?_ (by first | (simp; done) | (simp; omega) | omega) _) | (refine up_trans ?_ (by with_reducible assumption))))
  have b5 : Bx W3 w3.heap.size [.int .i64 x1, .int .i64 x2] := by rw [hW3]; exact bx_new w3 _ _
  have ow3 := own_up ow2 u23
  have b33 := bx_up b32 u23
  have U3 := up_trans U2 u23
  have hg5 : W1.heap.size < w3.heap.size := by have := u3.size; omega
  obtain ⟨g5, hg⟩ : ∃ g, w3.heap.size = g := ⟨_, rfl⟩
  rw [hg] at b5 hg5 ⊢
  clear hW3 hg u3 u23 ow2 b32 b3 y0 y1 u12 U2 HX0
  go_loopw [4, 5] (fun s4 s5 wr => ∃ (k g : Nat) (x y : Int), 1 ≤ k ∧ k ≤ 8 ∧ s5 = .pointer (some ⟨g, 0, none⟩) ∧ W1.heap.size ≤ g ∧ Bx wr g [.int .i64 x, .int .i64 y] ∧ huP (k % 8) = (x, y) ∧ wr.ownsRow W1.heap.size 55 2 s4 k (cellsLd (huL.take k)) ∧ (∀ q, s4.ownBlock = some q → q ≠ g) ∧ Bx wr g3 [.int .i64 (-1500), .int .i64 0] ∧ Up w wr) (fun s4 _ _ => 8 - slLn s4)
  case atStart => exact ⟨1, g5, _, _, by omega, by omega, rfl, by omega, b5, unhide HE1, ow3, fun q e => by simp [Value.ownBlock] at e; omega, b33, U3⟩
  case round =>
    clear b5 ow3 b33 U3 hg5
    obtain ⟨k, g, x, y, hk1, hk8, rfl, hgg, bG, hxy, ow, hne, b3, hu⟩ := hrel
    obtain ⟨q4, c4, rfl⟩ : ∃ q c, u4 = .slice (some ⟨q, 0, none⟩) k c := by
      rcases ow.2 with ⟨_, h2⟩ | ⟨g', c', cur, h1, _⟩
      · omega
      · exact ⟨g', c', h1⟩
    have hq4 : q4 ≠ g := hne q4 rfl
    have hqb := (ow.lt q4 rfl).1
    obtain ⟨y0, y1⟩ := bx2 bG
    obtain ⟨z0, z1⟩ := bx2 b3
    by_cases hlt : k < 8
    · have hxn : x ≠ -1500 := by
        have q := huP_x k hlt (by omega)
        rw [Nat.mod_eq_of_lt hlt] at hxy
        rw [hxy] at q
        exact q
      rw [Nat.mod_eq_of_lt hlt] at hxy
      have e1 : (x == -1500) = false := by simp [hxn]
      have HXY := hide hxy
      have OW := hide ow
      have HC := hide (show cellsLd (huL.take (k + 1)) = cellsLd (huL.take k) ++ [.int .i64 x, .int .i64 y] by rw [huL_take k hlt, hxy, cellsLd_snoc])
      have hus := hu.size
      have hb1 : W1.heap.size ≤ wr.heap.size := by have := (ow.lt q4 rfl).2; omega
      clear hxy ow hne
      go_upto_region 7 with (at_builtin; refine wpList_append_own_at _ rfl _ _ 37 rfl W1.heap.size 55 i0' _ 2 16 Tryz.underlying37 (unhide HI) hz0 hz1 hz2 rfl (by decide) (.slice (some ⟨q4, 0, none⟩) k c4) k (cellsLd (huL.take k)) rfl ((unhide OW).alloc _) ⟨wr.heap.size, 0, none⟩ 1 1 [.int .i64 x, .int .i64 y] rfl rfl (news_pt _ _ _) (by intro u hu; simp at hu; rcases hu with rfl | rfl <;> rfl) (by unfold maxLen; omega) (by omega) (by simp; omega) ?_; intro v4 W7 hown hgr _ hat)
      have ow7 : W7.ownsRow W1.heap.size 55 2 v4 (k + 1) (cellsLd (huL.take (k + 1))) := by rw [unhide HC]; exact hown
      have bG7 := bx_grownC (bx_up bG (up_alloc (up_refl _) _)) hgr (fun e => hq4 (by simp [Value.ownBlock] at e; exact e))
      have b37 := bx_grownC (bx_up b3 (up_alloc (up_refl _) _)) hgr (fun e => by simp [Value.ownBlock] at e; omega)
      have U7 : Up w W7 := (up_alloc hu _).grown hgr (up_alloc hu _).size (fun j e => by simp [Value.ownBlock] at e; have := U1.size; omega)
      have hgt : g < W7.heap.size := bx_lt bG7 (by simp)
      have hn4 : ∀ q, v4.ownBlock = some q → q < W7.heap.size := fun q e => (ow7.lt q e).2
      clear hown hgr hat bG b3 hu OW HC y0 y1 z0 z1 hus
      obtain ⟨y0, y1⟩ := bx2 bG7
      go_upto_region 5 with fail
      refine at_wpC (fun W8 hW8 => ?_)
      have u78 : Up W7 W8 := by rw [hW8]; exact (by repeat' (first | (with_reducible exact up_refl _) | (with_reducible assumption) | (with_reducible refine up_alloc ?_ _) | (with_reducible refine up_drewN ?_ _) | (with_reducible refine up_drew ?_) | (with_reducible refine up_set ?_ (by first | (simp; done) | (simp; omega) | omega) _) | (refine up_trans ?_ (by with_reducible assumption))))
      have bN : Bx W8 W7.heap.size [.int .i64 x, .int .i64 y] := by rw [hW8]; exact bx_new W7 _ _
      obtain ⟨gn, hg⟩ : ∃ g, W7.heap.size = g := ⟨_, rfl⟩
      rw [hg] at bN hgt hn4 ⊢
      have ow8 := own_up ow7 u78
      have b38 := bx_up b37 u78
      have U8 := up_trans U7 u78
      clear hW8 hg ow7 b37 U7 u78 y0 y1 bG7
      obtain ⟨y0, y1⟩ := bx2 bN
      have HX1 := hide (show Calls Tryz.prog 151 #[.slice A 8 cap, pt x y] W8 fun e w' => e = .returned (pt (huP ((k + 1) % 8)).1 (huP ((k + 1) % 8)).2) ∧ Up W8 w' from by
        have q := unhide HX k hlt W8 U8
        rw [unhide HXY] at q
        exact q)
      obtain ⟨x', hx1⟩ : ∃ x, (huP ((k + 1) % 8)).1 = x := ⟨_, rfl⟩
      obtain ⟨y', hx2⟩ : ∃ x, (huP ((k + 1) % 8)).2 = x := ⟨_, rfl⟩
      rw [hx1, hx2] at HX1
      have HE2 := hide (show huP ((k + 1) % 8) = (x', y') by rw [← hx1, ← hx2])
      clear hx1 hx2
      go_wp2_with (go_at_call 151; (with_reducible refine (unhide HX1).mono ?_); rintro e w9 ⟨rfl, u9⟩; have bN9 := bx_up bN u9; obtain ⟨f0, f1⟩ := bxf2 bN9; obtain ⟨t0, t1⟩ := bx2 bN9)
      have BN := bx_set (bx_set bN9 0 (.int .i64 x')) 1 (.int .i64 y')
      have U9 := up_set (up_set (up_trans U8 u9) (p := ⟨gn, 0, none⟩) (by simp only; have := U1.size; omega) (.int .i64 x')) (p := ⟨gn, 1, none⟩) (by simp only; have := U1.size; omega) (.int .i64 y')
      have B39 := bx_far (bx_far (bx_up b38 u9) (p := ⟨gn, 0, none⟩) (by simp only; omega) (.int .i64 x')) (p := ⟨gn, 1, none⟩) (by simp only; omega) (.int .i64 y')
      have OW9 := ownsRow_setCell_other (ownsRow_setCell_other (own_up ow8 u9) (a := ⟨gn, 0, none⟩) (fun e => by have := hn4 gn e; omega) (.int .i64 x')) (a := ⟨gn, 1, none⟩) (fun e => by have := hn4 gn e; omega) (.int .i64 y')
      go_roundw
      case rel => exact ⟨k + 1, gn, x', y', by omega, by omega, rfl, by omega, BN, unhide HE2, OW9, fun q e => by have := hn4 q e; omega, B39, U9⟩
      case measure =>
        rcases OW9.2 with ⟨_, h2⟩ | ⟨g', c', cur, h1, _⟩
        · omega
        · rw [h1]
          simp [slLn]
          omega
    · obtain rfl : k = 8 := by omega
      have hx0 : (x, y) = (-1500, 0) := by rw [← hxy]; rfl
      obtain ⟨rfl, rfl⟩ : x = -1500 ∧ y = 0 := by
        injection hx0 with h1 h2
        exact ⟨h1, h2⟩
      have bq := bx_ownL ow
      rw [show huL.take 8 = huL from rfl] at bq
      have BQ := hide bq
      clear ow bq hxy hx0
      have hwq : w.heap.size ≤ q4 := by have := U1.size; omega
      go_wp2_with fail
      go_ret
      exact ⟨⟨q4, c4, rfl, unhide BQ, hwq⟩, hu⟩
end Go.Proofs.YtdehnokcjnbjoaaGreat
