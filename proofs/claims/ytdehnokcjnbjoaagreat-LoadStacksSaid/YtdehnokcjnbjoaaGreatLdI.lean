/- load.directions of the example's hull. -/
import Derived.Test.YtdehnokcjnbjoaaGreatLdH
namespace Go.Proofs.YtdehnokcjnbjoaaGreat
open Go.RowKit Go.Proofs.Gn
attribute [local go_sem] Oper.semAt_some
set_option linter.unusedVariables false
/-- The directions, one by one. -/
def diP (k : Nat) : Int × Int := diL.getD k (0, 0)
theorem diP_way : ∀ k, k < 8 → diP k = ((waP k).2, -(waP k).1) := by decide
theorem diL_take : ∀ k, k < 8 → diL.take (k + 1) = diL.take k ++ [diP k] := by decide
set_option maxRecDepth 100000 in
set_option maxHeartbeats 16000000 in
theorem p_dirsH (A : Option Addr) (cap : Nat) (w : World) (h : Pts w A huL) :
    Calls Tryz.prog 129 #[.slice A 8 cap] w fun e w' => (∃ g c, e = .returned (.slice (some ⟨g, 0, none⟩) 8 c) ∧ Bx w' g (cellsLd diL)) ∧ Up w w' := by
  have HSi := hide (fun W (hW : Up w W) => p_sidesH A cap W (pts_up h hW))
  obtain ⟨i0', hi, hz0, hz1, hz2⟩ := info_parts info_pt
  have HI := hide hi
  clear h hi
  go_enter Tryz.func129, Tryz.ntmps129
  go_upto_region 5 with (go_at_call 152; (with_reducible refine (unhide HSi _ (by repeat' (first | (with_reducible exact up_refl _) | (with_reducible assumption) | (with_reducible refine up_alloc ?_ _) | (with_reducible refine up_drewN ?_ _) | (with_reducible refine up_drew ?_) | (with_reducible refine up_set ?_ (by first | (simp; done) | (simp; omega) | omega) _) | (refine up_trans ?_ (by with_reducible assumption))))).mono ?_); rintro e wS ⟨⟨qs, cs, rfl, hos⟩, u9⟩; have BS := hide (bx_ownL hos); have US := hide (show Up w wS from up_trans (by repeat' (first | (with_reducible exact up_refl _) | (with_reducible assumption) | (with_reducible refine up_alloc ?_ _) | (with_reducible refine up_drewN ?_ _) | (with_reducible refine up_drew ?_) | (with_reducible refine up_set ?_ (by first | (simp; done) | (simp; omega) | omega) _) | (refine up_trans ?_ (by with_reducible assumption)))) u9); clear hos u9)
  go_upto_region 6 with fail
  go_loopw [3, 19] (fun s3 s19 wr => ∃ k : Nat, k ≤ 8 ∧ s19 = .int .i64 k ∧ wr.ownsRow wS.heap.size 55 2 s3 k (cellsLd (diL.take k)) ∧ Up wS wr) (fun _ s19 _ => 8 - (intOf s19).toNat)
  case atStart => exact ⟨0, by omega, rfl, World.ownsRow_nil _ _ _ _, up_refl _⟩
  case round =>
    obtain ⟨k, hk, rfl, ow, hu⟩ := hrel
    by_cases hlt : k < 8
    · obtain ⟨c0, c1⟩ := bx_waP (bx_up (unhide BS) hu) k hlt
      have n1 := waP_nr k hlt
      have HCw := hide (show cellsLd (diL.take (k + 1)) = cellsLd (diL.take k) ++ [.int .i64 (waP k).2, .int .i64 (-(waP k).1)] by rw [diL_take k hlt, diP_way k hlt, cellsLd_snoc])
      unfold Nr at n1
      generalize (waP k).1 = x at *
      generalize (waP k).2 = y at *
      have hwn : IntKind.i64.wrap (-x) = -x := i64_small (by omega)
      have i0 : (0 : Int) ≤ (k : Int) := by omega
      have i1 : (k : Int) < 8 := by omega
      have i3 : (k : Int).toNat = k := by omega
      have hwk : IntKind.i64.wrap ((k : Int) + 1) = (k : Int) + 1 := IntWalk.i64_in _ ⟨by omega, by omega⟩
      have OW := hide ow
      clear ow n1
      go_upto_region 8 with fail
      refine at_wpC (fun W6 hW6 => ?_)
      have u6 : Up wr W6 := by rw [hW6]; exact (by repeat' (first | (with_reducible exact up_refl _) | (with_reducible assumption) | (with_reducible refine up_alloc ?_ _) | (with_reducible refine up_drewN ?_ _) | (with_reducible refine up_drew ?_) | (with_reducible refine up_set ?_ (by first | (simp; done) | (simp; omega) | omega) _) | (refine up_trans ?_ (by with_reducible assumption))))
      have b5 : Bx W6 wr.heap.size [.int .i64 x, .int .i64 y] := by rw [hW6]; exact bx_new wr _ _
      obtain ⟨g5, hg⟩ : ∃ g, wr.heap.size = g := ⟨_, rfl⟩
      rw [hg] at b5 ⊢
      have OW6 := hide (own_up (unhide OW) u6)
      have U6 := hide (up_trans hu u6)
      obtain ⟨y0, y1⟩ := bx2 b5
      clear hW6 hg OW hu u6 c0 c1 b5
      go_wp2_with (at_builtin; refine wpList_append_own_at _ rfl _ _ 37 rfl wS.heap.size 55 i0' _ 2 16 Tryz.underlying37 (unhide HI) hz0 hz1 hz2 rfl (by decide) _ k (cellsLd (diL.take k)) rfl ((unhide OW6).alloc _) ⟨W6.heap.size, 0, none⟩ 1 1 [.int .i64 y, .int .i64 (-x)] rfl rfl (news_pt _ _ _) (by intro u hu; simp at hu; rcases hu with rfl | rfl <;> rfl) (by unfold maxLen; omega) (by omega) (by have := (unhide U6).size; simp; omega) ?_; intro v7 W8 hown hgr _ _)
      have R1 := hide (show W8.ownsRow wS.heap.size 55 2 v7 (k + 1) (cellsLd (diL.take (k + 1))) by rw [unhide HCw]; exact hown)
      have R2 := hide (show Up wS W8 from (up_alloc (unhide U6) _).grown hgr (up_alloc (unhide U6) _).size (fun j e => ((unhide OW6).lt j e).1))
      clear hown hgr
      go_roundw
      case rel => exact ⟨k + 1, by omega, by first | rfl | trivial | go_num, unhide R1, unhide R2⟩
      case measure => first | (simp [intOf]; done) | (simp [intOf]; omega)
    · obtain rfl : k = 8 := by omega
      rw [show diL.take 8 = diL from rfl] at ow
      obtain ⟨q4, c4, rfl⟩ : ∃ q c, u3 = .slice (some ⟨q, 0, none⟩) 8 c := by
        rcases ow.2 with ⟨_, h2⟩ | ⟨g', c', cur, h1, _⟩
        · omega
        · exact ⟨g', c', h1⟩
      have OW := hide (bx_ownL ow)
      have UE := hide (up_trans (unhide US) hu)
      clear ow
      have i1 : ¬ ((8 : Nat) : Int) < 8 := by omega
      go_wp2_with fail
      go_ret
      exact ⟨⟨q4, ⟨c4, rfl⟩, unhide OW⟩, unhide UE⟩
end Go.Proofs.YtdehnokcjnbjoaaGreat
