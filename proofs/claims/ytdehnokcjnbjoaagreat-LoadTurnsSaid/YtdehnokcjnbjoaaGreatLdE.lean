/- The hull of what the example rubs. -/
import Derived.Test.YtdehnokcjnbjoaaGreatLdD
import Derived.Test.YtdehnokcjnbjoaaGreatPkLdM
import Derived.Maps.AppendAt
import Derived.OwnWalk
namespace Go.Proofs.YtdehnokcjnbjoaaGreat
open Go.RowKit Go.Proofs.Gn
attribute [local go_sem] Oper.semAt_some
set_option linter.unusedVariables false
/-- The least of points. -/
def mnF : Int × Int → List (Int × Int) → Int × Int
  | m, [] => m
  | m, p :: l => mnF (if cmp2 p.1 p.2 m.1 m.2 < 0 then p else m) l
theorem mnF_drop {m : Int × Int} {l : List (Int × Int)} {k : Nat} (h : k < l.length) : mnF m (l.drop k) = mnF (if cmp2 l[k].1 l[k].2 m.1 m.2 < 0 then l[k] else m) (l.drop (k + 1)) := by
  rw [List.drop_eq_getElem_cons h]
  rfl
abbrev fnHcmp : Value := .func (.func 148) #[] #[]
set_option maxRecDepth 100000 in
set_option maxHeartbeats 8000000 in
theorem p_minF (A : Option Addr) (l : List (Int × Int)) (cap : Nat) (v : Int × Int) (w : World) (h : Pts w A l) (h0 : 0 < l.length) (hn : l.length ≤ 100) (hv : mnF l[0] (l.drop 1) = v) :
    Calls Tryz.prog 147 #[.slice A l.length cap, fnHcmp] w fun e w' => e = .returned (pt v.1 v.2) ∧ Up w w' := by
  obtain ⟨b, off, rfl, hc⟩ := h.resolve_left (by intro e; rw [e] at h0; simp at h0)
  have HC := hide hc
  have HH := hide (fun ax ay bx b_y W => p_hcmp ax ay bx b_y W)
  have HD := hide (fun m k (hk : k < l.length) => mnF_drop (m := m) hk)
  have HV := hide hv
  obtain ⟨c0, c1⟩ := hc 0 h0
  obtain ⟨m0, hm0⟩ : ∃ m, l[0] = m := ⟨_, rfl⟩
  rw [hm0] at HV
  simp only [hm0] at c0 c1
  obtain ⟨m1, m2⟩ := m0
  obtain ⟨v1, v2⟩ := v
  obtain ⟨n, hnn⟩ : ∃ n, l.length = n := ⟨_, rfl⟩
  have HNn := hide hnn
  rw [hnn] at h0 hn ⊢
  dsimp only at c0 c1 ⊢
  rw [Nat.zero_mul, Nat.add_zero] at c0 c1
  clear h hc hv hm0 hnn
  have i1 : ¬ (n : Int) < 1 := by omega
  have i2 : (0 : Int) < (n : Int) := by omega
  go_enter Tryz.func147, Tryz.ntmps147
  go_upto_region 3 with fail
  refine at_wpC (fun W0 hW0 => ?_)
  have U0 : Up w W0 := by rw [hW0]; exact (by repeat' (first | (with_reducible exact up_refl _) | (with_reducible assumption) | (with_reducible refine up_alloc ?_ _) | (with_reducible refine up_drewN ?_ _) | (with_reducible refine up_drew ?_) | (with_reducible refine up_set ?_ (by first | (simp; done) | (simp; omega) | omega) _) | (refine up_trans ?_ (by with_reducible assumption))))
  have bR : Bx W0 w.heap.size [.int .i64 0, .int .i64 0] := by rw [hW0]; exact bx_new w _ _
  have d0 := up_cell U0 c0
  have d1 := up_cell U0 c1
  clear hW0 c0 c1
  go_upto_region 4 with fail
  refine at_wpC (fun W1 hW1 => ?_)
  have u01 : Up W0 W1 := by rw [hW1]; exact (by repeat' (first | (with_reducible exact up_refl _) | (with_reducible assumption) | (with_reducible refine up_alloc ?_ _) | (with_reducible refine up_drewN ?_ _) | (with_reducible refine up_drew ?_) | (with_reducible refine up_set ?_ (by first | (simp; done) | (simp; omega) | omega) _) | (refine up_trans ?_ (by with_reducible assumption))))
  have bM : Bx W1 W0.heap.size [.int .i64 m1, .int .i64 m2] := by rw [hW1]; exact bx_new W0 _ _
  have hg0 : w.heap.size < W0.heap.size := bx_lt bR (by simp)
  obtain ⟨gm, hg⟩ : ∃ g, W0.heap.size = g := ⟨_, rfl⟩
  rw [hg] at bM hg0 ⊢
  have bR1 := bx_up bR u01
  have U1 := up_trans U0 u01
  clear hW1 hg bR U0 u01 d0 d1
  go_upto_region 5 with fail
  go_loopw [6] (fun s6 wr => ∃ (k : Nat) (x y : Int), 1 ≤ k ∧ k ≤ n ∧ s6 = .int .i64 k ∧ mnF (x, y) (l.drop k) = (v1, v2) ∧ Bx wr gm [.int .i64 x, .int .i64 y] ∧ Bx wr w.heap.size [.int .i64 0, .int .i64 0] ∧ Up w wr) (fun s6 _ => n - (intOf s6).toNat)
  case atStart => exact ⟨1, m1, m2, by omega, by omega, rfl, unhide HV, bM, bR1, U1⟩
  case round =>
    clear bM bR1 U1
    obtain ⟨k, x, y, hk1, hk, rfl, hrest, bM, bR, hu⟩ := hrel
    by_cases hlt : k < n
    · have hl : k < l.length := by rw [unhide HNn]; exact hlt
      obtain ⟨c0, c1⟩ := unhide HC k hl
      rw [unhide HD (x, y) k hl] at hrest
      generalize l[k] = p at *
      obtain ⟨p1, p2⟩ := p
      dsimp only at hrest c0 c1
      have HH1 := hide (unhide HH p1 p2 x y)
      obtain ⟨c, hcc⟩ : ∃ c, cmp2 p1 p2 x y = c := ⟨_, rfl⟩
      rw [hcc] at hrest HH1
      have HRest := hide hrest
      have c0' := up_cell hu c0
      have c1' := up_cell hu c1
      have i3 : (0 : Int) ≤ (k : Int) := by omega
      have i4 : (k : Int) < (n : Int) := by omega
      have i5 : (k : Int).toNat = k := by omega
      have hwk : IntKind.i64.wrap ((k : Int) + 1) = (k : Int) + 1 := IntWalk.i64_in _ ⟨by omega, by omega⟩
      clear c0 c1 hrest hcc
      go_upto_region 7 with fail
      have n0 := fun r : UpW wr => up_cell r.up c0'
      have n1 := fun r : UpW wr => up_cell r.up c1'
      have n2 : ∀ r : UpW wr, r.v.cell? ⟨gm, 0, none⟩ = some (.int .i64 x) := fun r => (bx_up bM r.up 0 _ rfl).1
      have n3 : ∀ r : UpW wr, r.v.cell? ⟨gm, 1, none⟩ = some (.int .i64 y) := fun r => (bx_up bM r.up 1 _ rfl).1
      refine wp_upq (by kernel_rfl) (by kernel_rfl) ?_; (repeat (go_big_quiet_step ((go_at_call 148; exact upq (unhide HH1 _))))); refine wpQuiet_nil ?_; intro _ hw'; obtain ⟨pq, hw''⟩ := hw'; subst hw''; have hpq := pq.up
      generalize pq.v = W7 at hpq ⊢
      have bM7 := bx_up bM hpq
      have bR7 := bx_up bR hpq
      have U7 := up_trans hu hpq
      have c0 := up_cell hpq c0'
      have c1 := up_cell hpq c1'
      clear n0 n1 n2 n3 bM bR hu hpq c0' c1' HH1
      by_cases hneg : c < 0
      · have hr := unhide HRest
        rw [if_pos hneg] at hr
        have HR := hide hr
        clear hr
        obtain ⟨f0, f1⟩ := bxf2 bM7
        obtain ⟨g0, g1⟩ := bx2 bM7
        go_wp2_with fail
        have B9 := bx_set (bx_set bM7 0 (.int .i64 p1)) 1 (.int .i64 p2)
        have R9 := bx_far (bx_far bR7 (p := ⟨gm, 0, none⟩) (by simp only; omega) (.int .i64 p1)) (p := ⟨gm, 1, none⟩) (by simp only; omega) (.int .i64 p2)
        have U9 := up_set (up_set U7 (p := ⟨gm, 0, none⟩) (by simp only; omega) (.int .i64 p1)) (p := ⟨gm, 1, none⟩) (by simp only; omega) (.int .i64 p2)
        go_roundw
        case rel => exact ⟨k + 1, p1, p2, by omega, by omega, by go_num, unhide HR, B9, R9, U9⟩
        case measure => simp [intOf]; omega
      · have hr := unhide HRest
        rw [if_neg hneg] at hr
        have HR := hide hr
        clear hr
        go_wp2_with fail
        go_roundw
        case rel => exact ⟨k + 1, x, y, by omega, by omega, by go_num, unhide HR, bM7, bR7, U7⟩
        case measure => simp [intOf]; omega
    · obtain rfl : k = n := by omega
      rw [List.drop_eq_nil_of_le (by rw [unhide HNn]; exact Nat.le_refl _)] at hrest
      have hxe : x = v1 := congrArg Prod.fst (show (x, y) = (v1, v2) from hrest)
      have hye : y = v2 := congrArg Prod.snd (show (x, y) = (v1, v2) from hrest)
      subst hxe hye
      clear hrest
      have i6 : ¬ (k : Int) < (k : Int) := by omega
      obtain ⟨g0, g1⟩ := bx2 bM
      obtain ⟨h0', h1'⟩ := bx2 bR
      obtain ⟨k0, k1⟩ := bxf2 bR
      go_wp2_with fail
      have B9 := bx_set (bx_set bR 0 (.int .i64 x)) 1 (.int .i64 y)
      have U9 := up_set (up_set hu (p := ⟨w.heap.size, 0, none⟩) (by simp only; omega) (.int .i64 x)) (p := ⟨w.heap.size, 1, none⟩) (by simp only; omega) (.int .i64 y)
      generalize (wr.setCell ⟨w.heap.size, 0, none⟩ (.int .i64 x)).setCell ⟨w.heap.size, 1, none⟩ (.int .i64 y) = W9 at B9 U9 ⊢
      have s0 := (B9 0 _ rfl).1
      have s1 := (B9 1 _ rfl).1
      refine bodyPost_ret (v := pt x y) (by simp [results, Tryz.f147, go_sem, s0, s1]) rfl ?_
      exact ⟨rfl, U9⟩
theorem ru_min : mnF (ruL[0]'(by simp [ruL])) (ruL.drop 1) = (-1500, 0) := by decide
end Go.Proofs.YtdehnokcjnbjoaaGreat
