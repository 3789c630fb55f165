/- load.proves, for the example's reach. -/
import Derived.Test.YtdehnokcjnbjoaaGreatLdI
namespace Go.Proofs.YtdehnokcjnbjoaaGreat
open Go.RowKit Go.Proofs.Gn
attribute [local go_sem] Oper.semAt_some
set_option linter.unusedVariables false
theorem mul_small {x y : Int} (hx : -4000 ≤ x ∧ x ≤ 4000) (hy : -4000 ≤ y ∧ y ≤ 4000) : -16000000 ≤ x * y ∧ x * y ≤ 16000000 := by
  have q := mul_nr (A := 4000) (B := 4000) hx hy (by omega)
  omega
theorem prF_all {m n : Int × Int} (h : ∀ k, k < 8 → prF (huP k) m n = true) : (huL.all fun d => prF d m n) = true := by
  have e : huL = (List.range 8).map huP := by decide
  rw [e, List.all_eq_true]
  intro d hd
  obtain ⟨k, hk, rfl⟩ := List.mem_map.1 hd
  exact h k (List.mem_range.1 hk)
theorem prF_not {m n : Int × Int} {k : Nat} (hk : k < 8) (h : prF (huP k) m n = false) : (huL.all fun d => prF d m n) = false := by
  have e : huL = (List.range 8).map huP := by decide
  rw [e]
  have q : ¬ ((List.range 8).map huP).all (fun d => prF d m n) = true := fun hc => by
    have := List.all_eq_true.1 hc (huP k) (List.mem_map.2 ⟨k, List.mem_range.2 hk, rfl⟩)
    rw [h] at this
    exact Bool.noConfusion this
  simpa using q
set_option maxRecDepth 100000 in
set_option maxHeartbeats 16000000 in
theorem p_provesH (A : Option Addr) (cap : Nat) (mx my nx ny : Int) (w : World) (h : Pts w A huL) (hm : Nr 4000 (mx, my)) (hn : Nr 4000 (nx, ny)) :
    Calls Tryz.prog 92 #[.slice A 8 cap, pt mx my, pt nx ny] w fun e w' => e = .returned (.bool (huL.all fun d => prF d (mx, my) (nx, ny))) ∧ Up w w' := by
  obtain ⟨b, off, rfl, hc0⟩ := h.resolve_left (by simp [huL])
  have HC := hide (fun k hk => pts_huP hc0 k hk)
  unfold Nr at hm hn
  dsimp only at hm hn
  have HN := hide hn
  have m1 := mul_small hm.1 hn.1
  have m2 := mul_small hm.2 hn.2
  have HDm := hide (fun W => p_dotL mx my nx ny W (i64_small (by omega)) (i64_small (by omega)) (i64_small (by omega)))
  have HD := hide (fun x y p q W e1 e2 e3 => p_dotL x y p q W e1 e2 e3)
  clear h hc0 hm hn m1 m2
  go_enter Tryz.func92, Tryz.ntmps92
  go_upto_region 1 with fail
  refine at_wpC (fun W0 hW0 => ?_)
  have U0 : Up w W0 := by rw [hW0]; exact (by repeat' (first | (with_reducible exact up_refl _) | (with_reducible assumption) | (with_reducible refine up_alloc ?_ _) | (with_reducible refine up_drewN ?_ _) | (with_reducible refine up_drew ?_) | (with_reducible refine up_set ?_ (by first | (simp; done) | (simp; omega) | omega) _) | (refine up_trans ?_ (by with_reducible assumption))))
  obtain ⟨bA, bB⟩ : Bx W0 w.heap.size [.int .i64 mx, .int .i64 my] ∧ Bx W0 (w.heap.size + 1) [.int .i64 nx, .int .i64 ny] := by
    rw [hW0]
    exact bxl2 w _ _ _
  obtain ⟨gm, hgm⟩ : ∃ g, w.heap.size = g := ⟨_, rfl⟩
  rw [hgm] at bA bB ⊢
  obtain ⟨gn, hgn⟩ : ∃ g, gm + 1 = g := ⟨_, rfl⟩
  rw [hgn] at bB ⊢
  clear hW0 hgm hgn
  go_upto_region 2 with fail
  go_loopw [11] (fun s11 wr => ∃ k : Nat, k ≤ 8 ∧ s11 = .int .i64 k ∧ (∀ j, j < k → prF (huP j) (mx, my) (nx, ny) = true) ∧ Bx wr gm [.int .i64 mx, .int .i64 my] ∧ Bx wr gn [.int .i64 nx, .int .i64 ny] ∧ Up w wr) (fun s11 _ => 8 - (intOf s11).toNat)
  case atStart => exact ⟨0, by omega, rfl, fun j hj => absurd hj (by omega), bA, bB, U0⟩
  case round =>
    clear bA bB U0
    obtain ⟨k, hk, rfl, hall, bA, bB, hu⟩ := hrel
    by_cases hlt : k < 8
    · obtain ⟨c0, c1⟩ := unhide HC k hlt
      have c0' := up_cell hu c0
      have c1' := up_cell hu c1
      have n1 := huP_nr k hlt
      have hP := hide (show prF (huP k) (mx, my) (nx, ny) = decide ((huP k).1 * nx + (huP k).2 * ny < mx * nx + my * ny) from rfl)
      have hn := unhide HN
      unfold Nr at n1
      have m1 := mul_small n1.1 hn.1
      have m2 := mul_small n1.2 hn.2
      have HDk := hide (fun W => unhide HD (huP k).1 (huP k).2 nx ny W (i64_small (by omega)) (i64_small (by omega)) (i64_small (by omega)))
      have i0 : (0 : Int) ≤ (k : Int) := by omega
      have i1 : (k : Int) < 8 := by omega
      have i3 : (k : Int).toNat = k := by omega
      have hwk : IntKind.i64.wrap ((k : Int) + 1) = (k : Int) + 1 := IntWalk.i64_in _ ⟨by omega, by omega⟩
      have HPk := hide (fun (q : prF (huP k) (mx, my) (nx, ny) = false) => prF_not hlt q)
      have HA := hide hall
      obtain ⟨B, hB⟩ : ∃ B, prF (huP k) (mx, my) (nx, ny) = B := ⟨_, rfl⟩
      rw [hB] at hP HPk
      have HB := hide hB
      clear hB
      generalize (huP k).1 = x at *
      generalize (huP k).2 = y at *
      clear hall c0 c1 m1 m2 n1 hn
      go_upto_region 4 with fail
      refine at_wpC (fun W6 hW6 => ?_)
      have u6 : Up wr W6 := by rw [hW6]; exact (by repeat' (first | (with_reducible exact up_refl _) | (with_reducible assumption) | (with_reducible refine up_alloc ?_ _) | (with_reducible refine up_drewN ?_ _) | (with_reducible refine up_drew ?_) | (with_reducible refine up_set ?_ (by first | (simp; done) | (simp; omega) | omega) _) | (refine up_trans ?_ (by with_reducible assumption))))
      have b5 : Bx W6 wr.heap.size [.int .i64 x, .int .i64 y] := by rw [hW6]; exact bx_new wr _ _
      obtain ⟨g5, hg⟩ : ∃ g, wr.heap.size = g := ⟨_, rfl⟩
      rw [hg] at b5 ⊢
      have U6 := up_trans hu u6
      have BA := bx_up bA u6
      have BB := bx_up bB u6
      clear hW6 hg hu u6 c0' c1' bA bB
      have r0 : ∀ r : UpW W6, r.v.cell? ⟨g5, 0, none⟩ = some (.int .i64 x) := fun r => (bx_up b5 r.up 0 _ rfl).1
      have r1 : ∀ r : UpW W6, r.v.cell? ⟨g5, 1, none⟩ = some (.int .i64 y) := fun r => (bx_up b5 r.up 1 _ rfl).1
      have r2 : ∀ r : UpW W6, r.v.cell? ⟨gm, 0, none⟩ = some (.int .i64 mx) := fun r => (bx_up BA r.up 0 _ rfl).1
      have r3 : ∀ r : UpW W6, r.v.cell? ⟨gm, 1, none⟩ = some (.int .i64 my) := fun r => (bx_up BA r.up 1 _ rfl).1
      have r4 : ∀ r : UpW W6, r.v.cell? ⟨gn, 0, none⟩ = some (.int .i64 nx) := fun r => (bx_up BB r.up 0 _ rfl).1
      have r5 : ∀ r : UpW W6, r.v.cell? ⟨gn, 1, none⟩ = some (.int .i64 ny) := fun r => (bx_up BB r.up 1 _ rfl).1
      refine wp_upq (by kernel_rfl) (by kernel_rfl) ?_; (repeat (go_big_quiet_step ((first | (go_at_call 131; with_reducible exact upq (unhide HDk _)) | (go_at_call 131; with_reducible exact upq (unhide HDm _)))))); refine wpQuiet_nil ?_; intro _ hw'; obtain ⟨pq, hw''⟩ := hw'; subst hw''; have hpq := pq.up
      generalize pq.v = W7 at hpq ⊢
      have BA7 := bx_up BA hpq
      have BB7 := bx_up BB hpq
      have U7 := up_trans U6 hpq
      clear r0 r1 r2 r3 r4 r5 BA BB U6 b5 hpq
      have hP' := unhide hP
      by_cases hc : x * nx + y * ny < mx * nx + my * ny
      · have t1 : ¬ (x * nx + y * ny ≥ mx * nx + my * ny) := by omega
        have t2 : ¬ (mx * nx + my * ny ≤ x * nx + y * ny) := by omega
        have hBt : B = true := by rw [hP']; exact decide_eq_true hc
        have hBH := hide hBt
        have t3 : decide (mx * nx + my * ny ≤ x * nx + y * ny) = false := decide_eq_false t2
        clear hP' hBt
        go_wp2_with fail
        go_roundw
        case rel =>
          refine ⟨k + 1, by omega, by first | rfl | trivial | go_num, fun j hj => ?_, BA7, BB7, U7⟩
          by_cases he : j < k
          · exact unhide HA j he
          · obtain rfl : j = k := by omega
            rw [unhide HB]
            exact unhide hBH
        case measure => first | (simp [intOf]; done) | (simp [intOf]; omega)
      · have t2 : mx * nx + my * ny ≤ x * nx + y * ny := by omega
        have hBt : B = false := by rw [hP']; exact decide_eq_false hc
        have hF := hide (unhide HPk hBt)
        have t3 : decide (mx * nx + my * ny ≤ x * nx + y * ny) = true := decide_eq_true t2
        clear hP' hBt
        go_wp2_with fail
        go_ret
        exact ⟨by rw [unhide hF]; rfl, U7⟩
    · obtain rfl : k = 8 := by omega
      have HF := hide (prF_all hall)
      have i1 : ¬ ((8 : Nat) : Int) < 8 := by omega
      clear hall
      go_wp2_with fail
      go_ret
      exact ⟨by rw [unhide HF]; rfl, hu⟩
end Go.Proofs.YtdehnokcjnbjoaaGreat
