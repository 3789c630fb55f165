/- Two pieces share room: in each of the first axes both begin before the other one ends. -/
import Derived.Test.YtdehnokcjnbjoaaGreatPkMom
import Derived.Test.YtdehnokcjnbjoaaGreatUpQ
import Derived.Test.YtdehnokcjnbjoaaGreatLdX
namespace Go.Proofs.YtdehnokcjnbjoaaGreat
open Go.RowKit Go.Proofs.Gn
attribute [local go_sem] Oper.semAt_some
set_option linter.unusedVariables false
def loK (p : Pce) (k : Nat) : Int := if k = 0 then p.x else if k = 1 then p.y else p.z
def hiK (p : Pce) (k : Nat) : Int := if k = 0 then p.x + p.l else if k = 1 then p.y + p.w else p.z + p.h
def shK (a b : Pce) : Nat → Bool
  | 0 => true
  | k + 1 => shK a b k && (decide (loK a k < hiK b k) && decide (loK b k < hiK a k))
theorem loK_at (p : Pce) {k : Nat} (h : k < 3) : ([.int .i64 p.x, .int .i64 p.y, .int .i64 p.z] : List Value)[k]? = some (.int .i64 (loK p k)) := by
  match k, h with
  | 0, _ => rfl
  | 1, _ => rfl
  | 2, _ => rfl
theorem hiK_at (p : Pce) {k : Nat} (h : k < 3) : ([.int .i64 (p.x + p.l), .int .i64 (p.y + p.w), .int .i64 (p.z + p.h)] : List Value)[k]? = some (.int .i64 (hiK p k)) := by
  match k, h with
  | 0, _ => rfl
  | 1, _ => rfl
  | 2, _ => rfl
theorem shK_no {a b : Pce} {K k : Nat} (hk : k < K) (h : ¬ (loK a k < hiK b k ∧ loK b k < hiK a k)) : shK a b K = false := by
  induction K with
  | zero => omega
  | succ K ih =>
    show (shK a b K && (decide (loK a K < hiK b K) && decide (loK b K < hiK a K))) = false
    by_cases e : k < K
    · rw [ih e]; rfl
    · obtain rfl : k = K := by omega
      cases hb : (decide (loK a k < hiK b k) && decide (loK b k < hiK a k))
      · exact Bool.and_false _
      · simp only [Bool.and_eq_true, decide_eq_true_eq] at hb
        exact absurd hb h
theorem bx_twoS {w : World} (x y : List Value) (T T2 : TypeId) : Bx ((w.alloc (.cells x.toArray T)).alloc (.cells y.toArray T2)) w.heap.size x ∧ Bx ((w.alloc (.cells x.toArray T)).alloc (.cells y.toArray T2)) (w.heap.size + 1) y := by
  refine ⟨bx_alloc (bx_new w _ _) _, ?_⟩
  have q := bx_new (w.alloc (.cells x.toArray T)) y T2
  rw [World.size_alloc] at q
  exact q
abbrev pceV (p : Pce) : Value := .agg #[.int .i64 p.x, .int .i64 p.y, .int .i64 p.z, .int .i64 p.l, .int .i64 p.w, .int .i64 p.h, .int .i64 p.m]
abbrev pceC (p : Pce) : List Value := [.int .i64 p.x, .int .i64 p.y, .int .i64 p.z, .int .i64 p.l, .int .i64 p.w, .int .i64 p.h, .int .i64 p.m]
set_option maxRecDepth 100000 in
set_option maxHeartbeats 8000000 in
theorem p_share (a b : Pce) (K : Nat) (hK : K ≤ 3) (ha : okPp a) (hb : okPp b) (w : World) :
    Calls Tryz.prog 67 #[pceV a, pceV b, .int .i64 K] w fun e w' => e = .returned (.bool (shK a b K)) ∧ Up w w' := by
  have HEa := hide (fun W => p_ends (x := a.x) (y := a.y) (z := a.z) (l := a.l) (wd := a.w) (h := a.h) (m := a.m) ha W)
  have HEb := hide (fun W => p_ends (x := b.x) (y := b.y) (z := b.z) (l := b.l) (wd := b.w) (h := b.h) (m := b.m) hb W)
  clear ha hb
  go_enter Tryz.func67, Tryz.ntmps67
  go_upto_region 1 with fail
  refine at_wpC (fun W0 hW0 => ?_)
  have U0 : Up w W0 := by rw [hW0]; exact (by repeat' (first | (with_reducible exact up_refl _) | (with_reducible assumption) | (with_reducible refine up_alloc ?_ _) | (with_reducible refine up_drewN ?_ _) | (with_reducible refine up_drew ?_) | (with_reducible refine up_set ?_ (by first | (simp; done) | (simp; omega) | omega) _) | (refine up_trans ?_ (by with_reducible assumption))))
  obtain ⟨bA, bB⟩ : Bx W0 w.heap.size (pceC a) ∧ Bx W0 (w.heap.size + 1) (pceC b) := by rw [hW0]; exact bx_twoS _ _ _ _
  clear hW0
  have x0 := (bA 0 _ rfl).1
  have x1 := (bA 1 _ rfl).1
  have x2 := (bA 2 _ rfl).1
  have x3 := (bA 3 _ rfl).1
  have x4 := (bA 4 _ rfl).1
  have x5 := (bA 5 _ rfl).1
  have x6 := (bA 6 _ rfl).1
  go_upto_region 2 with (go_at_call 64; (with_reducible refine (unhide HEa _).mono ?_); rintro e w1 ⟨rfl, v1⟩)
  refine at_wpC (fun W1 hW1 => ?_)
  have y1 : Up w1 W1 := by rw [hW1]; exact (by repeat' (first | (with_reducible exact up_refl _) | (with_reducible assumption) | (with_reducible refine up_alloc ?_ _) | (with_reducible refine up_drewN ?_ _) | (with_reducible refine up_drew ?_) | (with_reducible refine up_set ?_ (by first | (simp; done) | (simp; omega) | omega) _) | (refine up_trans ?_ (by with_reducible assumption))))
  obtain ⟨b7, b8⟩ : Bx W1 w1.heap.size [.int .i64 a.x, .int .i64 a.y, .int .i64 a.z] ∧ Bx W1 (w1.heap.size + 1) [.int .i64 (a.x + a.l), .int .i64 (a.y + a.w), .int .i64 (a.z + a.h)] := by rw [hW1]; exact bx_twoS _ _ _ _
  clear hW1
  generalize w1.heap.size + 1 = g8 at *
  generalize w1.heap.size = g7 at *
  have bB1 := bx_up (bx_up bB v1) y1
  have U1 := up_trans (up_trans U0 v1) y1
  clear x0 x1 x2 x3 x4 x5 x6 bA bB U0 v1 y1
  have x0 := (bB1 0 _ rfl).1
  have x1 := (bB1 1 _ rfl).1
  have x2 := (bB1 2 _ rfl).1
  have x3 := (bB1 3 _ rfl).1
  have x4 := (bB1 4 _ rfl).1
  have x5 := (bB1 5 _ rfl).1
  have x6 := (bB1 6 _ rfl).1
  go_upto_region 3 with (go_at_call 64; (with_reducible refine (unhide HEb _).mono ?_); rintro e w2 ⟨rfl, v2⟩)
  refine at_wpC (fun W2 hW2 => ?_)
  have y2 : Up w2 W2 := by rw [hW2]; exact (by repeat' (first | (with_reducible exact up_refl _) | (with_reducible assumption) | (with_reducible refine up_alloc ?_ _) | (with_reducible refine up_drewN ?_ _) | (with_reducible refine up_drew ?_) | (with_reducible refine up_set ?_ (by first | (simp; done) | (simp; omega) | omega) _) | (refine up_trans ?_ (by with_reducible assumption))))
  obtain ⟨b9, b10⟩ : Bx W2 w2.heap.size [.int .i64 b.x, .int .i64 b.y, .int .i64 b.z] ∧ Bx W2 (w2.heap.size + 1) [.int .i64 (b.x + b.l), .int .i64 (b.y + b.w), .int .i64 (b.z + b.h)] := by rw [hW2]; exact bx_twoS _ _ _ _
  clear hW2
  generalize w2.heap.size + 1 = g10 at *
  generalize w2.heap.size = g9 at *
  replace b7 := bx_up (bx_up b7 v2) y2
  replace b8 := bx_up (bx_up b8 v2) y2
  have U2 := up_trans (up_trans U1 v2) y2
  clear x0 x1 x2 x3 x4 x5 x6 bB1 U1 v2 y2 HEa HEb
  have HC := hide (fun (k : Nat) (hk : k < 3) W (hW : Up W2 W) => (⟨(bx_up b7 hW k _ (loK_at a hk)).1, (bx_up b8 hW k _ (hiK_at a hk)).1, (bx_up b9 hW k _ (loK_at b hk)).1, (bx_up b10 hW k _ (hiK_at b hk)).1⟩ : _ ∧ _ ∧ _ ∧ _))
  have HNo := hide (fun (k : Nat) (hk : k < K) h => shK_no (a := a) (b := b) hk h)
  clear b7 b8 b9 b10
  go_upto_region 4 with fail
  go_loopw [23] (fun s23 wr => ∃ k : Nat, k ≤ K ∧ s23 = .int .i64 k ∧ shK a b k = true ∧ Up W2 wr) (fun s23 _ => K - (intOf s23).toNat)
  case atStart => exact ⟨0, by omega, rfl, rfl, up_refl _⟩
  case round =>
    obtain ⟨k, hk, rfl, hs, hu⟩ := hrel
    by_cases hlt : k < K
    · have i0 : (0 : Int) ≤ (k : Int) := by omega
      have i1 : (k : Int) < (K : Int) := by omega
      have i2 : (k : Int) < 3 := by omega
      have i3 : (k : Int).toNat = k := by omega
      have hwk : IntKind.i64.wrap ((k : Int) + 1) = (k : Int) + 1 := IntWalk.i64_in _ ⟨by omega, by omega⟩
      have hnx : shK a b (k + 1) = (shK a b k && (decide (loK a k < hiK b k) && decide (loK b k < hiK a k))) := rfl
      have hno := hide (unhide HNo k hlt)
      have HCk := hide (fun r : UpW wr => unhide HC k (by omega) r.v (up_trans hu r.up))
      generalize loK a k = la at *
      generalize hiK a k = ka at *
      generalize loK b k = lb at *
      generalize hiK b k = kb at *
      have Q7 : ∀ r : UpW wr, r.v.cell? ⟨g7, k, none⟩ = some (.int .i64 la) := fun r => (unhide HCk r).1
      have Q8 : ∀ r : UpW wr, r.v.cell? ⟨g8, k, none⟩ = some (.int .i64 ka) := fun r => (unhide HCk r).2.1
      have Q9 : ∀ r : UpW wr, r.v.cell? ⟨g9, k, none⟩ = some (.int .i64 lb) := fun r => (unhide HCk r).2.2.1
      have Q10 : ∀ r : UpW wr, r.v.cell? ⟨g10, k, none⟩ = some (.int .i64 kb) := fun r => (unhide HCk r).2.2.2
      clear HCk
      go_upto_region 6 with fail
      by_cases t1 : la ≥ kb
      · refine wp_upq (by kernel_rfl) (by kernel_rfl) ?_; (repeat (go_big_quiet_step (fail))); refine wpQuiet_nil ?_; intro _ hw'; obtain ⟨pq, hw''⟩ := hw'; subst hw''; have hpq := pq.up
        generalize pq.v = W3 at hpq ⊢
        clear Q7 Q8 Q9 Q10
        go_wp2_with fail
        go_ret
        exact ⟨by rw [unhide hno (by omega)]; rfl, up_trans U2 (up_trans hu hpq)⟩
      · by_cases t2 : lb ≥ ka
        · refine wp_upq (by kernel_rfl) (by kernel_rfl) ?_; (repeat (go_big_quiet_step (fail))); refine wpQuiet_nil ?_; intro _ hw'; obtain ⟨pq, hw''⟩ := hw'; subst hw''; have hpq := pq.up
          generalize pq.v = W3 at hpq ⊢
          clear Q7 Q8 Q9 Q10
          go_wp2_with fail
          go_ret
          exact ⟨by rw [unhide hno (by omega)]; rfl, up_trans U2 (up_trans hu hpq)⟩
        · refine wp_upq (by kernel_rfl) (by kernel_rfl) ?_; (repeat (go_big_quiet_step (fail))); refine wpQuiet_nil ?_; intro _ hw'; obtain ⟨pq, hw''⟩ := hw'; subst hw''; have hpq := pq.up
          generalize pq.v = W3 at hpq ⊢
          clear Q7 Q8 Q9 Q10
          have e1 : decide (la < kb) = true := by simp; omega
          have e2 : decide (lb < ka) = true := by simp; omega
          go_wp2_with fail
          go_roundw
          case rel => exact ⟨k + 1, by omega, by go_num, by rw [hnx, hs, e1, e2]; rfl, up_trans hu hpq⟩
          case measure => simp [intOf]; omega
    · obtain rfl : k = K := by omega
      have i1 : ¬ (k : Int) < (k : Int) := by omega
      go_wp2_with fail
      go_ret
      exact ⟨by first | rfl | (rw [hs]; rfl), up_trans U2 hu⟩
end Go.Proofs.YtdehnokcjnbjoaaGreat
