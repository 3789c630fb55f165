/- A piece rests on another one; what a piece rests on. -/
import Derived.Test.YtdehnokcjnbjoaaGreatShr
import Derived.Test.YtdehnokcjnbjoaaGreatPkOwnN
import Derived.Test.YtdehnokcjnbjoaaGreatChkL
import Derived.Test.YtdehnokcjnbjoaaGreatPkTurn
namespace Go.Proofs.YtdehnokcjnbjoaaGreat
open Go.RowKit Go.Proofs.Gn
attribute [local go_sem] Oper.semAt_some
set_option linter.unusedVariables false
/-- a rests on b. -/
def rsP (a b : Pce) : Bool := decide (a.z = b.z + b.h) && shK a b 2
set_option maxRecDepth 100000 in
set_option maxHeartbeats 8000000 in
theorem p_rests (a b : Pce) (ha : okPp a) (hb : okPp b) (w : World) :
    Calls Tryz.prog 110 #[pceV a, pceV b] w fun e w' => e = .returned (.bool (rsP a b)) ∧ Up w w' := by
  have HS : Hid (∀ W, Calls Tryz.prog 67 #[pceV a, pceV b, .int .i64 2] W fun e w' => e = .returned (.bool (shK a b 2)) ∧ Up W w') := hide (fun W => p_share a b 2 (by omega) ha hb W)
  unfold rsP
  have hw : IntKind.i64.wrap (b.z + b.h) = b.z + b.h := by unfold okPp at hb; exact i64_small (by omega)
  clear ha hb
  generalize shK a b 2 = S at *
  go_enter Tryz.func110, Tryz.ntmps110
  go_upto_region 1 with fail
  refine at_wpC (fun W0 hW0 => ?_)
  have U0 : Up w W0 := by rw [hW0]; exact (by repeat' (first | (with_reducible exact up_refl _) | (with_reducible assumption) | (with_reducible refine up_alloc ?_ _) | (with_reducible refine up_drewN ?_ _) | (with_reducible refine up_drew ?_) | (with_reducible refine up_set ?_ (by first | (simp; done) | (simp; omega) | omega) _) | (refine up_trans ?_ (by with_reducible assumption))))
  obtain ⟨bA, bB⟩ : Bx W0 w.heap.size (pceC a) ∧ Bx W0 (w.heap.size + 1) (pceC b) := by rw [hW0]; exact bx_twoS _ _ _ _
  clear hW0
  have x0 := (bA 0 _ rfl).1
  have x1 := (bA 1 _ rfl).1
  have x2 := (bA 2 _ rfl).1
  have x3 := (bA 3 _ rfl).1
  have x4 := (bA 4 _ rfl).1
  have x5 := (bA 5 _ rfl).1
  have x6 := (bA 6 _ rfl).1
  have y0 := (bB 0 _ rfl).1
  have y1 := (bB 1 _ rfl).1
  have y2 := (bB 2 _ rfl).1
  have y3 := (bB 3 _ rfl).1
  have y4 := (bB 4 _ rfl).1
  have y5 := (bB 5 _ rfl).1
  have y6 := (bB 6 _ rfl).1
  clear bA bB
  by_cases t1 : a.z = b.z + b.h
  · have t2 : (a.z == b.z + b.h) = true := by simp [t1]
    have t3 : decide (a.z = b.z + b.h) = true := by simp [t1]
    clear t1
    go_wp2_with (go_at_call 67; (with_reducible refine (unhide HS _).mono ?_); rintro e w1 ⟨rfl, v1⟩)
    go_ret
    exact ⟨by rw [t3]; first | rfl | (cases S <;> rfl), up_trans U0 v1⟩
  · have t2 : (a.z == b.z + b.h) = false := by simp [t1]
    have t3 : decide (a.z = b.z + b.h) = false := by simp [t1]
    clear t1
    go_wp2_with fail
    go_ret
    exact ⟨by rw [t3]; first | rfl | (cases S <;> rfl), U0⟩
/-- What a piece rests on, of the first k. -/
def rsT (ps : List Pce) (i : Nat) : Nat → List Int
  | 0 => []
  | k + 1 => rsT ps i k ++ (if rsP (ps.getD i ⟨0, 0, 0, 0, 0, 0, 0⟩) (ps.getD k ⟨0, 0, 0, 0, 0, 0, 0⟩) = true then [(k : Int)] else [])
theorem rsT_len (ps : List Pce) (i k : Nat) : (rsT ps i k).length ≤ k := by
  induction k with
  | zero => exact Nat.le_refl _
  | succ k ih =>
    show (rsT ps i k ++ _).length ≤ k + 1
    rw [List.length_append]
    split
    · simp; omega
    · simp; omega
theorem rsT_step (ps : List Pce) {i k : Nat} (hi : i < ps.length) (hk : k < ps.length) : rsT ps i (k + 1) = rsT ps i k ++ (if rsP ps[i] ps[k] = true then [(k : Int)] else []) := by
  show rsT ps i k ++ _ = _
  rw [List.getD_eq_getElem?_getD, List.getD_eq_getElem?_getD, List.getElem?_eq_getElem hi, List.getElem?_eq_getElem hk]
  rfl
def rsL (ps : List Pce) (i : Nat) : List Int := rsT ps i ps.length
/-- A list of ints of the call's own. -/
def NmBack (l : List Int) (w : World) (e : Ending) (w' : World) : Prop := (∃ v, e = .returned v ∧ w'.ownsRow w.heap.size 3 1 v l.length (cellsN l)) ∧ Up w w'
set_option maxRecDepth 100000 in
set_option maxHeartbeats 8000000 in
theorem p_below (A : Option Addr) (ps : List Pce) (cA i : Nat) (w : World) (hA : Pcs w A ps) (hok : okPs ps = true) (hi : i < ps.length) (hn : ps.length ≤ 1000) :
    Calls Tryz.prog 70 #[.slice A ps.length cA, .int .i64 i] w fun e w' => NmBack (rsL ps i) w e w' := by
  unfold NmBack rsL
  have HT := hide (fun k (hk : k < ps.length) => rsT_step ps hi hk)
  have HKp := hide (fun k (hk : k < ps.length) W => p_rests ps[i] ps[k] ((okP_iff _).1 (okPs_get hok hi)) ((okP_iff _).1 (okPs_get hok hk)) W)
  have HL := hide (fun k => rsT_len ps i k)
  have HP := hide hA
  have H0 := hide (show rsT ps i 0 = [] from rfl)
  have HX : Hid (∀ k, rsT ps i k = rsT ps i k) := hide fun _ => rfl
  obtain ⟨b, off, rfl, hc⟩ := hA.resolve_left (by intro e; rw [e] at hi; simp at hi)
  have HCi := hide (hc i hi)
  have HCk := hide hc
  generalize ps[i] = a at *
  obtain ⟨n, hnn⟩ : ∃ n, ps.length = n := ⟨_, rfl⟩
  have HNN := hide hnn
  have HII := hide hi
  rw [hnn] at hi hn ⊢
  obtain ⟨i0', hinf, hz0, hz1, hz2⟩ := info_parts info_intN
  have HI := hide hinf
  clear hc hok hnn hinf HP
  have j0 : (0 : Int) ≤ (i : Int) := by omega
  have j1 : (i : Int) < (n : Int) := by omega
  have j3 : (i : Int).toNat = i := by omega
  go_enter Tryz.func70, Tryz.ntmps70
  go_upto_region 3 with fail
  have ow0 : w.ownsRow w.heap.size 3 1 (.slice none 0 0) (rsT ps i 0).length (cellsN (rsT ps i 0)) := by rw [unhide H0]; exact World.ownsRow_nil _ _ _ _
  go_loopw [5, 10] (fun s5 s10 wr => ∃ (k : Nat) (G : Option Addr) (l c : Nat), k ≤ n ∧ s10 = .int .i64 k ∧ s5 = .slice G l c ∧ l = (rsT ps i k).length ∧ wr.ownsRow w.heap.size 3 1 s5 l (cellsN (rsT ps i k)) ∧ Up w wr) (fun _ s10 _ => n - (intOf s10).toNat)
  case atStart => exact ⟨0, none, 0, 0, by omega, rfl, rfl, rfl, ow0, up_refl _⟩
  case round =>
    clear ow0 H0
    obtain ⟨k, G, l, c, hk, rfl, rfl, hl', ow, hu⟩ := hrel
    by_cases hlt : k < n
    · have hl : k < ps.length := by rw [unhide HNN]; exact hlt
      obtain ⟨a0, a1, a2, a3, a4, a5, a6⟩ := pceAt_up (unhide HCk k hl) hu
      have hst := unhide HT k hl
      have HRk := hide (unhide HKp k hl)
      have hL := unhide HL k
      generalize ps[k] = p at *
      rw [← hl'] at hL
      have i0 : (0 : Int) ≤ (k : Int) := by omega
      have i1 : (k : Int) < (n : Int) := by omega
      have i3 : (k : Int).toNat = k := by omega
      have hwk : IntKind.i64.wrap ((k : Int) + 1) = (k : Int) + 1 := IntWalk.i64_in _ ⟨by omega, by omega⟩
      go_upto_region 5 with fail
      refine at_wpC (fun W4 hW4 => ?_)
      have v4 : Up wr W4 := by rw [hW4]; exact (by repeat' (first | (with_reducible exact up_refl _) | (with_reducible assumption) | (with_reducible refine up_alloc ?_ _) | (with_reducible refine up_drewN ?_ _) | (with_reducible refine up_drew ?_) | (with_reducible refine up_set ?_ (by first | (simp; done) | (simp; omega) | omega) _) | (refine up_trans ?_ (by with_reducible assumption))))
      have b9 : Bx W4 wr.heap.size [.int .i64 p.x, .int .i64 p.y, .int .i64 p.z, .int .i64 p.l, .int .i64 p.w, .int .i64 p.h, .int .i64 p.m] := by rw [hW4]; exact bx_new wr _ _
      have ow4 := own_upN ow v4
      have V4 := up_trans hu v4
      clear hW4 v4 hu ow a0 a1 a2 a3 a4 a5 a6
      obtain ⟨g9, hg⟩ : ∃ g, wr.heap.size = g := ⟨_, rfl⟩
      rw [hg] at b9 ⊢
      clear hg
      have C0 : ∀ r : UpW W4, r.v.cell? ⟨g9, 0, none⟩ = some (.int .i64 p.x) := fun r => (bx_up b9 r.up 0 _ rfl).1
      have C1 : ∀ r : UpW W4, r.v.cell? ⟨g9, 1, none⟩ = some (.int .i64 p.y) := fun r => (bx_up b9 r.up 1 _ rfl).1
      have C2 : ∀ r : UpW W4, r.v.cell? ⟨g9, 2, none⟩ = some (.int .i64 p.z) := fun r => (bx_up b9 r.up 2 _ rfl).1
      have C3 : ∀ r : UpW W4, r.v.cell? ⟨g9, 3, none⟩ = some (.int .i64 p.l) := fun r => (bx_up b9 r.up 3 _ rfl).1
      have C4 : ∀ r : UpW W4, r.v.cell? ⟨g9, 4, none⟩ = some (.int .i64 p.w) := fun r => (bx_up b9 r.up 4 _ rfl).1
      have C5 : ∀ r : UpW W4, r.v.cell? ⟨g9, 5, none⟩ = some (.int .i64 p.h) := fun r => (bx_up b9 r.up 5 _ rfl).1
      have C6 : ∀ r : UpW W4, r.v.cell? ⟨g9, 6, none⟩ = some (.int .i64 p.m) := fun r => (bx_up b9 r.up 6 _ rfl).1
      have D0 : ∀ r : UpW W4, r.v.cell? ⟨b, off + i * 7, none⟩ = some (.int .i64 a.x) := fun r => (pceAt_up (unhide HCi) (up_trans V4 r.up)).1
      have D1 : ∀ r : UpW W4, r.v.cell? ⟨b, off + i * 7 + 1, none⟩ = some (.int .i64 a.y) := fun r => (pceAt_up (unhide HCi) (up_trans V4 r.up)).2.1
      have D2 : ∀ r : UpW W4, r.v.cell? ⟨b, off + i * 7 + 2, none⟩ = some (.int .i64 a.z) := fun r => (pceAt_up (unhide HCi) (up_trans V4 r.up)).2.2.1
      have D3 : ∀ r : UpW W4, r.v.cell? ⟨b, off + i * 7 + 3, none⟩ = some (.int .i64 a.l) := fun r => (pceAt_up (unhide HCi) (up_trans V4 r.up)).2.2.2.1
      have D4 : ∀ r : UpW W4, r.v.cell? ⟨b, off + i * 7 + 4, none⟩ = some (.int .i64 a.w) := fun r => (pceAt_up (unhide HCi) (up_trans V4 r.up)).2.2.2.2.1
      have D5 : ∀ r : UpW W4, r.v.cell? ⟨b, off + i * 7 + 5, none⟩ = some (.int .i64 a.h) := fun r => (pceAt_up (unhide HCi) (up_trans V4 r.up)).2.2.2.2.2.1
      have D6 : ∀ r : UpW W4, r.v.cell? ⟨b, off + i * 7 + 6, none⟩ = some (.int .i64 a.m) := fun r => (pceAt_up (unhide HCi) (up_trans V4 r.up)).2.2.2.2.2.2
      have HRu := hide (fun r : UpW W4 => unhide HRk r.v)
      generalize rsP a p = R at *
      cases R with
      | true =>
        refine wp_upq (by kernel_rfl) (by kernel_rfl) ?_; (repeat (go_big_quiet_step ((go_at_call 110; with_reducible exact upq (unhide HRu _))))); refine wpQuiet_nil ?_; intro _ hw'; obtain ⟨pq, hw''⟩ := hw'; subst hw''; have hpq := pq.up
        generalize pq.v = W50 at hpq ⊢
        have V5 := up_trans V4 hpq
        have OW := hide (own_upN ow4 hpq)
        have hlo : ∀ j, (Value.slice G l c).ownBlock = some j → w.heap.size ≤ j := fun j e => (ow4.lt j e).1
        have hb4 : w.heap.size ≤ W50.heap.size := V5.size
        rw [if_pos rfl] at hst
        have HST := hide hst
        have HM := hide hl'
        clear C0 C1 C2 C3 C4 C5 C6 D0 D1 D2 D3 D4 D5 D6 HRu HRk b9 ow4 V4 hpq hst hl'
        go_wp2_with (at_builtin; refine wpList_append_own _ rfl _ _ 45 rfl w.heap.size 3 i0' _ 1 8 Tryz.underlying45 (unhide HI) hz0 hz1 hz2 rfl (by decide) _ l (cellsN (rsT ps i k)) rfl ((unhide OW).alloc _) ⟨W50.heap.size, 0, none⟩ 1 1 [.int .i64 k] rfl rfl (one_newN _ _ _) (by intro u hu; simp at hu; rcases hu with rfl; rfl) (by unfold maxLen; omega) (by omega) (by simp; omega) ?_; intro v5 W5 hown hgr _)
        have V6 : Up w W5 := (up_alloc V5 _).grown hgr (up_alloc V5 _).size hlo
        obtain ⟨G5, c5', rfl⟩ : ∃ B5 c5, v5 = .slice B5 (l + 1) c5 := by
          rcases hown.2 with ⟨_, h2⟩ | ⟨g', c', cur, h1, _⟩
          · omega
          · exact ⟨_, _, h1⟩
        have HO := hide hown
        clear hgr hown OW
        go_roundw
        case rel => exact ⟨k + 1, G5, l + 1, c5', by omega, by go_num, rfl, by rw [unhide HST, List.length_append, ← unhide HM]; rfl, by rw [unhide HST, cellsN_snoc]; exact unhide HO, V6⟩
        case measure => simp [intOf]; omega
      | false =>
        refine wp_upq (by kernel_rfl) (by kernel_rfl) ?_; (repeat (go_big_quiet_step ((go_at_call 110; with_reducible exact upq (unhide HRu _))))); refine wpQuiet_nil ?_; intro _ hw'; obtain ⟨pq, hw''⟩ := hw'; subst hw''; have hpq := pq.up
        generalize pq.v = W50 at hpq ⊢
        have V5 := up_trans V4 hpq
        have OW := hide (own_upN ow4 hpq)
        rw [if_neg (by simp), List.append_nil] at hst
        have HST := hide hst
        clear C0 C1 C2 C3 C4 C5 C6 D0 D1 D2 D3 D4 D5 D6 HRu HRk b9 ow4 V4 hpq hst
        go_wp2_with fail
        go_roundw
        case rel => exact ⟨k + 1, G, l, c, by omega, by go_num, rfl, by rw [unhide HST]; exact hl', by rw [unhide HST]; exact unhide OW, V5⟩
        case measure => simp [intOf]; omega
    · obtain rfl : k = n := by omega
      have i1 : ¬ (k : Int) < (k : Int) := by omega
      go_wp2_with fail
      go_ret
      exact ⟨⟨_, rfl, by rw [← hl']; exact ow⟩, hu⟩
end Go.Proofs.YtdehnokcjnbjoaaGreat
