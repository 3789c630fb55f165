/- Pieces and eyes: which ones load's isPiece and isPlace, and the document's piece and eye, take. -/
import Derived.Test.YtdehnokcjnbjoaaGreatPlat
import Derived.Test.YtdehnokcjnbjoaaGreatUpQ
import Derived.Deep.Cut
import Derived.Deep.DeepCutAuto
import Derived.RegionTactic
namespace Go.Proofs.YtdehnokcjnbjoaaGreat
open Go.RowKit Go.Proofs.Gn
theorem p_withinL (n a b : Int) (w : World) :
    Calls Tryz.prog 58 #[.int .i64 n, .int .i64 a, .int .i64 b] w fun e w' => e = .returned (.bool (win n a b)) ∧ w = w' := by
  unfold win
  go_enter Tryz.func58, Tryz.ntmps58
  go_wp2
  · go_ret
    have h : a ≤ n := by assumption
    exact ⟨ret_bool (by simp [h]), rfl⟩
  · go_ret
    exact ⟨ret_bool (by simp; omega), rfl⟩
theorem win_t {n a b : Int} (h : win n a b = true) : a ≤ n ∧ n ≤ b := (win_iff n a b).1 h
theorem p_withinU (n a b : Int) (w : World) :
    Calls Tryz.prog 58 #[.int .i64 n, .int .i64 a, .int .i64 b] w fun e w' => e = .returned (.bool (win n a b)) ∧ Up w w' :=
  (p_withinL n a b w).mono fun _ _ h => ⟨h.1, h.2 ▸ up_refl _⟩
theorem bq {w : World} {b i : Nat} {v : Value} {vs : List Value} (h : Bx w b vs) (hv : vs[i]? = some v) : ∀ p : UpW w, p.v.cell? ⟨b, i, none⟩ = some v := fun p => (bx_up h p.up i _ hv).1
/-- A place of a piece or of an eye. -/
def plcL (x y z : Int) : Bool := win x (-131072) 131072 && (win y (-131072) 131072 && win z 0 131072)
set_option maxRecDepth 100000 in
set_option maxHeartbeats 4000000 in
theorem p_isPlace (x y z : Int) (w : World) :
    Calls Tryz.prog 106 #[.agg #[.int .i64 x, .int .i64 y, .int .i64 z]] w fun e w' => e = .returned (.bool (plcL x y z)) ∧ Up w w' := by
  have h1 := hide (fun W => p_withinU x (-131072) 131072 W)
  have h2 := hide (fun W => p_withinU y (-131072) 131072 W)
  have h3 := hide (fun W => p_withinU z 0 131072 W)
  unfold plcL
  generalize win x (-131072) 131072 = b1 at *
  generalize win y (-131072) 131072 = b2 at *
  generalize win z 0 131072 = b3 at *
  go_enter Tryz.func106, Tryz.ntmps106
  go_upto_region 2 with fail
  refine at_wp (fun W0 hW0 => ?_)
  have U0 : Up w W0 := by rw [hW0]; exact (by repeat' (first | (with_reducible exact up_refl _) | (with_reducible assumption) | (with_reducible refine up_alloc ?_ _) | (with_reducible refine up_drewN ?_ _) | (with_reducible refine up_drew ?_) | (with_reducible refine up_set ?_ (by first | (simp; done) | (simp; omega) | omega) _) | (refine up_trans ?_ (by with_reducible assumption))))
  have B0 : Bx W0 w.heap.size [.int .i64 x, .int .i64 y, .int .i64 z] := by rw [hW0]; exact bx_alloc (bx_new w _ 31) _
  have L0 : Bx W0 (w.heap.size + 1) [.int .i64 (-131072), .int .i64 (-131072), .int .i64 0] := by
    rw [hW0]
    have t := bx_new (w.alloc (.cells #[.int .i64 x, .int .i64 y, .int .i64 z] 31)) [.int .i64 (-131072), .int .i64 (-131072), .int .i64 0] 31
    rwa [sz1] at t
  clear hW0
  go_wp2_with fail
  refine wp_loop_rounds 4 ?_
  rw [rounds_succ]
  go_wp2_with fail
  have m0 := bq B0 (i := 0) (v := .int .i64 x) rfl
  have m1 := bq L0 (i := 0) (v := .int .i64 (-131072)) rfl
  refine wp_upq (by kernel_rfl) (by kernel_rfl) ?_; (repeat (go_big_quiet_step ((go_at_call 58; exact upq (unhide h1 _))))); refine wpQuiet_nil ?_; intro _ hw'; obtain ⟨pq, hw''⟩ := hw'; subst hw''; have hpq := pq.up
  generalize pq.v = W1 at hpq ⊢
  have B1 := bx_up B0 hpq
  have L1 := bx_up L0 hpq
  have U1 := up_trans U0 hpq
  clear m0 m1 B0 L0 U0 hpq h1
  cases b1
  · go_wp2_with fail
    go_ret
    exact ⟨rfl, U1⟩
  go_wp2_with fail
  rw [rounds_succ]
  go_wp2_with fail
  have m0 := bq B1 (i := 1) (v := .int .i64 y) rfl
  have m1 := bq L1 (i := 1) (v := .int .i64 (-131072)) rfl
  refine wp_upq (by kernel_rfl) (by kernel_rfl) ?_; (repeat (go_big_quiet_step ((go_at_call 58; exact upq (unhide h2 _))))); refine wpQuiet_nil ?_; intro _ hw'; obtain ⟨pq, hw''⟩ := hw'; subst hw''; have hpq := pq.up
  generalize pq.v = W2 at hpq ⊢
  have B2 := bx_up B1 hpq
  have L2 := bx_up L1 hpq
  have U2 := up_trans U1 hpq
  clear m0 m1 B1 L1 U1 hpq h2
  cases b2
  · go_wp2_with fail
    go_ret
    exact ⟨rfl, U2⟩
  go_wp2_with fail
  rw [rounds_succ]
  go_wp2_with fail
  have m0 := bq B2 (i := 2) (v := .int .i64 z) rfl
  have m1 := bq L2 (i := 2) (v := .int .i64 0) rfl
  refine wp_upq (by kernel_rfl) (by kernel_rfl) ?_; (repeat (go_big_quiet_step ((go_at_call 58; exact upq (unhide h3 _))))); refine wpQuiet_nil ?_; intro _ hw'; obtain ⟨pq, hw''⟩ := hw'; subst hw''; have hpq := pq.up
  generalize pq.v = W3 at hpq ⊢
  have B3 := bx_up B2 hpq
  have L3 := bx_up L2 hpq
  have U3 := up_trans U2 hpq
  clear m0 m1 B2 L2 U2 hpq h3
  cases b3
  · go_wp2_with fail
    go_ret
    exact ⟨rfl, U3⟩
  go_wp2_with fail
  rw [rounds_succ]
  go_wp2_with fail
  go_ret
  exact ⟨rfl, U3⟩
theorem bx_second (W : World) (o : Obj) (vs : List Value) (t : TypeId) : Bx ((W.alloc o).alloc (.cells vs.toArray t)) (W.heap.size + 1) vs := by
  have h := bx_new (W.alloc o) vs t
  rwa [sz1] at h
/-- A piece. -/
structure Pce where
  (x y z l w h m : Int)
abbrev pcV (p : Pce) : Value := .agg #[.int .i64 p.x, .int .i64 p.y, .int .i64 p.z, .int .i64 p.l, .int .i64 p.w, .int .i64 p.h, .int .i64 p.m]
/-- Is a piece valid, alone? -/
def okP (p : Pce) : Bool := plcL p.x p.y p.z && (win p.l 1 (131072 - p.x) && (win p.w 1 (131072 - p.y) && (win p.h 1 (131072 - p.z) && win p.m 0 16777216)))
theorem plcL_bd {x y z : Int} (h : plcL x y z = true) : (-131072 ≤ x ∧ x ≤ 131072) ∧ (-131072 ≤ y ∧ y ≤ 131072) ∧ 0 ≤ z ∧ z ≤ 131072 := by
  unfold plcL at h
  simp only [Bool.and_eq_true, win_iff] at h
  omega
set_option maxRecDepth 100000 in
set_option maxHeartbeats 8000000 in
theorem p_isPiece (p : Pce) (w : World) :
    Calls Tryz.prog 105 #[pcV p] w fun e w' => e = .returned (.bool (okP p)) ∧ Up w w' := by
  obtain ⟨x, y, z, l, wd, h, m⟩ := p
  have h0 := hide (fun W => p_isPlace x y z W)
  have hbd := hide (fun (hp : plcL x y z = true) => plcL_bd hp)
  have h1 := hide (fun W => p_withinU l 1 (131072 - x) W)
  have h2 := hide (fun W => p_withinU wd 1 (131072 - y) W)
  have h3 := hide (fun W => p_withinU h 1 (131072 - z) W)
  have h4 := hide (fun W => p_withinL m 0 16777216 W)
  unfold okP
  dsimp only
  generalize plcL x y z = b0 at *
  generalize win l 1 (131072 - x) = b1 at *
  generalize win wd 1 (131072 - y) = b2 at *
  generalize win h 1 (131072 - z) = b3 at *
  generalize win m 0 16777216 = b4 at *
  go_enter Tryz.func105, Tryz.ntmps105
  go_upto_region 1 with fail
  refine at_wp (fun W0 hW0 => ?_)
  have U0 : Up w W0 := by rw [hW0]; exact (by repeat' (first | (with_reducible exact up_refl _) | (with_reducible assumption) | (with_reducible refine up_alloc ?_ _) | (with_reducible refine up_drewN ?_ _) | (with_reducible refine up_drew ?_) | (with_reducible refine up_set ?_ (by first | (simp; done) | (simp; omega) | omega) _) | (refine up_trans ?_ (by with_reducible assumption))))
  have P0 : Bx W0 w.heap.size [.int .i64 x, .int .i64 y, .int .i64 z, .int .i64 l, .int .i64 wd, .int .i64 h, .int .i64 m] := by rw [hW0]; exact bx_new w _ 75
  clear hW0
  have c0 := (P0 0 _ rfl).1
  have c1 := (P0 1 _ rfl).1
  have c2 := (P0 2 _ rfl).1
  have c3 := (P0 3 _ rfl).1
  have c4 := (P0 4 _ rfl).1
  have c5 := (P0 5 _ rfl).1
  go_cut [3, 4] (fun sa sb wx => ∃ g k : Nat, sa = .pointer (some ⟨g, 0, none⟩) ∧ sb = .pointer (some ⟨k, 0, none⟩) ∧ Bx wx g [.int .i64 x, .int .i64 y, .int .i64 z] ∧ Bx wx k [.int .i64 l, .int .i64 wd, .int .i64 h] ∧ Up W0 wx)
  case first =>
    have HK := hide (show ∀ W' : World, Up W0 W' → W'.cell? ⟨w.heap.size, 0, none⟩ = some (.int .i64 x) ∧ W'.cell? ⟨w.heap.size, 1, none⟩ = some (.int .i64 y) ∧ W'.cell? ⟨w.heap.size, 2, none⟩ = some (.int .i64 z) ∧ W'.cell? ⟨w.heap.size, 3, none⟩ = some (.int .i64 l) ∧ W'.cell? ⟨w.heap.size, 4, none⟩ = some (.int .i64 wd) ∧ W'.cell? ⟨w.heap.size, 5, none⟩ = some (.int .i64 h) ∧ Up W0 W' from fun W' hW => ⟨(bx_up P0 hW 0 _ rfl).1, (bx_up P0 hW 1 _ rfl).1, (bx_up P0 hW 2 _ rfl).1, (bx_up P0 hW 3 _ rfl).1, (bx_up P0 hW 4 _ rfl).1, (bx_up P0 hW 5 _ rfl).1, hW⟩)
    have ur := up_refl W0
    go_region_held3 (fun W' => W'.cell? ⟨w.heap.size, 0, none⟩ = some (.int .i64 x) ∧ W'.cell? ⟨w.heap.size, 1, none⟩ = some (.int .i64 y) ∧ W'.cell? ⟨w.heap.size, 2, none⟩ = some (.int .i64 z) ∧ W'.cell? ⟨w.heap.size, 3, none⟩ = some (.int .i64 l) ∧ W'.cell? ⟨w.heap.size, 4, none⟩ = some (.int .i64 wd) ∧ W'.cell? ⟨w.heap.size, 5, none⟩ = some (.int .i64 h) ∧ Up W0 W') ((go_split_ands; exact unhide HK _ (by repeat' (first | (with_reducible exact up_refl _) | (with_reducible assumption) | (with_reducible refine up_alloc ?_ _) | (with_reducible refine up_drewN ?_ _) | (with_reducible refine up_drew ?_) | (with_reducible refine up_set ?_ (by first | (simp; done) | (simp; omega) | omega) _) | (refine up_trans ?_ (by with_reducible assumption)))))) (fail)
    all_goals
      go_wp2_with fail
      go_meet
      first
        | (refine ⟨W0.heap.size, W0.heap.size + 1, by with_reducible rfl, by with_reducible rfl, ?_, ?_, (by repeat' (first | (with_reducible exact up_refl _) | (with_reducible assumption) | (with_reducible refine up_alloc ?_ _) | (with_reducible refine up_drewN ?_ _) | (with_reducible refine up_drew ?_) | (with_reducible refine up_set ?_ (by first | (simp; done) | (simp; omega) | omega) _) | (refine up_trans ?_ (by with_reducible assumption))))⟩; (· exact bx_drew (bx_alloc (bx_new W0 [.int .i64 x, .int .i64 y, .int .i64 z] 31) _)); (· exact bx_drew (bx_second W0 _ [.int .i64 l, .int .i64 wd, .int .i64 h] 31)))
        | (refine ⟨W0.heap.size + 1, W0.heap.size, by with_reducible rfl, by with_reducible rfl, ?_, ?_, (by repeat' (first | (with_reducible exact up_refl _) | (with_reducible assumption) | (with_reducible refine up_alloc ?_ _) | (with_reducible refine up_drewN ?_ _) | (with_reducible refine up_drew ?_) | (with_reducible refine up_set ?_ (by first | (simp; done) | (simp; omega) | omega) _) | (refine up_trans ?_ (by with_reducible assumption))))⟩; (· exact bx_drew (bx_second W0 _ [.int .i64 x, .int .i64 y, .int .i64 z] 31)); (· exact bx_drew (bx_alloc (bx_new W0 [.int .i64 l, .int .i64 wd, .int .i64 h] 31) _)))
  case rest =>
    obtain ⟨g, k, rfl, rfl, B0, L0, hu⟩ := hcut
    have Q0 := bx_up P0 hu
    have V0 := up_trans U0 hu
    clear P0 U0 hu c0 c1 c2 c3 c4 c5
    obtain ⟨g0, g1, g2⟩ := bx3 B0
    cases b0
    · go_wp2_with (go_at_call 106; (with_reducible refine (unhide h0 _).mono ?_); rintro e w1 ⟨rfl, hb⟩)
      go_ret
      exact ⟨rfl, up_trans V0 hb⟩
    · obtain ⟨⟨x1, x2⟩, ⟨y1, y2⟩, z1, z2⟩ := unhide hbd rfl
      have w1 : IntKind.i64.wrap (131072 - x) = 131072 - x := IntWalk.i64_in _ ⟨by omega, by omega⟩
      have w2 : IntKind.i64.wrap (131072 - y) = 131072 - y := IntWalk.i64_in _ ⟨by omega, by omega⟩
      have w3 : IntKind.i64.wrap (131072 - z) = 131072 - z := IntWalk.i64_in _ ⟨by omega, by omega⟩
      go_upto_region 4 with (go_at_call 106; (with_reducible refine (unhide h0 _).mono ?_); rintro e W2 ⟨rfl, hb⟩)
      have B1 := bx_up B0 hb
      have L1 := bx_up L0 hb
      have Q1 := bx_up Q0 hb
      have U1 := up_trans V0 hb
      clear B0 L0 Q0 V0 hb h0 hbd x1 x2 y1 y2 z1 z2 g0 g1 g2
      go_wp2_with fail
      refine wp_loop_rounds 4 ?_
      rw [rounds_succ]
      go_wp2_with fail
      have m0 := bq L1 (i := 0) (v := .int .i64 l) rfl
      have m1 := bq B1 (i := 0) (v := .int .i64 x) rfl
      refine wp_upq (by kernel_rfl) (by kernel_rfl) ?_; (repeat (go_big_quiet_step ((go_at_call 58; exact upq (unhide h1 _))))); refine wpQuiet_nil ?_; intro _ hw'; obtain ⟨pq, hw''⟩ := hw'; subst hw''; have hpq := pq.up
      generalize pq.v = W2 at hpq ⊢
      have B2 := bx_up B1 hpq
      have L2 := bx_up L1 hpq
      have Q2 := bx_up Q1 hpq
      have U2 := up_trans U1 hpq
      clear m0 m1 B1 L1 Q1 U1 hpq h1 w1
      cases b1
      · go_wp2_with fail
        go_ret
        exact ⟨rfl, U2⟩
      go_wp2_with fail
      rw [rounds_succ]
      go_wp2_with fail
      have m0 := bq L2 (i := 1) (v := .int .i64 wd) rfl
      have m1 := bq B2 (i := 1) (v := .int .i64 y) rfl
      refine wp_upq (by kernel_rfl) (by kernel_rfl) ?_; (repeat (go_big_quiet_step ((go_at_call 58; exact upq (unhide h2 _))))); refine wpQuiet_nil ?_; intro _ hw'; obtain ⟨pq, hw''⟩ := hw'; subst hw''; have hpq := pq.up
      generalize pq.v = W3 at hpq ⊢
      have B3 := bx_up B2 hpq
      have L3 := bx_up L2 hpq
      have Q3 := bx_up Q2 hpq
      have U3 := up_trans U2 hpq
      clear m0 m1 B2 L2 Q2 U2 hpq h2 w2
      cases b2
      · go_wp2_with fail
        go_ret
        exact ⟨rfl, U3⟩
      go_wp2_with fail
      rw [rounds_succ]
      go_wp2_with fail
      have m0 := bq L3 (i := 2) (v := .int .i64 h) rfl
      have m1 := bq B3 (i := 2) (v := .int .i64 z) rfl
      refine wp_upq (by kernel_rfl) (by kernel_rfl) ?_; (repeat (go_big_quiet_step ((go_at_call 58; exact upq (unhide h3 _))))); refine wpQuiet_nil ?_; intro _ hw'; obtain ⟨pq, hw''⟩ := hw'; subst hw''; have hpq := pq.up
      generalize pq.v = W4 at hpq ⊢
      have B4 := bx_up B3 hpq
      have L4 := bx_up L3 hpq
      have Q4 := bx_up Q3 hpq
      have U4 := up_trans U3 hpq
      clear m0 m1 B3 L3 Q3 U3 hpq h3 w3
      cases b3
      · go_wp2_with fail
        go_ret
        exact ⟨rfl, U4⟩
      go_wp2_with fail
      rw [rounds_succ]
      have q6 := (Q4 6 _ rfl).1
      go_wp2_with (go_at_call 58; (with_reducible refine (unhide h4 _).mono ?_); rintro e w5 ⟨rfl, rfl⟩)
      go_ret
      exact ⟨rfl, U4⟩
end Go.Proofs.YtdehnokcjnbjoaaGreat
