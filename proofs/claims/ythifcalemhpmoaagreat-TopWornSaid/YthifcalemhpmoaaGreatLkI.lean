/- A placed vehicle: the program's test of its pose. -/
import Derived.Test.YthifcalemhpmoaaGreatLkV
namespace Go.Proofs.YthifcalemhpmoaaGreat
open Go.RowKit Go.Proofs.Gn
attribute [local go_sem] Oper.semAt_some
set_option linter.unusedVariables false
set_option maxRecDepth 100000 in
set_option maxHeartbeats 8000000 in
theorem p_isValid (nm fr tt : Value) (Au : Option Addr) (us : List Unt) (cu : Nat) (lx ly : Int) (Aa : Option Addr) (qs : Pl) (ca : Nat) (w : World)
    (hU : us = [] ∨ ∃ b off, Au = some ⟨b, off, none⟩ ∧ ∀ k (h : k < us.length), UntC w b (off + k * 11) us[k]) (hQ : Pts w Aa qs) (hu : ∀ u ∈ us, okU u = true) (hn : us.length ≤ 9223372036854775807) (hq : qs.length ≤ 9223372036854775807)
    (hAu : ∀ b off, Au = some ⟨b, off, none⟩ → b < w.heap.size) (hAa : ∀ b off, Aa = some ⟨b, off, none⟩ → b < w.heap.size) :
    Calls Tryz.prog 85 #[.agg #[nm, .slice Au us.length cu, fr, tt, .int .i64 lx, .int .i64 ly, .slice Aa qs.length ca]] w fun e w' => e = .returned (.bool (posOk us lx ly qs)) ∧ Up w w' := by
  by_cases hlen : qs.length = us.length
  rotate_left
  · have he : posOk us lx ly qs = false := by unfold posOk; simp [hlen]
    rw [he]
    have hl2 : ¬ ((qs.length : Int) = (us.length : Int)) := by omega
    have hl3 : ((qs.length : Int) == (us.length : Int)) = false := beq_eq_false_iff_ne.2 hl2
    clear he hU hQ hu hAu hAa
    generalize us.length = N at *
    obtain ⟨M, hM⟩ : ∃ M, qs.length = M := ⟨_, rfl⟩
    rw [hM] at hlen hl2 hl3 hq ⊢
    clear hM
    go_enter Tryz.func85, Tryz.ntmps85
    go_wp2
    first
      | (refine bodyPost_ret (v := .bool false) (by simp [results, Tryz.f85, go_sem]) rfl ?_; exact ⟨rfl, (by repeat' (first | (with_reducible exact up_refl _) | (with_reducible assumption) | (with_reducible refine up_alloc ?_ _) | (with_reducible refine up_drewN ?_ _) | (with_reducible refine up_drew ?_) | (with_reducible refine up_set ?_ (by first | (simp; done) | (simp; omega) | omega) _) | (refine up_trans ?_ (by with_reducible assumption))))⟩)
      | (trace_state; sorry)
  · refine (callsIn_wide (n := 9)).1 ?_
    obtain ⟨p, hp⟩ : ∃ p : Nat → Prop, p = fun k => k = w.heap.size + 1 ∨ k = w.heap.size + 1 + 1 := ⟨_, rfl⟩
    have hp1 : ∀ k, p k → w.heap.size ≤ k := fun k h => by rw [hp] at h; rcases h with h | h <;> omega
    have hp2 : ∀ k, p k → k < w.heap.size + 3 := fun k h => by rw [hp] at h; rcases h with h | h <;> omega
    have hq1 : p (w.heap.size + 1) := by rw [hp]; exact .inl rfl
    have hq2 : p (w.heap.size + 1 + 1) := by rw [hp]; exact .inr rfl
    have hq3 : ¬ p w.heap.size := by rw [hp]; rintro (h | h) <;> omega
    clear hp
    have hSq := fun (W : World) (Bc : Nat) (hU0 : Up w W) (hz : w.heap.size + 3 ≤ W.heap.size) (hB : w.heap.size + 3 ≤ Bc) (hb : Bx W Bc [nm, .slice Au us.length cu, fr, tt, .int .i64 lx, .int .i64 ly, .slice Aa qs.length ca]) => lk_seq p (W.heap.size + 2) Bc Au us cu lx ly Aa qs ca W
      ⟨(hb 1 _ rfl).1, (hb 4 _ rfl).1, (hb 5 _ rfl).1, (hb 6 _ rfl).1, by
        rcases hU with h0 | ⟨b, off, e, hc⟩
        · exact .inl h0
        · refine .inr ⟨b, off, e, fun k hk => ?_⟩
          obtain ⟨h0, h1, h2, h3, h4, h5, h6, h7, h8, h9, h10⟩ := hc k hk
          exact ⟨up_cell hU0 h0, up_cell hU0 h1, up_cell hU0 h2, up_cell hU0 h3, up_cell hU0 h4, up_cell hU0 h5, up_cell hU0 h6, up_cell hU0 h7, up_cell hU0 h8, up_cell hU0 h9, up_cell hU0 h10⟩, pts_up hQ hU0⟩
      ⟨fun h => by have := hp2 _ h; omega, fun b off e h => by have := hp1 _ h; have := hAu b off e; omega, fun b off e h => by have := hp1 _ h; have := hAa b off e; omega⟩ (fun k h => by have := hp2 _ h; omega) hu (by omega) hn hq 8 (by omega)
    have HSq := hide hSq
    have hpo : posOk us lx ly qs = ((lkS 0 us lx ly qs).all lkOk && decide ((lkS 0 us lx ly qs).length = us.length)) := by unfold posOk; simp [hlen]
    rw [hpo]
    have hll := lkS_len us 0 lx ly qs
    have HPQ := hide (⟨hq1, hq2, hq3, hp1, hp2⟩ : _ ∧ _ ∧ _ ∧ _ ∧ _)
    clear hSq hpo hU hQ hu hAu hAa hp1 hp2 hq1 hq2 hq3
    obtain ⟨WL, hWL⟩ : ∃ WL, lkS 0 us lx ly qs = WL := ⟨_, rfl⟩
    rw [hWL] at HSq hll ⊢
    clear hWL
    obtain ⟨N, hN⟩ : ∃ N, us.length = N := ⟨_, rfl⟩
    rw [hlen] at HSq hq ⊢
    rw [hN] at HSq hll hn hq hlen ⊢
    clear hN hlen
    obtain ⟨ans, hans⟩ : ∃ ans, (WL.all lkOk && decide (WL.length = N)) = ans := ⟨_, rfl⟩
    rw [hans]
    have HAns := hide hans
    clear hans
    have rO : Fence.wide.round = none := rfl
    have h1 : 1 ≤ 9 := by omega
    have HPC := hide (fun x y W => p_Check x y W)
    refine callsIn_of_wp_marks Tryz.func85 rfl trivial ?_ rfl
    simp only [Tryz.ntmps85, List.size_toArray, List.length_cons, List.length_nil, Nat.reduceAdd, Nat.reduceSub, Array.replicate_succ, Array.replicate_zero, List.push_toArray, List.append_toArray, List.nil_append, List.cons_append]
    gi_wp2_with ((try refine ⟨trivial, ?_⟩); gi_at_call 118; (with_reducible refine CallsIn.mono (lk_make _ nm Au _ cu fr tt _ _ Aa _ ca _) ?_); rintro e w2 ⟨rfl, rfl⟩)
    refine at_wpIn (fun W0 hW0 => ?_)
    have U0 : Up w W0 := by rw [hW0]; exact (by repeat' (first | (with_reducible exact up_refl _) | (with_reducible assumption) | (with_reducible refine up_alloc ?_ _) | (with_reducible refine up_drewN ?_ _) | (with_reducible refine up_drew ?_) | (with_reducible refine up_set ?_ (by first | (simp; done) | (simp; omega) | omega) _) | (refine up_trans ?_ (by with_reducible assumption))))
    have hz0 : W0.heap.size = w.heap.size + 4 := by rw [hW0]; simp
    obtain ⟨b1, b2, b3, b4⟩ : Bx W0 w.heap.size [nm, .slice Au N cu, fr, tt, .int .i64 lx, .int .i64 ly, .slice Aa N ca] ∧ Bx W0 (w.heap.size + 1) [.bool false] ∧ Bx W0 (w.heap.size + 1 + 1) [.int .i64 0] ∧ Bx W0 (w.heap.size + 1 + 1 + 1) [nm, .slice Au N cu, fr, tt, .int .i64 lx, .int .i64 ly, .slice Aa N ca] := by
      rw [hW0]
      refine ⟨bx_alloc (bx_alloc (bx_alloc (bx_new w _ _) _) _) _, ?_, ?_, ?_⟩
      · have t := bx_new (w.alloc (.cells #[nm, .slice Au N cu, fr, tt, .int .i64 lx, .int .i64 ly, .slice Aa N ca] 157)) [.bool false] 4
        rw [World.size_alloc] at t
        exact bx_alloc (bx_alloc t _) _
      · have t := bx_new ((w.alloc (.cells #[nm, .slice Au N cu, fr, tt, .int .i64 lx, .int .i64 ly, .slice Aa N ca] 157)).alloc (.cells #[.bool false] 4)) [.int .i64 0] 3
        rw [World.size_alloc, World.size_alloc] at t
        exact bx_alloc t _
      · have t := bx_new (((w.alloc (.cells #[nm, .slice Au N cu, fr, tt, .int .i64 lx, .int .i64 ly, .slice Aa N ca] 157)).alloc (.cells #[.bool false] 4)).alloc (.cells #[.int .i64 0] 3)) [nm, .slice Au N cu, fr, tt, .int .i64 lx, .int .i64 ly, .slice Aa N ca] 157
        rw [World.size_alloc, World.size_alloc, World.size_alloc] at t
        exact t
    clear hW0
    obtain ⟨hq1, hq2, hq3, hp1, hp2⟩ := unhide HPQ
    have hsq := unhide HSq W0 _ U0 (by omega) (by omega) b4
    have HB1 := hide b1
    have HU0 := hide U0
    clear HSq U0 b1 b4
    refine wpIn_rangeFunc_ownZ rO h1 (gf := 131) (lb := #[.pointer (some ⟨w.heap.size + 1 + 1 + 1, 0, none⟩)]) rfl trivial (enters_of Tryz.func131 (by kernel_rfl) rfl)
      hsq (Below.refl _ _) kpQ_trans (fun V o o' h hc _ => kpQ_put V _ o o' (by omega) h hc) (fun _ => rfl)
      (LvE p w W0) (fun c xs V => c = .ret ∧ LvX w xs V) (lvE_own (by omega)) (fun c xs V V' row hs hg hr => ⟨hs.1, lvX_own (B := W0.heap.size) (by omega) xs V V' row hs.2 hg hr⟩)
      (fun n hn => lvE_below (by omega) (by omega)) (fun c n hn xs V V' hs hb => ⟨hs.1, lvX_below (n := n) (by omega) xs V V' hs.2 hb⟩)
      ⟨fun x h => (by cases h), b2, b3, kpP_refl _, unhide HU0⟩
      (fun _ x a' V => ∃ B, a' = { tmps := #[.agg #[nm, .slice Au N cu, fr, tt, .int .i64 lx, .int .i64 ly, .slice Aa N ca], .pointer (some ⟨w.heap.size, 0, none⟩), .pointer (some ⟨w.heap.size + 1, 0, none⟩), .pointer (some ⟨w.heap.size + 1 + 1, 0, none⟩), undef, .pointer (some ⟨B, 0, none⟩), .pointer (some ⟨w.heap.size, 4, none⟩), .pointer (some ⟨w.heap.size, 6, none⟩), .slice Aa N ca, .int .i64 (N : Int), .pointer (some ⟨w.heap.size, 0, none⟩), .pointer (some ⟨w.heap.size, 1, none⟩), .slice Au N cu, .int .i64 (N : Int), .bool false, .agg #[nm, .slice Au N cu, fr, tt, .int .i64 lx, .int .i64 ly, .slice Aa N ca], .func (.func 131) #[] #[.pointer (some ⟨w.heap.size + 1 + 1 + 1, 0, none⟩)], .int .i64 (x.k : Int), linkV x, undef, undef, undef, undef, undef, undef, undef, undef, undef, undef, undef, undef, undef, undef, undef, undef, undef, undef, undef, undef, undef, undef, undef, undef, undef], defers := [] } ∧ w.heap.size + 4 ≤ B ∧ Bx V B [.int .i64 x.u.kd, .int .i64 x.u.le, .int .i64 x.u.be, .int .i64 x.u.fr, .int .i64 x.u.re, .int .i64 x.u.wi, .int .i64 x.u.he, .int .i64 x.u.ma, .int .i64 x.u.st, .int .i64 x.u.mo, .slice x.u.A x.u.xs.length x.u.cap, .int .i64 x.jx, .int .i64 x.jy, .int .i64 x.ax, .int .i64 x.ay])
      (fun xs x a' _ X Y row hs hg hr => by
        obtain ⟨B, h1, h2, h3⟩ := hs
        exact ⟨B, h1, h2, bx_ownP h3 hg (fun r e => (hr r e).2)⟩)
      ?assign ?body ?done ?stop
    case assign =>
      rintro lp xs x V K hI _ hK
      have hz : w.heap.size + 4 ≤ V.heap.size := by have := hI.kp.1; omega
      have ha : Up V (V.alloc (.cells ([.int .i64 x.u.kd, .int .i64 x.u.le, .int .i64 x.u.be, .int .i64 x.u.fr, .int .i64 x.u.re, .int .i64 x.u.wi, .int .i64 x.u.he, .int .i64 x.u.ma, .int .i64 x.u.st, .int .i64 x.u.mo, .slice x.u.A x.u.xs.length x.u.cap, .int .i64 x.jx, .int .i64 x.jy, .int .i64 x.ax, .int .i64 x.ay] : List Value).toArray 153)) := (by repeat' (first | (with_reducible exact up_refl _) | (with_reducible assumption) | (with_reducible refine up_alloc ?_ _) | (with_reducible refine up_drewN ?_ _) | (with_reducible refine up_drew ?_) | (with_reducible refine up_set ?_ (by first | (simp; done) | (simp; omega) | omega) _) | (refine up_trans ?_ (by with_reducible assumption))))
      have hk := hK { tmps := #[.agg #[nm, .slice Au N cu, fr, tt, .int .i64 lx, .int .i64 ly, .slice Aa N ca], .pointer (some ⟨w.heap.size, 0, none⟩), .pointer (some ⟨w.heap.size + 1, 0, none⟩), .pointer (some ⟨w.heap.size + 1 + 1, 0, none⟩), undef, .pointer (some ⟨V.heap.size, 0, none⟩), .pointer (some ⟨w.heap.size, 4, none⟩), .pointer (some ⟨w.heap.size, 6, none⟩), .slice Aa N ca, .int .i64 (N : Int), .pointer (some ⟨w.heap.size, 0, none⟩), .pointer (some ⟨w.heap.size, 1, none⟩), .slice Au N cu, .int .i64 (N : Int), .bool false, .agg #[nm, .slice Au N cu, fr, tt, .int .i64 lx, .int .i64 ly, .slice Aa N ca], .func (.func 131) #[] #[.pointer (some ⟨w.heap.size + 1 + 1 + 1, 0, none⟩)], .int .i64 (x.k : Int), linkV x, undef, undef, undef, undef, undef, undef, undef, undef, undef, undef, undef, undef, undef, undef, undef, undef, undef, undef, undef, undef, undef, undef, undef, undef, undef], defers := [] } (V.alloc (.cells ([.int .i64 x.u.kd, .int .i64 x.u.le, .int .i64 x.u.be, .int .i64 x.u.fr, .int .i64 x.u.re, .int .i64 x.u.wi, .int .i64 x.u.he, .int .i64 x.u.ma, .int .i64 x.u.st, .int .i64 x.u.mo, .slice x.u.A x.u.xs.length x.u.cap, .int .i64 x.jx, .int .i64 x.jy, .int .i64 x.ax, .int .i64 x.ay] : List Value).toArray 153)) (up_kfP ha) (kpQ_up ha) ⟨hI.ok, bx_up hI.rs ha, bx_up hI.fo ha, kpP_trans hI.kp (kpP_up ha), up_trans hI.up ha⟩ ⟨V.heap.size, rfl, hz, bx_new V _ _⟩
      have HKK := hide hk
      clear hk hK
      gi_wp2
      exact unhide HKK
    case body =>
      rintro lp xs x a' V hlo hrec hI ⟨B, rfl, hBB, hbx⟩
      have HSf := hide (fun (V1 : World) (hu : Up V V1) (hno : lkOk x = false) => (⟨(up_kfP hu).trans ((KeepsOthers.setCell _ _ _).from _), ⟨x, by simp, hno⟩, bx_set (bx_up hI.rs hu) 0 _, up_set (up_trans hI.up hu) (by simp only; omega) _⟩ : KeepsFrom W0.heap.size V (V1.setCell ⟨w.heap.size + 1, 0, none⟩ (.bool false)) ∧ LvX w (xs ++ [x]) (V1.setCell ⟨w.heap.size + 1, 0, none⟩ (.bool false))))
      have hst : IntKind.i64.wrap (((xs ++ [x]).length : Nat) : Int) = IntKind.i64.wrap (IntKind.i64.wrap (xs.length : Int) + 1) := by rw [wrap_step]; congr 1; simp
      have HFo := hide (fun (V1 : World) (hu : Up V V1) (hok : lkOk x = true) => (⟨(up_kfP hu).trans ((KeepsOthers.setCell _ _ _).from _), kpQ_trans (kpQ_up hu) (kpQ_set V1 _ (i := 0) hq2), fun y hy => by
          rcases List.mem_append.1 hy with h | h
          · exact hI.ok y h
          · rw [List.mem_singleton.1 h]; exact hok, bx_far (bx_up hI.rs hu) (p := ⟨w.heap.size + 1 + 1, 0, none⟩) (by simp only; omega) _, by rw [hst]; exact bx_set (bx_up hI.fo hu) 0 _, kpP_trans hI.kp (kpP_trans (kpP_up hu) (kpP_set V1 _ (i := 0) hq2)), up_set (up_trans hI.up hu) (by simp only; omega) _⟩ : KeepsFrom W0.heap.size V (V1.setCell ⟨w.heap.size + 1 + 1, 0, none⟩ (.int .i64 (IntKind.i64.wrap (IntKind.i64.wrap (xs.length : Int) + 1)))) ∧ KpQ p (W0.heap.size + 2) V (V1.setCell ⟨w.heap.size + 1 + 1, 0, none⟩ (.int .i64 (IntKind.i64.wrap (IntKind.i64.wrap (xs.length : Int) + 1)))) ∧ LvE p w W0 (xs ++ [x]) (V1.setCell ⟨w.heap.size + 1 + 1, 0, none⟩ (.int .i64 (IntKind.i64.wrap (IntKind.i64.wrap (xs.length : Int) + 1))))))
      have hrs := hI.rs
      have hfo := hI.fo
      obtain ⟨L, hL⟩ : ∃ L, IntKind.i64.wrap (xs.length : Int) = L := ⟨_, rfl⟩
      rw [hL] at HFo hfo
      obtain ⟨L1, hL1⟩ : ∃ L1, IntKind.i64.wrap (L + 1) = L1 := ⟨_, rfl⟩
      rw [hL1] at HFo
      have H1 := hide (fun W => unhide HPC x.jx x.jy W)
      have H2 := hide (fun W => unhide HPC x.ax x.ay W)
      have hlk : lkOk x = (okp x.jx x.jy && okp x.ax x.ay && !(x.jx == x.ax && x.jy == x.ay)) := rfl
      obtain ⟨k, ⟨kd, le, be, fr0, re, wi, he, ma, st, mo, A, axs, cap⟩, jx, jy, ax, ay⟩ := x
      dsimp only [linkV] at *
      generalize axs.length = un at *
      obtain ⟨bv, hbv⟩ : ∃ bv, lkOk ⟨k, ⟨kd, le, be, fr0, re, wi, he, ma, st, mo, A, axs, cap⟩, jx, jy, ax, ay⟩ = bv := ⟨_, rfl⟩
      rw [hbv] at HSf HFo hlk
      have x11 := (hbx 11 _ rfl).1
      have x12 := (hbx 12 _ rfl).1
      have x13 := (hbx 13 _ rfl).1
      have x14 := (hbx 14 _ rfl).1
      clear hbv hI hL hst b2 b3 hsq HB1 HU0 HPQ HPC hrec
      unfold chk at H1 H2
      cases e1 : okp jx jy with
      | false =>
        rw [e1] at hlk H1
        simp only [Bool.false_and] at hlk
        simp only [Bool.false_eq_true, if_false] at H1
        obtain rfl := hlk
        gi_wp2_with (first | ((try refine ⟨trivial, ?_⟩); gi_at_call 111; (with_reducible refine CallsIn.mono (CallsIn.inRound lp (callsIn_wide.2 (unhide H1 _))) ?_); rintro e V1 ⟨rfl, hu1⟩; have hb1 := bx_up hbx hu1; have x11 := (hb1 11 _ rfl).1; have x12 := (hb1 12 _ rfl).1; have x13 := (hb1 13 _ rfl).1; have x14 := (hb1 14 _ rfl).1; have rx := bx1 (bx_up hrs hu1); have rfx := ((bx_up hrs hu1) 0 _ rfl).2; have fx := bx1 (bx_up hfo hu1); have ffx := ((bx_up hfo hu1) 0 _ rfl).2) | ((try refine ⟨trivial, ?_⟩); gi_at_call 111; (with_reducible refine CallsIn.mono (CallsIn.inRound lp (callsIn_wide.2 (unhide H2 _))) ?_); rintro e V2 ⟨rfl, hu2⟩; have hu12 := up_trans hu1 hu2; have hb2 := bx_up hb1 hu2; have y11 := (hb2 11 _ rfl).1; have y12 := (hb2 12 _ rfl).1; have y13 := (hb2 13 _ rfl).1; have y14 := (hb2 14 _ rfl).1; have ry := bx1 (bx_up hrs hu12); have rfy := ((bx_up hrs hu12) 0 _ rfl).2; have fy := bx1 (bx_up hfo hu12); have ffy := ((bx_up hfo hu12) 0 _ rfl).2))
        refine ⟨trivial, ?_⟩
        gi_wp2
        exact ⟨(unhide HSf _ (by repeat' (first | (with_reducible exact up_refl _) | (with_reducible assumption) | (with_reducible refine up_alloc ?_ _) | (with_reducible refine up_drewN ?_ _) | (with_reducible refine up_drew ?_) | (with_reducible refine up_set ?_ (by first | (simp; done) | (simp; omega) | omega) _) | (refine up_trans ?_ (by with_reducible assumption)))) (by trivial)).1, rfl, (unhide HSf _ (by repeat' (first | (with_reducible exact up_refl _) | (with_reducible assumption) | (with_reducible refine up_alloc ?_ _) | (with_reducible refine up_drewN ?_ _) | (with_reducible refine up_drew ?_) | (with_reducible refine up_set ?_ (by first | (simp; done) | (simp; omega) | omega) _) | (refine up_trans ?_ (by with_reducible assumption)))) (by trivial)).2⟩
      | true =>
        rw [e1] at hlk H1
        simp only [if_true] at H1
        cases e2 : okp ax ay with
        | false =>
          rw [e2] at hlk H2
          simp only [Bool.and_false, Bool.false_and] at hlk
          simp only [Bool.false_eq_true, if_false] at H2
          obtain rfl := hlk
          gi_wp2_with (first | ((try refine ⟨trivial, ?_⟩); gi_at_call 111; (with_reducible refine CallsIn.mono (CallsIn.inRound lp (callsIn_wide.2 (unhide H1 _))) ?_); rintro e V1 ⟨rfl, hu1⟩; have hb1 := bx_up hbx hu1; have x11 := (hb1 11 _ rfl).1; have x12 := (hb1 12 _ rfl).1; have x13 := (hb1 13 _ rfl).1; have x14 := (hb1 14 _ rfl).1; have rx := bx1 (bx_up hrs hu1); have rfx := ((bx_up hrs hu1) 0 _ rfl).2; have fx := bx1 (bx_up hfo hu1); have ffx := ((bx_up hfo hu1) 0 _ rfl).2) | ((try refine ⟨trivial, ?_⟩); gi_at_call 111; (with_reducible refine CallsIn.mono (CallsIn.inRound lp (callsIn_wide.2 (unhide H2 _))) ?_); rintro e V2 ⟨rfl, hu2⟩; have hu12 := up_trans hu1 hu2; have hb2 := bx_up hb1 hu2; have y11 := (hb2 11 _ rfl).1; have y12 := (hb2 12 _ rfl).1; have y13 := (hb2 13 _ rfl).1; have y14 := (hb2 14 _ rfl).1; have ry := bx1 (bx_up hrs hu12); have rfy := ((bx_up hrs hu12) 0 _ rfl).2; have fy := bx1 (bx_up hfo hu12); have ffy := ((bx_up hfo hu12) 0 _ rfl).2))
          exact ⟨(unhide HSf _ (by repeat' (first | (with_reducible exact up_refl _) | (with_reducible assumption) | (with_reducible refine up_alloc ?_ _) | (with_reducible refine up_drewN ?_ _) | (with_reducible refine up_drew ?_) | (with_reducible refine up_set ?_ (by first | (simp; done) | (simp; omega) | omega) _) | (refine up_trans ?_ (by with_reducible assumption)))) (by trivial)).1, rfl, (unhide HSf _ (by repeat' (first | (with_reducible exact up_refl _) | (with_reducible assumption) | (with_reducible refine up_alloc ?_ _) | (with_reducible refine up_drewN ?_ _) | (with_reducible refine up_drew ?_) | (with_reducible refine up_set ?_ (by first | (simp; done) | (simp; omega) | omega) _) | (refine up_trans ?_ (by with_reducible assumption)))) (by trivial)).2⟩
        | true =>
          rw [e2] at hlk H2
          simp only [if_true] at H2
          simp only [Bool.and_self, Bool.true_and] at hlk
          by_cases ex : jx = ax
          · by_cases ey : jy = ay
            · obtain rfl := ex
              obtain rfl := ey
              simp at hlk
              obtain rfl := hlk
              gi_wp2_with (first | ((try refine ⟨trivial, ?_⟩); gi_at_call 111; (with_reducible refine CallsIn.mono (CallsIn.inRound lp (callsIn_wide.2 (unhide H1 _))) ?_); rintro e V1 ⟨rfl, hu1⟩; have hb1 := bx_up hbx hu1; have x11 := (hb1 11 _ rfl).1; have x12 := (hb1 12 _ rfl).1; have x13 := (hb1 13 _ rfl).1; have x14 := (hb1 14 _ rfl).1; have rx := bx1 (bx_up hrs hu1); have rfx := ((bx_up hrs hu1) 0 _ rfl).2; have fx := bx1 (bx_up hfo hu1); have ffx := ((bx_up hfo hu1) 0 _ rfl).2) | ((try refine ⟨trivial, ?_⟩); gi_at_call 111; (with_reducible refine CallsIn.mono (CallsIn.inRound lp (callsIn_wide.2 (unhide H2 _))) ?_); rintro e V2 ⟨rfl, hu2⟩; have hu12 := up_trans hu1 hu2; have hb2 := bx_up hb1 hu2; have y11 := (hb2 11 _ rfl).1; have y12 := (hb2 12 _ rfl).1; have y13 := (hb2 13 _ rfl).1; have y14 := (hb2 14 _ rfl).1; have ry := bx1 (bx_up hrs hu12); have rfy := ((bx_up hrs hu12) 0 _ rfl).2; have fy := bx1 (bx_up hfo hu12); have ffy := ((bx_up hfo hu12) 0 _ rfl).2))
              exact ⟨(unhide HSf _ (by repeat' (first | (with_reducible exact up_refl _) | (with_reducible assumption) | (with_reducible refine up_alloc ?_ _) | (with_reducible refine up_drewN ?_ _) | (with_reducible refine up_drew ?_) | (with_reducible refine up_set ?_ (by first | (simp; done) | (simp; omega) | omega) _) | (refine up_trans ?_ (by with_reducible assumption)))) (by trivial)).1, rfl, (unhide HSf _ (by repeat' (first | (with_reducible exact up_refl _) | (with_reducible assumption) | (with_reducible refine up_alloc ?_ _) | (with_reducible refine up_drewN ?_ _) | (with_reducible refine up_drew ?_) | (with_reducible refine up_set ?_ (by first | (simp; done) | (simp; omega) | omega) _) | (refine up_trans ?_ (by with_reducible assumption)))) (by trivial)).2⟩
            · obtain rfl := ex
              have ey0 : (jy == ay) = false := beq_eq_false_iff_ne.2 ey
              simp [ey0] at hlk
              obtain rfl := hlk
              gi_wp2_with (first | ((try refine ⟨trivial, ?_⟩); gi_at_call 111; (with_reducible refine CallsIn.mono (CallsIn.inRound lp (callsIn_wide.2 (unhide H1 _))) ?_); rintro e V1 ⟨rfl, hu1⟩; have hb1 := bx_up hbx hu1; have x11 := (hb1 11 _ rfl).1; have x12 := (hb1 12 _ rfl).1; have x13 := (hb1 13 _ rfl).1; have x14 := (hb1 14 _ rfl).1; have rx := bx1 (bx_up hrs hu1); have rfx := ((bx_up hrs hu1) 0 _ rfl).2; have fx := bx1 (bx_up hfo hu1); have ffx := ((bx_up hfo hu1) 0 _ rfl).2) | ((try refine ⟨trivial, ?_⟩); gi_at_call 111; (with_reducible refine CallsIn.mono (CallsIn.inRound lp (callsIn_wide.2 (unhide H2 _))) ?_); rintro e V2 ⟨rfl, hu2⟩; have hu12 := up_trans hu1 hu2; have hb2 := bx_up hb1 hu2; have y11 := (hb2 11 _ rfl).1; have y12 := (hb2 12 _ rfl).1; have y13 := (hb2 13 _ rfl).1; have y14 := (hb2 14 _ rfl).1; have ry := bx1 (bx_up hrs hu12); have rfy := ((bx_up hrs hu12) 0 _ rfl).2; have fy := bx1 (bx_up hfo hu12); have ffy := ((bx_up hfo hu12) 0 _ rfl).2))
              exact unhide HFo _ (by repeat' (first | (with_reducible exact up_refl _) | (with_reducible assumption) | (with_reducible refine up_alloc ?_ _) | (with_reducible refine up_drewN ?_ _) | (with_reducible refine up_drew ?_) | (with_reducible refine up_set ?_ (by first | (simp; done) | (simp; omega) | omega) _) | (refine up_trans ?_ (by with_reducible assumption)))) (by trivial)
          · have ex0 : (jx == ax) = false := beq_eq_false_iff_ne.2 ex
            simp [ex0] at hlk
            obtain rfl := hlk
            gi_wp2_with (first | ((try refine ⟨trivial, ?_⟩); gi_at_call 111; (with_reducible refine CallsIn.mono (CallsIn.inRound lp (callsIn_wide.2 (unhide H1 _))) ?_); rintro e V1 ⟨rfl, hu1⟩; have hb1 := bx_up hbx hu1; have x11 := (hb1 11 _ rfl).1; have x12 := (hb1 12 _ rfl).1; have x13 := (hb1 13 _ rfl).1; have x14 := (hb1 14 _ rfl).1; have rx := bx1 (bx_up hrs hu1); have rfx := ((bx_up hrs hu1) 0 _ rfl).2; have fx := bx1 (bx_up hfo hu1); have ffx := ((bx_up hfo hu1) 0 _ rfl).2) | ((try refine ⟨trivial, ?_⟩); gi_at_call 111; (with_reducible refine CallsIn.mono (CallsIn.inRound lp (callsIn_wide.2 (unhide H2 _))) ?_); rintro e V2 ⟨rfl, hu2⟩; have hu12 := up_trans hu1 hu2; have hb2 := bx_up hb1 hu2; have y11 := (hb2 11 _ rfl).1; have y12 := (hb2 12 _ rfl).1; have y13 := (hb2 13 _ rfl).1; have y14 := (hb2 14 _ rfl).1; have ry := bx1 (bx_up hrs hu12); have rfy := ((bx_up hrs hu12) 0 _ rfl).2; have fy := bx1 (bx_up hfo hu12); have ffy := ((bx_up hfo hu12) 0 _ rfl).2))
            exact unhide HFo _ (by repeat' (first | (with_reducible exact up_refl _) | (with_reducible assumption) | (with_reducible refine up_alloc ?_ _) | (with_reducible refine up_drewN ?_ _) | (with_reducible refine up_drew ?_) | (with_reducible refine up_set ?_ (by first | (simp; done) | (simp; omega) | omega) _) | (refine up_trans ?_ (by with_reducible assumption)))) (by trivial)
    case done =>
      rintro D xs V hD rfl ⟨hok, hrs, hfo, hkp, hup⟩ hK
      have hall : xs.all lkOk = true := List.all_eq_true.2 hok
      have ha := unhide HAns
      rw [hall, Bool.true_and] at ha
      have hw : IntKind.i64.wrap (xs.length : Int) = (xs.length : Int) := IntWalk.i64_in _ ⟨by omega, by omega⟩
      rw [hw] at hfo
      have c1 := ((bx_kpP (unhide HB1) hkp hq3) 1 _ rfl).1
      have f1 := bx1 hfo
      have r1 := bx1 hrs
      have rf1 := (hrs 0 _ rfl).2
      obtain ⟨m, hm⟩ : ∃ m, xs.length = m := ⟨_, rfl⟩
      rw [hm] at hll f1 ha
      have HF := fun v => hide (⟨bx1 (bx_set hrs 0 v), up_set hup (by simp only; omega) v, (Below.heap_setCell V ⟨w.heap.size + 1, 0, none⟩ v D (by simp only; omega)).trans hK⟩ : (V.setCell ⟨w.heap.size + 1, 0, none⟩ v).cell? ⟨w.heap.size + 1, 0, none⟩ = some v ∧ Up w (V.setCell ⟨w.heap.size + 1, 0, none⟩ v) ∧ (V.setCell ⟨w.heap.size + 1, 0, none⟩ v).heap[D]? = some (.deferred (some [])))
      clear hok hall hw hm hkp hup hrs hfo hsq b2 b3 HB1 HU0 HPC
      have he : decide ((m : Int) = (N : Int)) = ans := by rw [← ha]; by_cases h : m = N <;> simp [h] <;> omega
      have he2 : ((m : Int) == (N : Int)) = ans := by rw [← he]; rfl
      clear ha HAns
      gi_wp2
      obtain ⟨z1, z2, z3⟩ := unhide (HF (.bool ans))
      have z4 := Below.trans z2 (belowK_b (w := w) (Nat.le_refl _) _ D _ (.deferred none) (by omega) z3 rfl rfl)
      refine ⟨by simp, .inl ⟨_, _, rfl, run_takeDeferred z3, ?_⟩⟩
      have z5 : ((V.setCell ⟨w.heap.size + 1, 0, none⟩ (.bool ans)).putObj D (.deferred none)).cell? ⟨w.heap.size + 1, 0, none⟩ = some (.bool ans) := (World.cell?_of_block (World.putObj_heap_other (by simp only; omega))).trans z1
      refine ⟨.bool ans, ?_, ⟨rfl, z4⟩⟩
      simp [results, Tryz.f85, go_sem, z5]
    case stop =>
      rintro D c xs V hD ⟨Dr, hx⟩ ⟨rfl, ⟨x, hxm, hno⟩, hrs, hup⟩ hK
      have ha := unhide HAns
      have hal : WL.all lkOk = false := by
        rw [← hx, List.all_append]
        have : xs.all lkOk = false := by
          rw [List.all_eq_false]
          exact ⟨x, hxm, by simp [hno]⟩
        rw [this, Bool.false_and]
      rw [hal, Bool.false_and] at ha
      obtain rfl := ha
      have z1 := bx1 hrs
      have z4 := Below.trans hup (belowK_b (w := w) (Nat.le_refl _) _ D _ (.deferred none) (by omega) hK rfl rfl)
      gi_wp2
      refine ⟨by simp, .inl ⟨_, _, rfl, run_takeDeferred hK, ?_⟩⟩
      have z5 : (V.putObj D (.deferred none)).cell? ⟨w.heap.size + 1, 0, none⟩ = some (.bool false) := (World.cell?_of_block (World.putObj_heap_other (by simp only; omega))).trans z1
      refine ⟨.bool false, ?_, ⟨rfl, z4⟩⟩
      simp [results, Tryz.f85, go_sem, z5]
end Go.Proofs.YthifcalemhpmoaaGreat
