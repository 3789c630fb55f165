/- The worst effect for a pier, and the effect at a place. -/
import Derived.Test.YtdignnmhiifpgaaBrPi
namespace Go.Proofs.Ytdignnmhiifpgaa
open Go.RowKit Go.Proofs.Gn
attribute [local go_sem] Oper.semAt_some
set_option linter.unusedVariables false
def kpE (b : Brg) (k : Int) : Int := if win6 k 0 ((b.sp.length : Int) - 2) then 0 else 5
theorem p_checkPier (b : Brg) (span : Int) (w : World) (hn : b.sp.length ≤ 9223372036854775807) :
    Calls Try.prog 56 #[bgV b, .int .i64 span] w fun e w' => e = .returned (.int .i64 (kpE b span)) ∧ Up w w' := by
  unfold kpE bgV
  obtain ⟨n, hN⟩ : ∃ n, b.sp.length = n := ⟨_, rfl⟩
  rw [hN] at hn ⊢
  have H0 := hide (fun W => p_wI span 0 ((n : Int) - 2) W)
  have hw : IntKind.i64.wrap ((n : Int) - 2) = (n : Int) - 2 := IntWalk.i64_in _ ⟨by omega, by omega⟩
  obtain ⟨r, hr⟩ : ∃ r, win6 span 0 ((n : Int) - 2) = r := ⟨_, rfl⟩
  rw [hr] at H0 ⊢
  clear hr hN hn
  cases r
  all_goals
    go_enter Try.func56, Try.ntmps56
    go_wp2_with (go_at_call 47; (with_reducible refine (unhide H0 _).mono ?_); rintro e w1 ⟨rfl, rfl⟩)
    go_ret
    exact ⟨rfl, (by repeat' (first | (with_reducible exact up_refl _) | (with_reducible assumption) | (with_reducible refine up_alloc ?_ _) | (with_reducible refine up_drewN ?_ _) | (with_reducible refine up_drew ?_) | (with_reducible refine up_set ?_ (by first | (simp; done) | (simp; omega) | omega) _) | (refine up_trans ?_ (by with_reducible assumption))))⟩
structure PiF (b : Brg) (s : Int) : Prop where
  e7 : ((s.toNat : Nat) : Int) = s
  hk : s.toNat + 1 < b.sp.length
  hk0 : s.toNat < b.sp.length
  e6 : spK b s = b.sp[s.toNat]
  e9 : spK b (s + 1) = b.sp[s.toNat + 1]
  n6 : b.sp.length ≤ 6
  hv : ∀ k (h : k < b.sp.length), 0 ≤ b.sp[k] ∧ b.sp[k] ≤ 131072
  ho : 0 ≤ beS b.sp (s.toNat + 1) ∧ beS b.sp (s.toNat + 1) ≤ 1048576
theorem pi_facts {b : Brg} {s : Int} (z1 : bgE b = 0) (z3 : kpE b s = 0) : PiF b s := by
  obtain ⟨⟨k1, k2⟩, ⟨k3, k4⟩, k5⟩ := bgE_ok z1
  have hs : win6 s 0 ((b.sp.length : Int) - 2) = true := by unfold kpE at z3; split at z3 <;> first | assumption | cases z3
  have hs' := win6_yes hs
  have hk : s.toNat + 1 < b.sp.length := by omega
  have hk0 : s.toNat < b.sp.length := by omega
  have hv : ∀ k (h : k < b.sp.length), 0 ≤ b.sp[k] ∧ b.sp[k] ≤ 131072 := fun k hh => by have := k5 k hh; omega
  have bb := beS_bd hv (s.toNat + 1)
  refine ⟨by omega, hk, hk0, ?_, ?_, k2, hv, by omega⟩
  · unfold spK; rw [List.getD_eq_getElem?_getD, List.getElem?_eq_getElem hk0]; rfl
  · have e : (s + 1).toNat = s.toNat + 1 := by omega
    unfold spK; rw [e, List.getD_eq_getElem?_getD, List.getElem?_eq_getElem hk]; rfl
def wpE (b : Brg) (ts : List (Int × Int)) (s : Int) : Int := orF [bgE b, ctE ts, kpE b s]
def wpV (b : Brg) (ts : List (Int × Int)) (s : Int) : Value := if wpE b ts s = 0 then beV (piLn s.toNat (beS b.sp (s.toNat + 1)) (spK b s) (spK b (s + 1)) 0 0) (bsE (efs (piLn s.toNat (beS b.sp (s.toNat + 1)) (spK b s) (spK b (s + 1)) 0 0) ts)) else beV (piLn 0 0 0 0 0 0) none
theorem p_pierWorst (b : Brg) (A : Option Addr) (ts : List (Int × Int)) (cap : Nat) (s : Int) (w : World) (h : BgAt w b) (hcap : b.sp.length ≤ b.k0) (hF : Frs w A ts) (W : World) (hU : Up w W) (hE : wpE b ts s = 0) :
    Calls Try.prog 57 #[bgV b, .int .i64 s] W fun e w' => ∃ Lv, e = .returned Lv ∧ Up W w' ∧ Calls Try.prog 51 #[Lv, .slice A ts.length cap] w' fun e w2 => e = .returned (wpV b ts s) ∧ Up w' w2 := by
  obtain ⟨z1, z2, z3⟩ := orF_3 hE
  obtain ⟨t1, t2⟩ := trOk_of z2
  have P := pi_facts z1 z3
  have hl := P.hv _ P.hk0
  have hm := P.hv _ P.hk
  have ho := P.ho
  have p1 := p_ofPier b s.toNat W (bgAt_up h hU) P.hk P.n6 P.hv hcap
  rw [P.e7] at p1
  have p2 := fun (bl bx : Nat) (W' : World) (hU' : Up w W') (g1 : W'.cell? ⟨bl, 0, none⟩ = some (.int .i64 (b.sp[s.toNat]'P.hk0))) (g2 : W'.cell? ⟨bx, 0, none⟩ = some (.int .i64 (b.sp[s.toNat + 1]'P.hk))) =>
    p_worst (piLn s.toNat (beS b.sp (s.toNat + 1)) (b.sp[s.toNat]'P.hk0) (b.sp[s.toNat + 1]'P.hk) bl bx) A ts cap W' (frs_up hF hU') t2 t1 (piLn_co hl hm ho) (piLn_ok g1 g2 hl hm ho) (piLn_kp g1 g2 hl hm ho)
  have e8 : ∀ bl bx, beV (piLn s.toNat (beS b.sp (s.toNat + 1)) (b.sp[s.toNat]'P.hk0) (b.sp[s.toNat + 1]'P.hk) bl bx) (bsE (efs (piLn s.toNat (beS b.sp (s.toNat + 1)) (b.sp[s.toNat]'P.hk0) (b.sp[s.toNat + 1]'P.hk) bl bx) ts)) = wpV b ts s := fun bl bx => by
    unfold wpV
    rw [if_pos hE, P.e6, P.e9, efs_congr (L := piLn s.toNat (beS b.sp (s.toNat + 1)) (b.sp[s.toNat]'P.hk0) (b.sp[s.toNat + 1]'P.hk) bl bx) (M := piLn s.toNat (beS b.sp (s.toNat + 1)) (b.sp[s.toNat]'P.hk0) (b.sp[s.toNat + 1]'P.hk) 0 0) rfl rfl rfl rfl rfl]
    cases bsE (efs (piLn s.toNat (beS b.sp (s.toNat + 1)) (b.sp[s.toNat]'P.hk0) (b.sp[s.toNat + 1]'P.hk) 0 0) ts) <;> rfl
  simp only [e8] at p2
  exact p1.mono fun e w' ⟨bl, bx, he, hu, g1, g2⟩ => ⟨_, he, hu, p2 bl bx w' (up_trans hU hu) g1 g2⟩
set_option maxRecDepth 100000 in
set_option maxHeartbeats 4000000 in
theorem p_WorstPier (b : Brg) (A : Option Addr) (ts : List (Int × Int)) (cap : Nat) (s : Int) (w : World) (h : BgAt w b) (hn : b.sp.length ≤ 9223372036854775807 ∧ b.mo.length ≤ 9223372036854775807 ∧ b.sh.length ≤ 9223372036854775807) (hcap : b.sp.length ≤ b.k0) (hF : Frs w A ts) (hnt : ts.length ≤ 9223372036854775807) :
    Calls Try.prog 25 #[bgV b, .slice A ts.length cap, .int .i64 s] w fun e w' => e = .returned (.tuple #[wpV b ts s, .int .i64 (wpE b ts s)]) ∧ Up w w' := by
  have H1 := hide (fun W (hU : Up w W) => p_Check6 b W (bgAt_up h hU) hn)
  have H2 := hide (fun W (hU : Up w W) => p_CheckTrain A ts cap W (frs_up hF hU) hnt)
  have H3 := hide (fun W (hU : Up w W) => p_checkPier b s W hn.1)
  have H4 := hide (fun (W : World) (g : Nat) (h1 : I6 W (some ⟨g, 0, none⟩) [bgE b, ctE ts, kpE b s]) => (show Calls Try.prog 43 #[.slice (some ⟨g, 0, none⟩) 3 3] W _ from p_Or (some ⟨g, 0, none⟩) [bgE b, ctE ts, kpE b s] 3 W h1 (by simp)))
  have H5 := hide (fun W (hU : Up w W) hE => p_pierWorst b A ts cap s w h hcap hF W hU hE)
  have hV : wpE b ts s ≠ 0 → wpV b ts s = .agg #[.int .i64 0, .int .i64 0, .int .i64 0, .int .i64 0] := fun hE => by unfold wpV; rw [if_neg hE]; rfl
  have hV2 : wpE b ts s = 0 → ∃ v0 v1 v2 v3, wpV b ts s = .agg #[.int .i64 v0, .int .i64 v1, .int .i64 v2, .int .i64 v3] := fun hE => by
    unfold wpV
    rw [if_pos hE]
    cases bsE (efs (piLn s.toNat (beS b.sp (s.toNat + 1)) (spK b s) (spK b (s + 1)) 0 0) ts) <;> exact ⟨_, _, _, _, rfl⟩
  have hEE : orF [bgE b, ctE ts, kpE b s] = wpE b ts s := rfl
  rw [hEE] at H4
  obtain ⟨V, hVV⟩ : ∃ V, wpV b ts s = V := ⟨_, rfl⟩
  obtain ⟨E, hE⟩ : ∃ V, wpE b ts s = V := ⟨_, rfl⟩
  obtain ⟨E1, hE1⟩ : ∃ V, bgE b = V := ⟨_, rfl⟩
  obtain ⟨E2, hE2⟩ : ∃ V, ctE ts = V := ⟨_, rfl⟩
  obtain ⟨E3, hE3⟩ : ∃ V, kpE b s = V := ⟨_, rfl⟩
  obtain ⟨n, hN⟩ : ∃ n, ts.length = n := ⟨_, rfl⟩
  rw [hVV, hE] at H5 hV hV2 ⊢
  rw [hE1] at H1 H4
  rw [hE2, hN] at H2
  rw [hE3] at H3 H4
  rw [hE2, hE] at H4
  rw [hN] at H5 ⊢
  unfold bgV at H1 H3 H5 ⊢
  clear hVV hE hE1 hE2 hE3 hEE hN h hn hcap hF hnt
  obtain ⟨sp, mo, sh, A0, A1, A2, k0, k1, k2, dy, la, tr⟩ := b
  dsimp only at *
  generalize sp.length = n0 at *
  generalize mo.length = n1 at *
  generalize sh.length = n2 at *
  have hmx : Try.prog.follows .mixedOrders = true := by kernel_rfl
  go_enter Try.func25, Try.ntmps25
  go_upto_region 1 with fail
  refine at_wpB (fun W hW => ?_)
  have U : Up w W := by rw [hW]; exact (by repeat' (first | (with_reducible exact up_refl _) | (with_reducible assumption) | (with_reducible refine up_alloc ?_ _) | (with_reducible refine up_drewN ?_ _) | (with_reducible refine up_drew ?_) | (with_reducible refine up_set ?_ (by first | (simp; done) | (simp; omega) | omega) _) | (refine up_trans ?_ (by with_reducible assumption))))
  have n4 : Bx W w.heap.size [.slice A0 n0 k0, .slice A1 n1 k1, .slice A2 n2 k2, .int .i64 dy, .int .i64 la, .int .i64 tr] := by rw [hW]; exact bx_alloc (bx_new w _ _) _
  have n8 : Bx W (w.heap.size + 1) [.int .i64 0, .int .i64 0, .int .i64 0, .int .i64 0] := by
    rw [hW]
    have t := bx_new (w.alloc (.cells #[.slice A0 n0 k0, .slice A1 n1 k1, .slice A2 n2 k2, .int .i64 dy, .int .i64 la, .int .i64 tr] 44)) [.int .i64 0, .int .i64 0, .int .i64 0, .int .i64 0] 47
    rw [World.size_alloc] at t
    exact t
  clear hW
  have e0 : ∀ q : UpW W, q.v.cell? ⟨w.heap.size, 0, none⟩ = some (.slice A0 n0 k0) := fun q => (bx_up n4 q.up 0 _ rfl).1
  have e1 : ∀ q : UpW W, q.v.cell? ⟨w.heap.size, 1, none⟩ = some (.slice A1 n1 k1) := fun q => (bx_up n4 q.up 1 _ rfl).1
  have e2 : ∀ q : UpW W, q.v.cell? ⟨w.heap.size, 2, none⟩ = some (.slice A2 n2 k2) := fun q => (bx_up n4 q.up 2 _ rfl).1
  have e3 : ∀ q : UpW W, q.v.cell? ⟨w.heap.size, 3, none⟩ = some (.int .i64 dy) := fun q => (bx_up n4 q.up 3 _ rfl).1
  have e4 : ∀ q : UpW W, q.v.cell? ⟨w.heap.size, 4, none⟩ = some (.int .i64 la) := fun q => (bx_up n4 q.up 4 _ rfl).1
  have e5 : ∀ q : UpW W, q.v.cell? ⟨w.heap.size, 5, none⟩ = some (.int .i64 tr) := fun q => (bx_up n4 q.up 5 _ rfl).1
  have q1 := hide (fun q : UpW W => unhide H1 q.v (up_trans U q.up))
  have q2 := hide (fun q : UpW W => unhide H2 q.v (up_trans U q.up))
  have q3 := hide (fun q : UpW W => unhide H3 q.v (up_trans U q.up))
  refine wpIn_wide.1 (Hin.wpIn_region_lateM (F := Fence.wide) (n := 0) (S := fun w' => ∃ p : UpW W, w' = p.v) 7 2 #[true, true, true, true, true, true, true, true, false, false] Hin.open_wide hmx (by kernel_rfl) (by simp only [List.take_succ_cons, List.take_zero]; rfl) rfl ⟨⟨_, up_drew (up_refl _)⟩, rfl⟩ ?_)
  (repeat (go_big_quiet_step (first | (go_at_call 48; exact upq (unhide q1 _)) | (go_at_call 33; exact upq (unhide q2 _)) | (go_at_call 56; exact upq (unhide q3 _)))))
  refine wpQuiet_nil ⟨rfl, ?_⟩
  rintro _ ⟨pq, rfl⟩
  have Uq := up_trans U pq.up
  have m4 := bx_up n4 pq.up
  have m8 := bx_up n8 pq.up
  clear n4 n8 e0 e1 e2 e3 e4 e5 q1 q2 q3 H1 H2 H3
  go_simp
  refine at_any (fun W2 hW2 => ?_)
  have U3 : Up pq.v W2 := by rw [hW2]; exact up_alloc (up_refl _) _
  have hI := i6_3 (W := W2) (g := pq.v.heap.size) (a := E1) (b := E2) (c := E3) (by rw [hW2]; exact bx_new _ _ _)
  have hO := hide (unhide H4 W2 _ hI)
  have r4 := bx_up m4 U3
  have r8 := bx_up m8 U3
  have U4 := up_trans Uq U3
  clear hW2 hI H4 m4 m8 U3 Uq
  refine wpAnyIn_ready (rs := [8]) (by kernel_rfl) (by simp) ?_; refine AllReadyIn.cons rfl (fun K hK => ?_) AllReadyIn.nil; go_simp
  refine ⟨trivial, rfl, CallsIn.mono (callsIn_wide.2 (unhide hO)) ?_⟩
  rintro e W3 ⟨rfl, hu⟩
  refine hK _ _ ?_
  clear hK K hO
  have s4 := bx_up r4 hu
  have s8 := bx_up r8 hu
  have U5 := up_trans U4 hu
  clear r4 r8 U4
  refine wpAnyIn_ready (rs := [9]) (by kernel_rfl) (by simp) ?_; refine AllReadyIn.cons rfl (fun K hK => ?_) AllReadyIn.nil; go_simp
  refine hK _ _ ?_
  clear hK K
  refine wpAnyIn_done (by kernel_rfl) ?_ _
  have d0 := (s4 0 _ rfl).1
  have d1 := (s4 1 _ rfl).1
  have d2 := (s4 2 _ rfl).1
  have d3 := (s4 3 _ rfl).1
  have d4 := (s4 4 _ rfl).1
  have d5 := (s4 5 _ rfl).1
  have x0 := (s8 0 _ rfl).1
  have x1 := (s8 1 _ rfl).1
  have x2 := (s8 2 _ rfl).1
  have x3 := (s8 3 _ rfl).1
  have y0 := (s8 0 _ rfl).2
  have y1 := (s8 1 _ rfl).2
  have y2 := (s8 2 _ rfl).2
  have y3 := (s8 3 _ rfl).2
  clear hmx hu s4
  by_cases hE : E = 0
  · obtain ⟨v0, v1, v2, v3, rfl⟩ := hV2 hE
    have hw5 := hide (fun W hU => unhide H5 W hU hE)
    have HS8 := hide s8
    have HU5 := hide U5
    subst hE
    clear hV hV2 H5 s8 U5 U
    go_wp2_with (first | (go_at_call 57; (with_reducible refine (unhide hw5 _ (unhide HU5)).mono ?_); rintro e w6 ⟨Lv, rfl, hu6, hc⟩; have hc := hide hc) | (go_at_call 51; (with_reducible refine (unhide hc).mono ?_); rintro e w7 ⟨rfl, hu7⟩; have U7 := up_trans (unhide HU5) (up_trans hu6 hu7); have s9 := bx_up (unhide HS8) (up_trans hu6 hu7); obtain ⟨⟨b0, f0⟩, ⟨b1, f1⟩, ⟨b2, f2⟩, ⟨b3, f3⟩⟩ := bx4 s9))
    obtain ⟨⟨z0, g0⟩, ⟨z1, g1⟩, ⟨z2, g2⟩, ⟨z3, g3⟩⟩ := bx4 (bx_set4 (v0 := .int .i64 v0) (v1 := .int .i64 v1) (v2 := .int .i64 v2) (v3 := .int .i64 v3) s9)
    have U9 : Up w ((((w7.setCell ⟨w.heap.size + 1, 0, none⟩ (.int .i64 v0)).setCell ⟨w.heap.size + 1, 1, none⟩ (.int .i64 v1)).setCell ⟨w.heap.size + 1, 2, none⟩ (.int .i64 v2)).setCell ⟨w.heap.size + 1, 3, none⟩ (.int .i64 v3)) := up_set (up_set (up_set (up_set U7 (by simp only; omega) _) (by simp only; omega) _) (by simp only; omega) _) (by simp only; omega) _
    generalize (((w7.setCell ⟨w.heap.size + 1, 0, none⟩ (.int .i64 v0)).setCell ⟨w.heap.size + 1, 1, none⟩ (.int .i64 v1)).setCell ⟨w.heap.size + 1, 2, none⟩ (.int .i64 v2)).setCell ⟨w.heap.size + 1, 3, none⟩ (.int .i64 v3) = W9 at *
    (try simp only [Exit.inBlock, Exit.then])
    refine bodyPost_ret (v := .tuple #[.agg #[.int .i64 v0, .int .i64 v1, .int .i64 v2, .int .i64 v3], .int .i64 0]) (by simp [results, Try.results25, go_sem, z0, z1, z2, z3]) rfl ?_
    exact ⟨rfl, U9⟩
  · obtain rfl := hV hE
    have e1 : (E == 0) = false := by simp; exact hE
    clear hV hV2 H5 U
    go_wp2
    obtain ⟨⟨z0, g0⟩, ⟨z1, g1⟩, ⟨z2, g2⟩, ⟨z3, g3⟩⟩ := bx4 (bx_set4 (v0 := .int .i64 0) (v1 := .int .i64 0) (v2 := .int .i64 0) (v3 := .int .i64 0) s8)
    have U9 : Up w ((((W3.setCell ⟨w.heap.size + 1, 0, none⟩ (.int .i64 0)).setCell ⟨w.heap.size + 1, 1, none⟩ (.int .i64 0)).setCell ⟨w.heap.size + 1, 2, none⟩ (.int .i64 0)).setCell ⟨w.heap.size + 1, 3, none⟩ (.int .i64 0)) := up_set (up_set (up_set (up_set U5 (by simp only; omega) _) (by simp only; omega) _) (by simp only; omega) _) (by simp only; omega) _
    generalize (((W3.setCell ⟨w.heap.size + 1, 0, none⟩ (.int .i64 0)).setCell ⟨w.heap.size + 1, 1, none⟩ (.int .i64 0)).setCell ⟨w.heap.size + 1, 2, none⟩ (.int .i64 0)).setCell ⟨w.heap.size + 1, 3, none⟩ (.int .i64 0) = W9 at *
    (try simp only [Exit.inBlock, Exit.then])
    refine bodyPost_ret (v := .tuple #[.agg #[.int .i64 0, .int .i64 0, .int .i64 0, .int .i64 0], .int .i64 E]) (by simp [results, Try.results25, go_sem, z0, z1, z2, z3]) rfl ?_
    exact ⟨rfl, U9⟩
def ppE (b : Brg) (ts : List (Int × Int)) (s p : Int) : Int := orF [bgE b, ctE ts, kpE b s, plE p]
def ppV (b : Brg) (ts : List (Int × Int)) (s p : Int) : Int := if ppE b ts s p = 0 then ef (piLn s.toNat (beS b.sp (s.toNat + 1)) (spK b s) (spK b (s + 1)) 0 0) p ts else 0
theorem p_pierEff (b : Brg) (A : Option Addr) (ts : List (Int × Int)) (cap : Nat) (s p : Int) (w : World) (h : BgAt w b) (hcap : b.sp.length ≤ b.k0) (hF : Frs w A ts) (W : World) (hU : Up w W) (hE : ppE b ts s p = 0) :
    Calls Try.prog 57 #[bgV b, .int .i64 s] W fun e w' => ∃ Lv, e = .returned Lv ∧ Up W w' ∧ Calls Try.prog 53 #[Lv, .int .i64 p, .slice A ts.length cap] w' fun e w2 => e = .returned (.int .i64 (ppV b ts s p)) ∧ Up w' w2 := by
  obtain ⟨z1, z2, z3, z4⟩ := orF_4 hE
  have hpp : win6 p (-4194304) 4194304 = true := by unfold plE at z4; split at z4 <;> first | assumption | cases z4
  have hp2 := win6_yes hpp
  obtain ⟨t1, t2⟩ := trOk_of z2
  have P := pi_facts z1 z3
  have hl := P.hv _ P.hk0
  have hm := P.hv _ P.hk
  have ho := P.ho
  have p1 := p_ofPier b s.toNat W (bgAt_up h hU) P.hk P.n6 P.hv hcap
  rw [P.e7] at p1
  have e8 : ∀ bl bx, ef (piLn s.toNat (beS b.sp (s.toNat + 1)) (b.sp[s.toNat]'P.hk0) (b.sp[s.toNat + 1]'P.hk) bl bx) p ts = ppV b ts s p := fun bl bx => by
    unfold ppV
    rw [if_pos hE, P.e6, P.e9]
    exact ef_congr (L := piLn s.toNat (beS b.sp (s.toNat + 1)) (b.sp[s.toNat]'P.hk0) (b.sp[s.toNat + 1]'P.hk) bl bx) (M := piLn s.toNat (beS b.sp (s.toNat + 1)) (b.sp[s.toNat]'P.hk0) (b.sp[s.toNat + 1]'P.hk) 0 0) rfl rfl p ts
  have p2 := fun (bl bx : Nat) (W' : World) (hU' : Up w W') (g1 : W'.cell? ⟨bl, 0, none⟩ = some (.int .i64 (b.sp[s.toNat]'P.hk0))) (g2 : W'.cell? ⟨bx, 0, none⟩ = some (.int .i64 (b.sp[s.toNat + 1]'P.hk))) =>
    p_effect (piLn s.toNat (beS b.sp (s.toNat + 1)) (b.sp[s.toNat]'P.hk0) (b.sp[s.toNat + 1]'P.hk) bl bx) p A ts cap W' (piLn_ok g1 g2 hl hm ho) (frs_up hF hU') t1 ⟨by omega, by omega⟩
  simp only [e8] at p2
  exact p1.mono fun e w' ⟨bl, bx, he, hu, g1, g2⟩ => ⟨_, he, hu, p2 bl bx w' (up_trans hU hu) g1 g2⟩
set_option maxRecDepth 100000 in
set_option maxHeartbeats 4000000 in
theorem p_Pier (b : Brg) (A : Option Addr) (ts : List (Int × Int)) (cap : Nat) (s p : Int) (w : World) (h : BgAt w b) (hn : b.sp.length ≤ 9223372036854775807 ∧ b.mo.length ≤ 9223372036854775807 ∧ b.sh.length ≤ 9223372036854775807) (hcap : b.sp.length ≤ b.k0) (hF : Frs w A ts) (hnt : ts.length ≤ 9223372036854775807) :
    Calls Try.prog 26 #[bgV b, .slice A ts.length cap, .int .i64 s, .int .i64 p] w fun e w' => e = .returned (.tuple #[.int .i64 (ppV b ts s p), .int .i64 (ppE b ts s p)]) ∧ Up w w' := by
  have H1 := hide (fun W (hU : Up w W) => p_Check6 b W (bgAt_up h hU) hn)
  have H2 := hide (fun W (hU : Up w W) => p_CheckTrain A ts cap W (frs_up hF hU) hnt)
  have H3 := hide (fun W (hU : Up w W) => p_checkPier b s W hn.1)
  have H4 := hide (fun (W : World) (g : Nat) (h1 : I6 W (some ⟨g, 0, none⟩) [bgE b, ctE ts, kpE b s, plE p]) => (show Calls Try.prog 43 #[.slice (some ⟨g, 0, none⟩) 4 4] W _ from p_Or (some ⟨g, 0, none⟩) [bgE b, ctE ts, kpE b s, plE p] 4 W h1 (by simp)))
  have H6 := hide (fun W => p_checkPlace p W)
  have H5 := hide (fun W (hU : Up w W) hE => p_pierEff b A ts cap s p w h hcap hF W hU hE)
  have hV : ppE b ts s p ≠ 0 → ppV b ts s p = 0 := fun hE => by unfold ppV; rw [if_neg hE]
  have hEE : orF [bgE b, ctE ts, kpE b s, plE p] = ppE b ts s p := rfl
  rw [hEE] at H4
  obtain ⟨V, hVV⟩ : ∃ V, ppV b ts s p = V := ⟨_, rfl⟩
  obtain ⟨E, hE⟩ : ∃ V, ppE b ts s p = V := ⟨_, rfl⟩
  obtain ⟨E1, hE1⟩ : ∃ V, bgE b = V := ⟨_, rfl⟩
  obtain ⟨E2, hE2⟩ : ∃ V, ctE ts = V := ⟨_, rfl⟩
  obtain ⟨E3, hE3⟩ : ∃ V, kpE b s = V := ⟨_, rfl⟩
  obtain ⟨E4, hE4⟩ : ∃ V, plE p = V := ⟨_, rfl⟩
  obtain ⟨n, hN⟩ : ∃ n, ts.length = n := ⟨_, rfl⟩
  rw [hVV, hE] at H5 hV ⊢
  rw [hE1] at H1 H4
  rw [hE2, hN] at H2
  rw [hE3] at H3 H4
  rw [hE4] at H6 H4
  rw [hE2, hE] at H4
  rw [hN] at H5 ⊢
  unfold bgV at H1 H3 H5 ⊢
  clear hVV hE hE1 hE2 hE3 hE4 hEE hN h hn hcap hF hnt
  obtain ⟨sp, mo, sh, A0, A1, A2, k0, k1, k2, dy, la, tr⟩ := b
  dsimp only at *
  generalize sp.length = n0 at *
  generalize mo.length = n1 at *
  generalize sh.length = n2 at *
  have hmx : Try.prog.follows .mixedOrders = true := by kernel_rfl
  go_enter Try.func26, Try.ntmps26
  go_upto_region 1 with fail
  refine at_wpB (fun W hW => ?_)
  have U : Up w W := by rw [hW]; exact (by repeat' (first | (with_reducible exact up_refl _) | (with_reducible assumption) | (with_reducible refine up_alloc ?_ _) | (with_reducible refine up_drewN ?_ _) | (with_reducible refine up_drew ?_) | (with_reducible refine up_set ?_ (by first | (simp; done) | (simp; omega) | omega) _) | (refine up_trans ?_ (by with_reducible assumption))))
  have n4 : Bx W w.heap.size [.slice A0 n0 k0, .slice A1 n1 k1, .slice A2 n2 k2, .int .i64 dy, .int .i64 la, .int .i64 tr] := by rw [hW]; exact bx_new w _ _
  clear hW
  have e0 : ∀ q : UpW W, q.v.cell? ⟨w.heap.size, 0, none⟩ = some (.slice A0 n0 k0) := fun q => (bx_up n4 q.up 0 _ rfl).1
  have e1 : ∀ q : UpW W, q.v.cell? ⟨w.heap.size, 1, none⟩ = some (.slice A1 n1 k1) := fun q => (bx_up n4 q.up 1 _ rfl).1
  have e2 : ∀ q : UpW W, q.v.cell? ⟨w.heap.size, 2, none⟩ = some (.slice A2 n2 k2) := fun q => (bx_up n4 q.up 2 _ rfl).1
  have e3 : ∀ q : UpW W, q.v.cell? ⟨w.heap.size, 3, none⟩ = some (.int .i64 dy) := fun q => (bx_up n4 q.up 3 _ rfl).1
  have e4 : ∀ q : UpW W, q.v.cell? ⟨w.heap.size, 4, none⟩ = some (.int .i64 la) := fun q => (bx_up n4 q.up 4 _ rfl).1
  have e5 : ∀ q : UpW W, q.v.cell? ⟨w.heap.size, 5, none⟩ = some (.int .i64 tr) := fun q => (bx_up n4 q.up 5 _ rfl).1
  have q1 := hide (fun q : UpW W => unhide H1 q.v (up_trans U q.up))
  have q2 := hide (fun q : UpW W => unhide H2 q.v (up_trans U q.up))
  have q6 := hide (fun q : UpW W => (unhide H6 q.v).mono (fun e w' ⟨he, hw⟩ => (⟨he, hw ▸ up_refl q.v⟩ : _ ∧ Up q.v w')))
  have q3 := hide (fun q : UpW W => unhide H3 q.v (up_trans U q.up))
  refine wpIn_wide.1 (Hin.wpIn_region_lateM (F := Fence.wide) (n := 0) (S := fun w' => ∃ p : UpW W, w' = p.v) 9 2 #[true, true, true, true, true, true, true, true, true, true, false, false] Hin.open_wide hmx (by kernel_rfl) (by simp only [List.take_succ_cons, List.take_zero]; rfl) rfl ⟨⟨_, up_drew (up_refl _)⟩, rfl⟩ ?_)
  (repeat (go_big_quiet_step (first | (go_at_call 48; exact upq (unhide q1 _)) | (go_at_call 33; exact upq (unhide q2 _)) | (go_at_call 56; exact upq (unhide q3 _)) | (go_at_call 52; exact upq (unhide q6 _)))))
  refine wpQuiet_nil ⟨rfl, ?_⟩
  rintro _ ⟨pq, rfl⟩
  have Uq := up_trans U pq.up
  have m4 := bx_up n4 pq.up
  clear n4 e0 e1 e2 e3 e4 e5 q1 q2 q3 q6 H1 H2 H3 H6
  go_simp
  refine at_any (fun W2 hW2 => ?_)
  have U3 : Up pq.v W2 := by rw [hW2]; exact up_alloc (up_refl _) _
  have hI := i6_4 (W := W2) (g := pq.v.heap.size) (a := E1) (b := E2) (c := E3) (d := E4) (by rw [hW2]; exact bx_new _ _ _)
  have hO := hide (unhide H4 W2 _ hI)
  have r4 := bx_up m4 U3
  have U4 := up_trans Uq U3
  clear hW2 hI H4 m4 U3 Uq
  refine wpAnyIn_ready (rs := [10]) (by kernel_rfl) (by simp) ?_; refine AllReadyIn.cons rfl (fun K hK => ?_) AllReadyIn.nil; go_simp
  refine ⟨trivial, rfl, CallsIn.mono (callsIn_wide.2 (unhide hO)) ?_⟩
  rintro e W3 ⟨rfl, hu⟩
  refine hK _ _ ?_
  clear hK K hO
  have s4 := bx_up r4 hu
  have U5 := up_trans U4 hu
  clear r4 U4
  refine wpAnyIn_ready (rs := [11]) (by kernel_rfl) (by simp) ?_; refine AllReadyIn.cons rfl (fun K hK => ?_) AllReadyIn.nil; go_simp
  refine hK _ _ ?_
  clear hK K
  refine wpAnyIn_done (by kernel_rfl) ?_ _
  have d0 := (s4 0 _ rfl).1
  have d1 := (s4 1 _ rfl).1
  have d2 := (s4 2 _ rfl).1
  have d3 := (s4 3 _ rfl).1
  have d4 := (s4 4 _ rfl).1
  have d5 := (s4 5 _ rfl).1
  clear hmx hu s4
  by_cases hE : E = 0
  · have hw5 := hide (fun W hU => unhide H5 W hU hE)
    have HU5 := hide U5
    subst hE
    clear hV H5 U5 U
    go_wp2_with (first | (go_at_call 57; (with_reducible refine (unhide hw5 _ (unhide HU5)).mono ?_); rintro e w6 ⟨Lv, rfl, hu6, hc⟩; have hc := hide hc) | (go_at_call 53; (with_reducible refine (unhide hc).mono ?_); rintro e w7 ⟨rfl, hu7⟩; have U7 := up_trans (unhide HU5) (up_trans hu6 hu7)))
    go_ret2
    exact ⟨rfl, U7⟩
  · obtain rfl := hV hE
    have e1 : (E == 0) = false := by simp; exact hE
    clear hV H5 U
    go_wp2
    go_ret2
    exact ⟨rfl, U5⟩
end Go.Proofs.Ytdignnmhiifpgaa
