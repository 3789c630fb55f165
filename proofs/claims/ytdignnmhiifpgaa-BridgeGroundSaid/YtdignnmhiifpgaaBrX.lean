/- The worst effect for a moment. -/
import Derived.Test.YtdignnmhiifpgaaBrQ
namespace Go.Proofs.Ytdignnmhiifpgaa
open Go.RowKit Go.Proofs.Gn
attribute [local go_sem] Oper.semAt_some
set_option linter.unusedVariables false
theorem ef_congr {L M : Ln} (hv : L.val = M.val) (ho : L.org = M.org) (s : Int) : ∀ ts, ef L s ts = ef M s ts
  | [] => rfl
  | t :: ts => by unfold ef efT; rw [hv, ho, ef_congr hv ho s ts]
theorem efs_congr {L M : Ln} (hv : L.val = M.val) (ho : L.org = M.org) (h0 : L.c0 = M.c0) (h1 : L.c1 = M.c1) (h2 : L.c2 = M.c2) (ts : List (Int × Int)) : efs L ts = efs M ts := by
  have e1 : brs L ts = brs M ts := by
    have e : brT L = brT M := by funext t; unfold brT; rw [ho, h0, h1, h2]
    unfold brs; rw [e]
  have e2 : efp L ts = efp M ts := by funext s; unfold efp; rw [ef_congr hv ho]
  unfold efs; rw [e1, e2]
theorem orF_3 {a b c : Int} (h : orF [a, b, c] = 0) : a = 0 ∧ b = 0 ∧ c = 0 := by
  unfold orF at h
  split at h
  · rename_i h1
    unfold orF at h
    split at h
    · rename_i h2
      unfold orF at h
      split at h
      · rename_i h3; exact ⟨h1, h2, h3⟩
      · rename_i h3; exact absurd h h3
    · rename_i h2; exact absurd h h2
  · rename_i h1; exact absurd h h1
def wmE (b : Brg) (ts : List (Int × Int)) (s x : Int) : Int := orF [bgE b, ctE ts, cpE b s x]
def wmV (b : Brg) (ts : List (Int × Int)) (s x : Int) : Value := if wmE b ts s x = 0 then beV (moLn s.toNat x (beS b.sp s.toNat) (spK b s) 0 0) (bsE (efs (moLn s.toNat x (beS b.sp s.toNat) (spK b s) 0 0) ts)) else beV (moLn 0 0 0 0 0 0) none
theorem at_any {F : Fence} {n : Nat} {P : Program} {md : Region.Mode} {ops : Array Oper} {Q : Exit → Act → World → Prop} {k : Nat} {listed : Array Bool} {a : Act} {w : World} (h : ∀ w', w' = w → wpAnyIn F n P md ops Q k listed a w') : wpAnyIn F n P md ops Q k listed a w := h w rfl
theorem i6_3 {W : World} {g : Nat} {a b c : Int} (h : Bx W g [.int .i64 a, .int .i64 b, .int .i64 c]) : I6 W (some ⟨g, 0, none⟩) [a, b, c] := .inr ⟨g, 0, rfl, fun k hk => by
  match k, hk with
  | 0, _ => exact (h 0 _ rfl).1
  | 1, _ => exact (h 1 _ rfl).1
  | 2, _ => exact (h 2 _ rfl).1⟩
theorem p_momWorst (b : Brg) (A : Option Addr) (ts : List (Int × Int)) (cap : Nat) (s x : Int) (w : World) (h : BgAt w b) (hcap : b.sp.length ≤ b.k0) (hF : Frs w A ts) (W : World) (hU : Up w W) (hE : wmE b ts s x = 0) :
    Calls Try.prog 50 #[bgV b, .int .i64 s, .int .i64 x] W fun e w' => ∃ Lv, e = .returned Lv ∧ Up W w' ∧ Calls Try.prog 51 #[Lv, .slice A ts.length cap] w' fun e w2 => e = .returned (wmV b ts s x) ∧ Up w' w2 := by
  obtain ⟨z1, z2, z3⟩ := orF_3 hE
  obtain ⟨⟨k1, k2⟩, ⟨k3, k4⟩, k5⟩ := bgE_ok z1
  obtain ⟨t1, t2⟩ := trOk_of z2
  have hcs : csE b s = 0 := by unfold cpE at z3; split at z3 <;> first | assumption | cases z3
  have hw : win6 x 0 (spK b s) = true := by unfold cpE at z3; rw [if_pos hcs] at z3; split at z3 <;> first | assumption | cases z3
  have hs : win6 s 0 ((b.sp.length : Int) - 1) = true := by unfold csE at hcs; split at hcs <;> first | assumption | cases hcs
  have hs' := win6_yes hs
  have hx := win6_yes hw
  have hk : s.toNat < b.sp.length := by omega
  have e6 : spK b s = b.sp[s.toNat] := by unfold spK; rw [List.getD_eq_getElem?_getD, List.getElem?_eq_getElem hk]; rfl
  have e7 : ((s.toNat : Nat) : Int) = s := by omega
  have hv : ∀ k (h : k < b.sp.length), 0 ≤ b.sp[k] ∧ b.sp[k] ≤ 131072 := fun k hh => by have := k5 k hh; omega
  have bb := beS_bd hv s.toNat
  have hl := hv _ hk
  have ho : 0 ≤ beS b.sp s.toNat ∧ beS b.sp s.toNat ≤ 1048576 := by omega
  have p1 := p_ofMoment b s.toNat x W (bgAt_up h hU) hk k2 hv hcap
  rw [e7] at p1
  have p2 := fun (bl bx : Nat) (W' : World) (hU' : Up w W') (g1 : W'.cell? ⟨bl, 0, none⟩ = some (.int .i64 b.sp[s.toNat])) (g2 : W'.cell? ⟨bx, 0, none⟩ = some (.int .i64 x)) =>
    p_worst (moLn s.toNat x (beS b.sp s.toNat) b.sp[s.toNat] bl bx) A ts cap W' (frs_up hF hU') t2 t1 (moLn_co hl ⟨hx.1, by rw [← e6]; exact hx.2⟩ ho) (moLn_ok g1 g2 hl ⟨hx.1, by rw [← e6]; exact hx.2⟩ ho) (moLn_kp g1 g2 hl ⟨hx.1, by rw [← e6]; exact hx.2⟩ ho)
  have e8 : ∀ bl bx, beV (moLn s.toNat x (beS b.sp s.toNat) b.sp[s.toNat] bl bx) (bsE (efs (moLn s.toNat x (beS b.sp s.toNat) b.sp[s.toNat] bl bx) ts)) = wmV b ts s x := fun bl bx => by
    unfold wmV
    rw [if_pos hE, e6, efs_congr (L := moLn s.toNat x (beS b.sp s.toNat) b.sp[s.toNat] bl bx) (M := moLn s.toNat x (beS b.sp s.toNat) b.sp[s.toNat] 0 0) rfl rfl rfl rfl rfl]
    cases bsE (efs (moLn s.toNat x (beS b.sp s.toNat) b.sp[s.toNat] 0 0) ts) <;> rfl
  simp only [e8] at p2
  exact p1.mono fun e w' ⟨bl, bx, he, hu, g1, g2⟩ => ⟨_, he, hu, p2 bl bx w' (up_trans hU hu) g1 g2⟩
set_option maxRecDepth 100000 in
set_option maxHeartbeats 4000000 in
theorem p_WorstMoment (b : Brg) (A : Option Addr) (ts : List (Int × Int)) (cap : Nat) (s x : Int) (w : World) (h : BgAt w b) (hn : b.sp.length ≤ 9223372036854775807 ∧ b.mo.length ≤ 9223372036854775807 ∧ b.sh.length ≤ 9223372036854775807) (hcap : b.sp.length ≤ b.k0) (hF : Frs w A ts) (hnt : ts.length ≤ 9223372036854775807) :
    Calls Try.prog 21 #[bgV b, .slice A ts.length cap, .int .i64 s, .int .i64 x] w fun e w' => e = .returned (.tuple #[wmV b ts s x, .int .i64 (wmE b ts s x)]) ∧ Up w w' := by
  have H1 := hide (fun W (hU : Up w W) => p_Check6 b W (bgAt_up h hU) hn)
  have H2 := hide (fun W (hU : Up w W) => p_CheckTrain A ts cap W (frs_up hF hU) hnt)
  have H3 := hide (fun W (hU : Up w W) => p_checkPoint b s x W (bgAt_up h hU) hn.1)
  have H4 := hide (fun (W : World) (g : Nat) (h1 : I6 W (some ⟨g, 0, none⟩) [bgE b, ctE ts, cpE b s x]) => (show Calls Try.prog 43 #[.slice (some ⟨g, 0, none⟩) 3 3] W _ from p_Or (some ⟨g, 0, none⟩) [bgE b, ctE ts, cpE b s x] 3 W h1 (by simp)))
  have H5 := hide (fun W (hU : Up w W) hE => p_momWorst b A ts cap s x w h hcap hF W hU hE)
  have hV : wmE b ts s x ≠ 0 → wmV b ts s x = .agg #[.int .i64 0, .int .i64 0, .int .i64 0, .int .i64 0] := fun hE => by unfold wmV; rw [if_neg hE]; rfl
  have hV2 : wmE b ts s x = 0 → ∃ v0 v1 v2 v3, wmV b ts s x = .agg #[.int .i64 v0, .int .i64 v1, .int .i64 v2, .int .i64 v3] := fun hE => by
    unfold wmV
    rw [if_pos hE]
    cases bsE (efs (moLn s.toNat x (beS b.sp s.toNat) (spK b s) 0 0) ts) <;> exact ⟨_, _, _, _, rfl⟩
  have hEE : orF [bgE b, ctE ts, cpE b s x] = wmE b ts s x := rfl
  rw [hEE] at H4
  obtain ⟨V, hVV⟩ : ∃ V, wmV b ts s x = V := ⟨_, rfl⟩
  obtain ⟨E, hE⟩ : ∃ V, wmE b ts s x = V := ⟨_, rfl⟩
  obtain ⟨E1, hE1⟩ : ∃ V, bgE b = V := ⟨_, rfl⟩
  obtain ⟨E2, hE2⟩ : ∃ V, ctE ts = V := ⟨_, rfl⟩
  obtain ⟨E3, hE3⟩ : ∃ V, cpE b s x = V := ⟨_, rfl⟩
  obtain ⟨n, hN⟩ : ∃ n, ts.length = n := ⟨_, rfl⟩
  rw [hVV, hE] at H5 hV hV2 ⊢
  rw [hE1] at H1 H4
  rw [hE2, hN] at H2
  rw [hE3] at H3 H4
  rw [hE2, hE] at H4
  rw [hN] at H5 ⊢
  unfold bgV at H1 H3 H5 ⊢
  clear hVV hE hE1 hE2 hE3 hEE hN h hn hcap hF hnt
  obtain ⟨sp, mo, sh, A0, A1, A2, k0, k1, k2, dy, la, tr⟩ := b
  dsimp only at *
  generalize sp.length = n0 at *
  generalize mo.length = n1 at *
  generalize sh.length = n2 at *
  have hmx : Try.prog.follows .mixedOrders = true := by kernel_rfl
  go_enter Try.func21, Try.ntmps21
  go_upto_region 1 with fail
  refine at_wpB (fun W hW => ?_)
  have U : Up w W := by rw [hW]; exact (by repeat' (first | (with_reducible exact up_refl _) | (with_reducible assumption) | (with_reducible refine up_alloc ?_ _) | (with_reducible refine up_drewN ?_ _) | (with_reducible refine up_drew ?_) | (with_reducible refine up_set ?_ (by first | (simp; done) | (simp; omega) | omega) _) | (refine up_trans ?_ (by with_reducible assumption))))
  have n4 : Bx W w.heap.size [.slice A0 n0 k0, .slice A1 n1 k1, .slice A2 n2 k2, .int .i64 dy, .int .i64 la, .int .i64 tr] := by rw [hW]; exact bx_alloc (bx_new w _ _) _
  have n8 : Bx W (w.heap.size + 1) [.int .i64 0, .int .i64 0, .int .i64 0, .int .i64 0] := by
    rw [hW]
    have t := bx_new (w.alloc (.cells #[.slice A0 n0 k0, .slice A1 n1 k1, .slice A2 n2 k2, .int .i64 dy, .int .i64 la, .int .i64 tr] 44)) [.int .i64 0, .int .i64 0, .int .i64 0, .int .i64 0] 47
    rw [World.size_alloc] at t
    exact t
  clear hW
  have e0 : ∀ q : UpW W, q.v.cell? ⟨w.heap.size, 0, none⟩ = some (.slice A0 n0 k0) := fun q => (bx_up n4 q.up 0 _ rfl).1
  have e1 : ∀ q : UpW W, q.v.cell? ⟨w.heap.size, 1, none⟩ = some (.slice A1 n1 k1) := fun q => (bx_up n4 q.up 1 _ rfl).1
  have e2 : ∀ q : UpW W, q.v.cell? ⟨w.heap.size, 2, none⟩ = some (.slice A2 n2 k2) := fun q => (bx_up n4 q.up 2 _ rfl).1
  have e3 : ∀ q : UpW W, q.v.cell? ⟨w.heap.size, 3, none⟩ = some (.int .i64 dy) := fun q => (bx_up n4 q.up 3 _ rfl).1
  have e4 : ∀ q : UpW W, q.v.cell? ⟨w.heap.size, 4, none⟩ = some (.int .i64 la) := fun q => (bx_up n4 q.up 4 _ rfl).1
  have e5 : ∀ q : UpW W, q.v.cell? ⟨w.heap.size, 5, none⟩ = some (.int .i64 tr) := fun q => (bx_up n4 q.up 5 _ rfl).1
  have q1 := hide (fun q : UpW W => unhide H1 q.v (up_trans U q.up))
  have q2 := hide (fun q : UpW W => unhide H2 q.v (up_trans U q.up))
  have q3 := hide (fun q : UpW W => unhide H3 q.v (up_trans U q.up))
  refine wpIn_wide.1 (Hin.wpIn_region_lateM (F := Fence.wide) (n := 0) (S := fun w' => ∃ p : UpW W, w' = p.v) 8 2 #[true, true, true, true, true, true, true, true, true, false, false] Hin.open_wide hmx (by kernel_rfl) (by simp only [List.take_succ_cons, List.take_zero]; rfl) rfl ⟨⟨_, up_drew (up_refl _)⟩, rfl⟩ ?_)
  (repeat (go_big_quiet_step (first | (go_at_call 48; exact upq (unhide q1 _)) | (go_at_call 33; exact upq (unhide q2 _)) | (go_at_call 49; exact upq (unhide q3 _)))))
  refine wpQuiet_nil ⟨rfl, ?_⟩
  rintro _ ⟨pq, rfl⟩
  have Uq := up_trans U pq.up
  have m4 := bx_up n4 pq.up
  have m8 := bx_up n8 pq.up
  clear n4 n8 e0 e1 e2 e3 e4 e5 q1 q2 q3 H1 H2 H3
  go_simp
  refine at_any (fun W2 hW2 => ?_)
  have U3 : Up pq.v W2 := by rw [hW2]; exact up_alloc (up_refl _) _
  have hI := i6_3 (W := W2) (g := pq.v.heap.size) (a := E1) (b := E2) (c := E3) (by rw [hW2]; exact bx_new _ _ _)
  have hO := hide (unhide H4 W2 _ hI)
  have r4 := bx_up m4 U3
  have r8 := bx_up m8 U3
  have U4 := up_trans Uq U3
  clear hW2 hI H4 m4 m8 U3 Uq
  refine wpAnyIn_ready (rs := [9]) (by kernel_rfl) (by simp) ?_; refine AllReadyIn.cons rfl (fun K hK => ?_) AllReadyIn.nil; go_simp
  refine ⟨trivial, rfl, CallsIn.mono (callsIn_wide.2 (unhide hO)) ?_⟩
  rintro e W3 ⟨rfl, hu⟩
  refine hK _ _ ?_
  clear hK K hO
  have s4 := bx_up r4 hu
  have s8 := bx_up r8 hu
  have U5 := up_trans U4 hu
  clear r4 r8 U4
  refine wpAnyIn_ready (rs := [10]) (by kernel_rfl) (by simp) ?_; refine AllReadyIn.cons rfl (fun K hK => ?_) AllReadyIn.nil; go_simp
  refine hK _ _ ?_
  clear hK K
  refine wpAnyIn_done (by kernel_rfl) ?_ _
  have d0 := (s4 0 _ rfl).1
  have d1 := (s4 1 _ rfl).1
  have d2 := (s4 2 _ rfl).1
  have d3 := (s4 3 _ rfl).1
  have d4 := (s4 4 _ rfl).1
  have d5 := (s4 5 _ rfl).1
  have x0 := (s8 0 _ rfl).1
  have x1 := (s8 1 _ rfl).1
  have x2 := (s8 2 _ rfl).1
  have x3 := (s8 3 _ rfl).1
  have y0 := (s8 0 _ rfl).2
  have y1 := (s8 1 _ rfl).2
  have y2 := (s8 2 _ rfl).2
  have y3 := (s8 3 _ rfl).2
  clear hmx hu s4
  by_cases hE : E = 0
  · obtain ⟨v0, v1, v2, v3, rfl⟩ := hV2 hE
    have hw5 := hide (fun W hU => unhide H5 W hU hE)
    have HS8 := hide s8
    have HU5 := hide U5
    subst hE
    clear hV hV2 H5 s8 U5 U
    go_wp2_with (first | (go_at_call 50; (with_reducible refine (unhide hw5 _ (unhide HU5)).mono ?_); rintro e w6 ⟨Lv, rfl, hu6, hc⟩; have hc := hide hc) | (go_at_call 51; (with_reducible refine (unhide hc).mono ?_); rintro e w7 ⟨rfl, hu7⟩; have U7 := up_trans (unhide HU5) (up_trans hu6 hu7); have s9 := bx_up (unhide HS8) (up_trans hu6 hu7); obtain ⟨⟨b0, f0⟩, ⟨b1, f1⟩, ⟨b2, f2⟩, ⟨b3, f3⟩⟩ := bx4 s9))
    obtain ⟨⟨z0, g0⟩, ⟨z1, g1⟩, ⟨z2, g2⟩, ⟨z3, g3⟩⟩ := bx4 (bx_set4 (v0 := .int .i64 v0) (v1 := .int .i64 v1) (v2 := .int .i64 v2) (v3 := .int .i64 v3) s9)
    have U9 : Up w ((((w7.setCell ⟨w.heap.size + 1, 0, none⟩ (.int .i64 v0)).setCell ⟨w.heap.size + 1, 1, none⟩ (.int .i64 v1)).setCell ⟨w.heap.size + 1, 2, none⟩ (.int .i64 v2)).setCell ⟨w.heap.size + 1, 3, none⟩ (.int .i64 v3)) := up_set (up_set (up_set (up_set U7 (by simp only; omega) _) (by simp only; omega) _) (by simp only; omega) _) (by simp only; omega) _
    generalize (((w7.setCell ⟨w.heap.size + 1, 0, none⟩ (.int .i64 v0)).setCell ⟨w.heap.size + 1, 1, none⟩ (.int .i64 v1)).setCell ⟨w.heap.size + 1, 2, none⟩ (.int .i64 v2)).setCell ⟨w.heap.size + 1, 3, none⟩ (.int .i64 v3) = W9 at *
    (try simp only [Exit.inBlock, Exit.then])
    refine bodyPost_ret (v := .tuple #[.agg #[.int .i64 v0, .int .i64 v1, .int .i64 v2, .int .i64 v3], .int .i64 0]) (by simp [results, Try.results21, go_sem, z0, z1, z2, z3]) rfl ?_
    exact ⟨rfl, U9⟩
  · obtain rfl := hV hE
    have e1 : (E == 0) = false := by simp; exact hE
    clear hV hV2 H5 U
    go_wp2
    obtain ⟨⟨z0, g0⟩, ⟨z1, g1⟩, ⟨z2, g2⟩, ⟨z3, g3⟩⟩ := bx4 (bx_set4 (v0 := .int .i64 0) (v1 := .int .i64 0) (v2 := .int .i64 0) (v3 := .int .i64 0) s8)
    have U9 : Up w ((((W3.setCell ⟨w.heap.size + 1, 0, none⟩ (.int .i64 0)).setCell ⟨w.heap.size + 1, 1, none⟩ (.int .i64 0)).setCell ⟨w.heap.size + 1, 2, none⟩ (.int .i64 0)).setCell ⟨w.heap.size + 1, 3, none⟩ (.int .i64 0)) := up_set (up_set (up_set (up_set U5 (by simp only; omega) _) (by simp only; omega) _) (by simp only; omega) _) (by simp only; omega) _
    generalize (((W3.setCell ⟨w.heap.size + 1, 0, none⟩ (.int .i64 0)).setCell ⟨w.heap.size + 1, 1, none⟩ (.int .i64 0)).setCell ⟨w.heap.size + 1, 2, none⟩ (.int .i64 0)).setCell ⟨w.heap.size + 1, 3, none⟩ (.int .i64 0) = W9 at *
    (try simp only [Exit.inBlock, Exit.then])
    refine bodyPost_ret (v := .tuple #[.agg #[.int .i64 0, .int .i64 0, .int .i64 0, .int .i64 0], .int .i64 E]) (by simp [results, Try.results21, go_sem, z0, z1, z2, z3]) rfl ?_
    exact ⟨rfl, U9⟩
end Go.Proofs.Ytdignnmhiifpgaa
