/- The worst one of the effects: the program's greatest and worst. -/
import Derived.Test.YtdignnmhiifpgaaBrC
namespace Go.Proofs.Ytdignnmhiifpgaa
open Go.RowKit Go.Proofs.Gn Go.Shelf
attribute [local go_sem] Oper.semAt_some
set_option linter.unusedVariables false
/-- The worst so far, and the next one. -/
def btE (b : Option (Int × Int)) (x : Int × Int) : Option (Int × Int) := match b with
  | none => some x
  | some c => if 0 < cmpE x.1 x.2 c.1 c.2 then some x else some c
def bsE (xs : List (Int × Int)) : Option (Int × Int) := xs.foldl btE none
theorem bsE_snoc (xs : List (Int × Int)) (x : Int × Int) : bsE (xs ++ [x]) = btE (bsE xs) x := by unfold bsE; rw [List.foldl_append]; rfl
/-- What the box of the worst one holds. -/
def beC (L : Ln) : Option (Int × Int) → List Value
  | none => [.int .i64 0, .int .i64 0, .int .i64 0, .int .i64 0]
  | some c => [.int .i64 c.1, .int .i64 L.span, .int .i64 L.po, .int .i64 c.2]
def beV (L : Ln) : Option (Int × Int) → Value
  | none => .agg #[.int .i64 0, .int .i64 0, .int .i64 0, .int .i64 0]
  | some c => .agg #[.int .i64 c.1, .int .i64 L.span, .int .i64 L.po, .int .i64 c.2]
theorem bx_set4 {W : World} {b : Nat} {u0 u1 u2 u3 v0 v1 v2 v3 : Value} (h : Bx W b [u0, u1, u2, u3]) : Bx ((((W.setCell ⟨b, 0, none⟩ v0).setCell ⟨b, 1, none⟩ v1).setCell ⟨b, 2, none⟩ v2).setCell ⟨b, 3, none⟩ v3) b [v0, v1, v2, v3] := bx_set (bx_set (bx_set (bx_set h 0 v0) 1 v1) 2 v2) 3 v3
/-- Where the next one becomes the worst. -/
def stE (w V : World) (x : Int × Int) (L : Ln) : World := ((((V.setCell ⟨w.heap.size + 1 + 1, 0, none⟩ (.int .i64 x.1)).setCell ⟨w.heap.size + 1 + 1, 1, none⟩ (.int .i64 L.span)).setCell ⟨w.heap.size + 1 + 1, 2, none⟩ (.int .i64 L.po)).setCell ⟨w.heap.size + 1 + 1, 3, none⟩ (.int .i64 x.2)).setCell ⟨w.heap.size + 1 + 1 + 1, 0, none⟩ (.bool true)
structure GrE (p : Nat → Prop) (L : Ln) (w W0 : World) (xs : List (Int × Int)) (V : World) : Prop where
  be : Bx V (w.heap.size + 1 + 1) (beC L (bsE xs))
  fo : Bx V (w.heap.size + 1 + 1 + 1) [.bool (bsE xs).isSome]
  kp : KpP p W0 V
  up : Below w.heap.size w V
theorem grE_own {p : Nat → Prop} {L : Ln} {w W0 : World} {B : Nat} (hB : w.heap.size ≤ B) : OwnFrom B (GrE p L w W0) := fun _ V V' row hs hg hr =>
  ⟨bx_ownP hs.be hg (fun r e => (hr r e).2), bx_ownP hs.fo hg (fun r e => (hr r e).2), kpP_own hs.kp hg (fun r e => (hr r e).2), ownFrom_below (β := Unit) (Nat.le_refl _) hB () V V' row hs.up hg hr⟩
set_option maxRecDepth 100000 in
set_option maxHeartbeats 8000000 in
theorem p_greatestE (Bt Bl : Nat) (A : Option Addr) (cap : Nat) (L : Ln) (ts : List (Int × Int)) (w : World) (hW : BrW Bt Bl A cap L ts w) (h1 : Bt < w.heap.size) (h2 : Bl < w.heap.size) (h3 : ∀ b off, A = some ⟨b, off, none⟩ → b < w.heap.size) (ht : TrOk ts) (hc : CoOk L) (hL : LnOk L w)
    (hLp : ∀ (p : Nat → Prop), (∀ k, p k → w.heap.size ≤ k) → ∀ W W', Below w.heap.size w W → KpP p W W' → LnOk L W → LnOk L W') :
    Calls Try.prog 75 #[.func (.func 89) #[] #[.pointer (some ⟨Bl, 0, none⟩), .pointer (some ⟨Bt, 0, none⟩)], .func (.func 77) #[] #[]] w fun e w' => e = .returned (beV L (bsE (efs L ts))) ∧ Up w w' := by
  refine (callsIn_wide (n := 9)).1 ?_
  have hHW := fun (v s v' s' : Int) (W : World) => p_worst1 v L.span L.po s v' L.span L.po s' W
  have HW1 := hide hHW
  unfold efA at HW1
  clear hHW
  obtain ⟨p, hp⟩ : ∃ p : Nat → Prop, p = fun k => k = w.heap.size + 1 + 1 ∨ k = w.heap.size + 1 + 1 + 1 := ⟨_, rfl⟩
  have hp1 : ∀ k, p k → w.heap.size ≤ k := fun k h => by rw [hp] at h; rcases h with h | h <;> omega
  have hp2 : ∀ k, p k → k < w.heap.size + 4 := fun k h => by rw [hp] at h; rcases h with h | h <;> omega
  have hq1 : p (w.heap.size + 1 + 1) := by rw [hp]; exact .inl rfl
  have hq2 : p (w.heap.size + 1 + 1 + 1) := by rw [hp]; exact .inr rfl
  have hq3 : ¬ p w.heap.size := by rw [hp]; rintro (h | h) <;> omega
  have hq4 : ¬ p (w.heap.size + 1) := by rw [hp]; rintro (h | h) <;> omega
  have hq5 : ∀ k, w.heap.size + 4 ≤ k → ¬ p k := fun k h h' => by have := hp2 k h'; omega
  clear hp
  have hSq := fun (W : World) (hU : Up w W) (hz : w.heap.size + 4 ≤ W.heap.size) => ef_seq p Bt Bl A cap L ts W (hW.up hU) ⟨fun h => by have := hp1 _ h; omega, fun h => by have := hp1 _ h; omega, fun b off e h => by have := hp1 _ h; have := h3 b off e; omega⟩ (fun k h => by have := hp2 _ h; omega) ht hc (lnOk_up hL hU) (fun W1 W2 hb => hLp p hp1 W1 W2 (Below.trans hU (Below.mono hb hU.size)))
  have HSq := hide hSq
  have HPQ := hide (⟨hq1, hq2, hq3, hq4, hq5⟩ : _ ∧ _ ∧ _ ∧ _ ∧ _)
  clear hSq hW h1 h2 h3 ht hc hL hLp hp1 hp2 hq1 hq2 hq3 hq4 hq5
  have rO : Fence.wide.round = none := rfl
  have h1 : 1 ≤ 9 := by omega
  refine callsIn_of_wp_marks Try.func75 rfl trivial ?_ rfl
  simp only [Try.ntmps75, List.size_toArray, List.length_cons, List.length_nil, Nat.reduceAdd, Nat.reduceSub, Array.replicate_succ, Array.replicate_zero, List.push_toArray, List.append_toArray, List.nil_append, List.cons_append]
  gi_wp2
  refine at_wpIn (fun W0 hW0 => ?_)
  have U0 : Up w W0 := by rw [hW0]; exact (by repeat' (first | (with_reducible exact up_refl _) | (with_reducible assumption) | (with_reducible refine up_alloc ?_ _) | (with_reducible refine up_drewN ?_ _) | (with_reducible refine up_drew ?_) | (with_reducible refine up_set ?_ (by first | (simp; done) | (simp; omega) | omega) _) | (refine up_trans ?_ (by with_reducible assumption))))
  have hz0 : W0.heap.size = w.heap.size + 4 := by rw [hW0]; simp
  obtain ⟨b3, b4, b5, b6⟩ : Bx W0 w.heap.size [.func (.func 77) #[] #[]] ∧ Bx W0 (w.heap.size + 1) (beC L none) ∧ Bx W0 (w.heap.size + 1 + 1) (beC L none) ∧ Bx W0 (w.heap.size + 1 + 1 + 1) [.bool false] := by
    rw [hW0]
    refine ⟨bx_alloc (bx_alloc (bx_alloc (bx_new w _ _) _) _) _, ?_, ?_, ?_⟩
    · have t := bx_new (w.alloc (.cells #[.func (.func 77) #[] #[]] 112)) (beC L none) 47
      rw [World.size_alloc] at t
      exact bx_alloc (bx_alloc t _) _
    · have t := bx_new ((w.alloc (.cells #[.func (.func 77) #[] #[]] 112)).alloc (.cells (beC L none).toArray 47)) (beC L none) 47
      rw [World.size_alloc, World.size_alloc] at t
      exact bx_alloc t _
    · have t := bx_new (((w.alloc (.cells #[.func (.func 77) #[] #[]] 112)).alloc (.cells (beC L none).toArray 47)).alloc (.cells (beC L none).toArray 47)) [.bool false] 4
      rw [World.size_alloc, World.size_alloc, World.size_alloc] at t
      exact t
  clear hW0
  obtain ⟨hq1, hq2, hq3, hq4, hq5⟩ := unhide HPQ
  have hsq := unhide HSq W0 U0 (by omega)
  have HB3 := hide b3
  have HB4 := hide b4
  have HU0 := hide U0
  clear HSq b3 b4 U0
  refine wpIn_rangeFunc_ownY rO h1 (gf := 89) (lb := #[.pointer (some ⟨Bl, 0, none⟩), .pointer (some ⟨Bt, 0, none⟩)]) rfl trivial (enters_of Try.func89 (by kernel_rfl) rfl)
      hsq (Below.refl _ _) kpQ_trans (fun V o o' h hc _ => kpQ_put V _ o o' (by omega) h hc) (fun _ => rfl)
      (GrE p L w W0) (fun c xs V => False) (grE_own (by omega)) (fun c => ownFrom_pure _ (fun _ => False))
      ⟨b5, b6, kpP_refl _, unhide HU0⟩
      (fun _ x a' V => ∃ B1, Bx V B1 (beC L (some x)) ∧ w.heap.size + 4 ≤ B1 ∧ a' = { tmps := #[.func (.func 89) #[] #[.pointer (some ⟨Bl, 0, none⟩), .pointer (some ⟨Bt, 0, none⟩)], .func (.func 77) #[] #[], undef, .pointer (some ⟨w.heap.size, 0, none⟩), .pointer (some ⟨w.heap.size + 1, 0, none⟩), .pointer (some ⟨w.heap.size + 1 + 1, 0, none⟩), .pointer (some ⟨w.heap.size + 1 + 1 + 1, 0, none⟩), .pointer (some ⟨B1, 0, none⟩), .func (.func 89) #[] #[.pointer (some ⟨Bl, 0, none⟩), .pointer (some ⟨Bt, 0, none⟩)], feV L x, undef, undef, undef, undef, undef, undef, undef, undef, undef, undef, undef], defers := [] })
      (fun _ x a' _ X Y row hs hg hr => by obtain ⟨B1, h1, h2, h3⟩ := hs; exact ⟨B1, bx_ownP h1 hg (fun r e => (hr r e).2), h2, h3⟩)
      ?assign ?body ?done ?stop
  case assign =>
    rintro lp xs x V K hI _ hK
    unfold feV
    gi_wp2
    refine hK _ _ (up_kfP (up_alloc (up_refl V) _)) (kpQ_up (up_alloc (up_refl V) _)) ⟨bx_alloc hI.be _, bx_alloc hI.fo _, kpP_trans hI.kp (kpP_up (up_alloc (up_refl V) _)), up_alloc hI.up _⟩ ⟨V.heap.size, bx_new V _ _, ?_, rfl⟩
    have := hI.kp.1
    omega
  case body =>
    rintro lp xs x a' V hlo hrec hI ⟨B1, hB1, hz1, rfl⟩
    obtain ⟨be, fo, hkp, hup⟩ := hI
    have hsn := bsE_snoc xs x
    have k3 := bx1 (bx_kpP (unhide HB3) hkp hq3)
    obtain ⟨bb, hb⟩ : ∃ bb, bsE xs = bb := ⟨_, rfl⟩
    rw [hb] at be fo hsn
    have HSN := hide hsn
    have HKP := hide hkp
    have HUP := hide hup
    have HB1 := hide hB1
    have HBE := hide be
    have HFO := hide fo
    have j0 := (hB1 0 _ rfl).1
    have j1 := (hB1 1 _ rfl).1
    have j2 := (hB1 2 _ rfl).1
    have j3 := (hB1 3 _ rfl).1
    have f6 := bx1 fo
    have g6 := (fo 0 _ rfl).2
    clear hsn hkp hup hB1 fo b5 b6 hsq HB3 HB4 HU0 hb hrec
    have hs : ∀ V1, Up V V1 → KeepsFrom W0.heap.size V (stE w V1 x L) ∧ KpQ p (W0.heap.size + 2) V (stE w V1 x L) ∧ ∀ b0, Bx V1 (w.heap.size + 1 + 1) (beC L b0) → Bx V1 (w.heap.size + 1 + 1 + 1) [.bool b0.isSome] → bsE (xs ++ [x]) = some x → GrE p L w W0 (xs ++ [x]) (stE w V1 x L) := by
      intro V1 hu
      unfold stE
      have hQ : KpQ p (W0.heap.size + 2) V _ := kpQ_trans (kpQ_up hu) (kpQ_trans (kpQ_set V1 (.int .i64 x.1) (i := 0) hq1) (kpQ_trans (kpQ_set _ (.int .i64 L.span) (i := 1) hq1) (kpQ_trans (kpQ_set _ (.int .i64 L.po) (i := 2) hq1) (kpQ_trans (kpQ_set _ (.int .i64 x.2) (i := 3) hq1) (kpQ_set _ (.bool true) (i := 0) hq2)))))
      refine ⟨(up_kfP hu).trans ((((((KeepsOthers.setCell _ _ _).from _).trans ((KeepsOthers.setCell _ _ _).from _)).trans ((KeepsOthers.setCell _ _ _).from _)).trans ((KeepsOthers.setCell _ _ _).from _)).trans ((KeepsOthers.setCell _ _ _).from _)), hQ, fun b0 h1 h2 h3 => ⟨?_, ?_, kpP_trans (unhide HKP) hQ.1, ?_⟩⟩
      · rw [h3]
        obtain ⟨u0, u1, u2, u3, e⟩ : ∃ u0 u1 u2 u3, beC L b0 = [u0, u1, u2, u3] := by cases b0 <;> exact ⟨_, _, _, _, rfl⟩
        rw [e] at h1
        exact bx_far (bx_set4 h1) (p := ⟨w.heap.size + 1 + 1 + 1, 0, none⟩) (by simp only; omega) _
      · rw [h3]
        exact bx_set (bx_far (bx_far (bx_far (bx_far h2 (p := ⟨w.heap.size + 1 + 1, 0, none⟩) (by simp only; omega) _) (p := ⟨w.heap.size + 1 + 1, 1, none⟩) (by simp only; omega) _) (p := ⟨w.heap.size + 1 + 1, 2, none⟩) (by simp only; omega) _) (p := ⟨w.heap.size + 1 + 1, 3, none⟩) (by simp only; omega) _) 0 _
      · exact up_set (up_set (up_set (up_set (up_set (up_trans (unhide HUP) hu) (by simp only; omega) _) (by simp only; omega) _) (by simp only; omega) _) (by simp only; omega) _) (by simp only; omega) _
    have HS := hide hs
    unfold stE at HS
    clear hs
    rcases bb with _ | c
    · have e0 := (be 0 _ rfl).1
      have e1 := (be 1 _ rfl).1
      have e2 := (be 2 _ rfl).1
      have e3 := (be 3 _ rfl).1
      have d0 := (be 0 _ rfl).2
      have d1 := (be 1 _ rfl).2
      have d2 := (be 2 _ rfl).2
      have d3 := (be 3 _ rfl).2
      have HX : Hid (bsE (xs ++ [x]) = some x) := hide (unhide HSN)
      clear be HSN
      simp only [Option.isSome_none] at f6
      unfold feV
      gi_wp2
      refine ⟨fun f e => (by cases e), ?_⟩
      gi_wp2
      exact ⟨(unhide HS V (up_refl V)).1, (unhide HS V (up_refl V)).2.1, (unhide HS V (up_refl V)).2.2 none (unhide HBE) (unhide HFO) (unhide HX)⟩
    · have e0 := (be 0 _ rfl).1
      have e1 := (be 1 _ rfl).1
      have e2 := (be 2 _ rfl).1
      have e3 := (be 3 _ rfl).1
      simp only [Option.isSome_some] at f6
      have HCm := hide (fun W => unhide HW1 x.1 x.2 c.1 c.2 W)
      obtain ⟨r, hr⟩ : ∃ r, cmpE x.1 x.2 c.1 c.2 = r := ⟨_, rfl⟩
      unfold btE at HSN
      simp only [hr] at HSN HCm
      clear hr
      unfold feV
      by_cases h0 : 0 < r
      · have HX : Hid (bsE (xs ++ [x]) = some x) := hide (by rw [unhide HSN, if_pos h0])
        clear HSN be
        gi_wp2_with ((try refine ⟨trivial, ?_⟩); gi_at_call 77; (with_reducible refine CallsIn.mono (CallsIn.inRound lp (callsIn_wide.2 (unhide HCm _))) ?_); rintro e V1 ⟨rfl, hu⟩; have hj := bx_up (unhide HB1) hu; have hbe := bx_up (unhide HBE) hu; have hfo := bx_up (unhide HFO) hu; have i0 := (hj 0 _ rfl).1; have i1 := (hj 1 _ rfl).1; have i2 := (hj 2 _ rfl).1; have i3 := (hj 3 _ rfl).1; have l6 := (hfo 0 _ rfl).1; have l7 := (hfo 0 _ rfl).2; have l0 := (hbe 0 _ rfl).1; have l1 := (hbe 1 _ rfl).1; have l2 := (hbe 2 _ rfl).1; have l3 := (hbe 3 _ rfl).1; have m0 := (hbe 0 _ rfl).2; have m1 := (hbe 1 _ rfl).2; have m2 := (hbe 2 _ rfl).2; have m3 := (hbe 3 _ rfl).2)
        exact ⟨(unhide HS V1 hu).1, (unhide HS V1 hu).2.1, (unhide HS V1 hu).2.2 (some c) hbe hfo (unhide HX)⟩
      · have HX : Hid (bsE (xs ++ [x]) = some c) := hide (by rw [unhide HSN, if_neg h0])
        have h00 : decide (0 < r) = false := decide_eq_false h0
        clear HSN be
        gi_wp2_with ((try refine ⟨trivial, ?_⟩); gi_at_call 77; (with_reducible refine CallsIn.mono (CallsIn.inRound lp (callsIn_wide.2 (unhide HCm _))) ?_); rintro e V1 ⟨rfl, hu⟩; have hbe := bx_up (unhide HBE) hu; have hfo := bx_up (unhide HFO) hu)
        exact ⟨up_kfP hu, kpQ_up hu, ⟨by rw [unhide HX]; exact hbe, by rw [unhide HX]; exact hfo, kpP_trans (unhide HKP) (kpP_up hu), up_trans (unhide HUP) hu⟩⟩
  case done =>
    rintro D xs V hD rfl ⟨be, fo, hkp, hup⟩ hK
    have b4 := bx_kpP (unhide HB4) hkp hq4
    obtain ⟨bb, hb⟩ : ∃ bb, bsE (efs L ts) = bb := ⟨_, rfl⟩
    rw [hb] at be
    rcases bb with _ | c
    · have HE2 := hide (show beV L (bsE (efs L ts)) = .agg #[.int .i64 0, .int .i64 0, .int .i64 0, .int .i64 0] from by rw [hb]; rfl)
      have be' : Bx V (w.heap.size + 1 + 1) [.int .i64 0, .int .i64 0, .int .i64 0, .int .i64 0] := be
      have j0 := (be' 0 _ rfl).1
      have j1 := (be' 1 _ rfl).1
      have j2 := (be' 2 _ rfl).1
      have j3 := (be' 3 _ rfl).1
      have b4' : Bx V (w.heap.size + 1) [.int .i64 0, .int .i64 0, .int .i64 0, .int .i64 0] := b4
      have r0 := (b4' 0 _ rfl).1
      have r1 := (b4' 1 _ rfl).1
      have r2 := (b4' 2 _ rfl).1
      have r3 := (b4' 3 _ rfl).1
      have q0 := (b4' 0 _ rfl).2
      have q1 := (b4' 1 _ rfl).2
      have q2 := (b4' 2 _ rfl).2
      have q3 := (b4' 3 _ rfl).2
      have hK1 := (((((KeepsOthers.setCell V ⟨w.heap.size + 1, 0, none⟩ (.int .i64 0)).from 0).trans ((KeepsOthers.setCell _ ⟨w.heap.size + 1, 1, none⟩ (.int .i64 0)).from 0)).trans ((KeepsOthers.setCell _ ⟨w.heap.size + 1, 2, none⟩ (.int .i64 0)).from 0)).trans ((KeepsOthers.setCell _ ⟨w.heap.size + 1, 3, none⟩ (.int .i64 0)).from 0)).same D _ (Nat.zero_le _) hK rfl
      have R9 := bx_ownP (bx_set4 (v0 := .int .i64 0) (v1 := .int .i64 0) (v2 := .int .i64 0) (v3 := .int .i64 0) b4') (grownBy_putObj' _ D (.deferred none)) (fun r e => by cases e; exact ⟨_, hK1, rfl⟩)
      have HUp := hide (Below.trans (up_set (up_set (up_set (up_set hup (by simp only; omega) (.int .i64 0)) (by simp only; omega) (.int .i64 0)) (by simp only; omega) (.int .i64 0)) (by simp only; omega) (.int .i64 0)) (belowK_b (w := w) (Nat.le_refl _) _ D _ (.deferred none) (by omega) hK1 rfl rfl))
      have z0 := (R9 0 _ rfl).1
      have z1 := (R9 1 _ rfl).1
      have z2 := (R9 2 _ rfl).1
      have z3 := (R9 3 _ rfl).1
      clear be b4 be' b4' R9 fo hkp hup hb HPQ b5 b6 hsq HB3 HB4 HU0 HW1 hq1 hq2 hq3 hq4 hq5
      gi_wp2
      refine ⟨by simp, .inl ⟨_, _, rfl, run_takeDeferred hK1, ?_⟩⟩
      refine ⟨.agg #[.int .i64 0, .int .i64 0, .int .i64 0, .int .i64 0], ?_, ⟨by rw [unhide HE2], unhide HUp⟩⟩
      simp [results, Try.f75, go_sem, z0, z1, z2, z3]
    · have HE2 := hide (show beV L (bsE (efs L ts)) = .agg #[.int .i64 c.1, .int .i64 L.span, .int .i64 L.po, .int .i64 c.2] from by rw [hb]; rfl)
      have be' : Bx V (w.heap.size + 1 + 1) [.int .i64 c.1, .int .i64 L.span, .int .i64 L.po, .int .i64 c.2] := be
      have j0 := (be' 0 _ rfl).1
      have j1 := (be' 1 _ rfl).1
      have j2 := (be' 2 _ rfl).1
      have j3 := (be' 3 _ rfl).1
      have b4' : Bx V (w.heap.size + 1) [.int .i64 0, .int .i64 0, .int .i64 0, .int .i64 0] := b4
      have r0 := (b4' 0 _ rfl).1
      have r1 := (b4' 1 _ rfl).1
      have r2 := (b4' 2 _ rfl).1
      have r3 := (b4' 3 _ rfl).1
      have q0 := (b4' 0 _ rfl).2
      have q1 := (b4' 1 _ rfl).2
      have q2 := (b4' 2 _ rfl).2
      have q3 := (b4' 3 _ rfl).2
      have hK1 := (((((KeepsOthers.setCell V ⟨w.heap.size + 1, 0, none⟩ (.int .i64 c.1)).from 0).trans ((KeepsOthers.setCell _ ⟨w.heap.size + 1, 1, none⟩ (.int .i64 L.span)).from 0)).trans ((KeepsOthers.setCell _ ⟨w.heap.size + 1, 2, none⟩ (.int .i64 L.po)).from 0)).trans ((KeepsOthers.setCell _ ⟨w.heap.size + 1, 3, none⟩ (.int .i64 c.2)).from 0)).same D _ (Nat.zero_le _) hK rfl
      have R9 := bx_ownP (bx_set4 (v0 := .int .i64 c.1) (v1 := .int .i64 L.span) (v2 := .int .i64 L.po) (v3 := .int .i64 c.2) b4') (grownBy_putObj' _ D (.deferred none)) (fun r e => by cases e; exact ⟨_, hK1, rfl⟩)
      have HUp := hide (Below.trans (up_set (up_set (up_set (up_set hup (by simp only; omega) (.int .i64 c.1)) (by simp only; omega) (.int .i64 L.span)) (by simp only; omega) (.int .i64 L.po)) (by simp only; omega) (.int .i64 c.2)) (belowK_b (w := w) (Nat.le_refl _) _ D _ (.deferred none) (by omega) hK1 rfl rfl))
      have z0 := (R9 0 _ rfl).1
      have z1 := (R9 1 _ rfl).1
      have z2 := (R9 2 _ rfl).1
      have z3 := (R9 3 _ rfl).1
      clear be b4 be' b4' R9 fo hkp hup hb HPQ b5 b6 hsq HB3 HB4 HU0 HW1 hq1 hq2 hq3 hq4 hq5
      gi_wp2
      refine ⟨by simp, .inl ⟨_, _, rfl, run_takeDeferred hK1, ?_⟩⟩
      refine ⟨.agg #[.int .i64 c.1, .int .i64 L.span, .int .i64 L.po, .int .i64 c.2], ?_, ⟨by rw [unhide HE2], unhide HUp⟩⟩
      simp [results, Try.f75, go_sem, z0, z1, z2, z3]
  case stop =>
    rintro D c xs V hD _ hX hK
    exact hX.elim
end Go.Proofs.Ytdignnmhiifpgaa
