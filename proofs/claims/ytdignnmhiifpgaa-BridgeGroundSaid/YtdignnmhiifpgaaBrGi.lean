/- The greatest one of the weights. -/
import Derived.Test.YtdignnmhiifpgaaBrWt
import Derived.Test.YtdignnmhiifpgaaBrG
namespace Go.Proofs.Ytdignnmhiifpgaa
open Go.RowKit Go.Proofs.Gn Go.Shelf
attribute [local go_sem] Oper.semAt_some
set_option linter.unusedVariables false
def gtI (b : Option Int) (x : Int) : Option Int := match b with
  | none => some x
  | some c => if 0 < cmpV x c then some x else some c
def gsI (xs : List Int) : Option Int := xs.foldl gtI none
theorem gsI_snoc (xs : List Int) (x : Int) : gsI (xs ++ [x]) = gtI (gsI xs) x := by unfold gsI; rw [List.foldl_append]; rfl
/-- What holds in each round. -/
structure GiE (p : Nat → Prop) (w W0 : World) (xs : List Int) (V : World) : Prop where
  be : Bx V (w.heap.size + 1) [.int .i64 ((gsI xs).getD 0)]
  fo : Bx V (w.heap.size + 1 + 1) [.bool (gsI xs).isSome]
  kp : KpP p W0 V
  up : Up w V
theorem giE_own {p : Nat → Prop} {w W0 : World} {B : Nat} (hB : w.heap.size ≤ B) : OwnFrom B (GiE p w W0) := fun _ V V' row hs hg hr =>
  ⟨bx_ownP hs.be hg (fun r e => (hr r e).2), bx_ownP hs.fo hg (fun r e => (hr r e).2), kpP_own hs.kp hg (fun r e => (hr r e).2), hs.up.grown hg hs.up.size (fun j e => Nat.le_trans hB (hr j e).1)⟩
set_option maxRecDepth 100000 in
set_option maxHeartbeats 8000000 in
theorem p_greatestI (Bt Bg : Nat) (A : Option Addr) (cap : Nat) (L : Int) (ts : List (Int × Int)) (w : World) (hW : WtW Bt Bg A cap L ts w) (h1 : Bt < w.heap.size) (h2 : Bg < w.heap.size) (h3 : ∀ b off, A = some ⟨b, off, none⟩ → b < w.heap.size) (ht : TrOk ts) (hL : 0 ≤ L ∧ L ≤ 1048576) (hcap : ts.length ≤ cap) :
    Calls Try.prog 38 #[.func (.func 68) #[] #[.pointer (some ⟨Bt, 0, none⟩), .pointer (some ⟨Bg, 0, none⟩)], .func (.func 40) #[] #[]] w fun e w' => e = .returned (.int .i64 ((gsI (wtL L ts)).getD 0)) ∧ Up w w' := by
  refine (callsIn_wide (n := 9)).1 ?_
  have HW1 := hide (fun (a b : Int) (W : World) => c_Compare a b W)
  obtain ⟨p, hp⟩ : ∃ p : Nat → Prop, p = fun k => k = w.heap.size + 1 ∨ k = w.heap.size + 1 + 1 := ⟨_, rfl⟩
  have hp1 : ∀ k, p k → w.heap.size ≤ k := fun k h => by rw [hp] at h; rcases h with h | h <;> omega
  have hp2 : ∀ k, p k → k < w.heap.size + 3 := fun k h => by rw [hp] at h; rcases h with h | h <;> omega
  have hq1 : p (w.heap.size + 1) := by rw [hp]; exact .inl rfl
  have hq2 : p (w.heap.size + 1 + 1) := by rw [hp]; exact .inr rfl
  have hq3 : ¬ p w.heap.size := by rw [hp]; rintro (h | h) <;> omega
  have hq5 : ∀ k, w.heap.size + 3 ≤ k → ¬ p k := fun k h h' => by have := hp2 k h'; omega
  clear hp
  have hSq := fun (W : World) (hU : Up w W) (hz : w.heap.size + 3 ≤ W.heap.size) => wt_seq p (W.heap.size + 2) Bt Bg A cap L ts W (hW.up hU) ⟨fun h => by have := hp1 _ h; omega, fun h => by have := hp1 _ h; omega, fun b off e h => by have := hp1 _ h; have := h3 b off e; omega⟩ (fun k h => by have := hp2 _ h; omega) ht hL hcap 8 (by omega)
  have HSq := hide hSq
  have HPQ := hide (⟨hq1, hq2, hq3, hq5⟩ : _ ∧ _ ∧ _ ∧ _)
  clear hSq hW h1 h2 h3 ht hL hcap hp1 hp2 hq1 hq2 hq3 hq5
  obtain ⟨WL, hWL⟩ : ∃ WL, wtL L ts = WL := ⟨_, rfl⟩
  rw [hWL] at HSq ⊢
  clear hWL
  have rO : Fence.wide.round = none := rfl
  have h1 : 1 ≤ 9 := by omega
  refine callsIn_of_wp_marks Try.func38 rfl trivial ?_ rfl
  simp only [Try.ntmps38, List.size_toArray, List.length_cons, List.length_nil, Nat.reduceAdd, Nat.reduceSub, Array.replicate_succ, Array.replicate_zero, List.push_toArray, List.append_toArray, List.nil_append, List.cons_append]
  gi_wp2
  refine at_wpIn (fun W0 hW0 => ?_)
  have U0 : Up w W0 := by rw [hW0]; exact (by repeat' (first | (with_reducible exact up_refl _) | (with_reducible assumption) | (with_reducible refine up_alloc ?_ _) | (with_reducible refine up_drewN ?_ _) | (with_reducible refine up_drew ?_) | (with_reducible refine up_set ?_ (by first | (simp; done) | (simp; omega) | omega) _) | (refine up_trans ?_ (by with_reducible assumption))))
  have hz0 : W0.heap.size = w.heap.size + 3 := by rw [hW0]; simp
  obtain ⟨b3, b5, b6⟩ : Bx W0 w.heap.size [.func (.func 40) #[] #[]] ∧ Bx W0 (w.heap.size + 1) [.int .i64 0] ∧ Bx W0 (w.heap.size + 1 + 1) [.bool false] := by
    rw [hW0]
    refine ⟨bx_alloc (bx_alloc (bx_new w _ _) _) _, ?_, ?_⟩
    · have t := bx_new (w.alloc (.cells #[.func (.func 40) #[] #[]] 74)) [.int .i64 0] 2
      rw [World.size_alloc] at t
      exact bx_alloc t _
    · have t := bx_new ((w.alloc (.cells #[.func (.func 40) #[] #[]] 74)).alloc (.cells #[.int .i64 0] 2)) [.bool false] 4
      rw [World.size_alloc, World.size_alloc] at t
      exact t
  clear hW0
  obtain ⟨hq1, hq2, hq3, hq5⟩ := unhide HPQ
  have hsq := unhide HSq W0 U0 (by omega)
  have HB3 := hide b3
  have HU0 := hide U0
  clear HSq b3 U0
  refine wpIn_rangeFunc_ownY rO h1 (gf := 68) (lb := #[.pointer (some ⟨Bt, 0, none⟩), .pointer (some ⟨Bg, 0, none⟩)]) rfl trivial (enters_of Try.func68 (by kernel_rfl) rfl)
      hsq (Below.refl _ _) kpQ_trans (fun V o o' h hc _ => kpQ_put V _ o o' (by omega) h hc) (fun _ => rfl)
      (GiE p w W0) (fun c xs V => False) (giE_own (by omega)) (fun c => ownFrom_pure _ (fun _ => False))
      ⟨b5, b6, kpP_refl _, unhide HU0⟩
      (fun _ x a' V => a' = { tmps := #[.func (.func 68) #[] #[.pointer (some ⟨Bt, 0, none⟩), .pointer (some ⟨Bg, 0, none⟩)], .func (.func 40) #[] #[], undef, .pointer (some ⟨w.heap.size, 0, none⟩), .int .i64 0, .pointer (some ⟨w.heap.size + 1, 0, none⟩), .pointer (some ⟨w.heap.size + 1 + 1, 0, none⟩), .int .i64 x, .func (.func 68) #[] #[.pointer (some ⟨Bt, 0, none⟩), .pointer (some ⟨Bg, 0, none⟩)], .int .i64 x, undef, undef, undef, undef, undef, undef, undef, undef, undef, undef, undef], defers := [] })
      (fun _ x a' _ X Y row hs hg hr => hs)
      ?assign ?body ?done ?stop
  case assign =>
    rintro lp xs x V K hI _ hK
    gi_wp2
    exact hK _ _ (up_kfP (up_refl V)) (kpQ_up (up_refl V)) hI rfl
  case body =>
    rintro lp xs x a' V hlo hrec hI rfl
    obtain ⟨be, fo, hkp, hup⟩ := hI
    have hsn := gsI_snoc xs x
    have k3 := bx1 (bx_kpP (unhide HB3) hkp hq3)
    obtain ⟨bb, hb⟩ : ∃ bb, gsI xs = bb := ⟨_, rfl⟩
    rw [hb] at be fo hsn
    have HSN := hide hsn
    have HKP := hide hkp
    have HUP := hide hup
    have HBE := hide be
    have HFO := hide fo
    have f6 := bx1 fo
    have g6 := (fo 0 _ rfl).2
    have e0 := bx1 be
    have d0 := (be 0 _ rfl).2
    clear hsn hkp hup be fo b5 b6 hsq HB3 HU0 hb hrec
    have hs : ∀ V1, Up V V1 → KeepsFrom W0.heap.size V ((V1.setCell ⟨w.heap.size + 1, 0, none⟩ (.int .i64 x)).setCell ⟨w.heap.size + 1 + 1, 0, none⟩ (.bool true)) ∧ KpQ p (W0.heap.size + 2) V ((V1.setCell ⟨w.heap.size + 1, 0, none⟩ (.int .i64 x)).setCell ⟨w.heap.size + 1 + 1, 0, none⟩ (.bool true)) ∧ ∀ b0 b1, Bx V1 (w.heap.size + 1) [.int .i64 b0] → Bx V1 (w.heap.size + 1 + 1) [.bool b1] → gsI (xs ++ [x]) = some x → GiE p w W0 (xs ++ [x]) ((V1.setCell ⟨w.heap.size + 1, 0, none⟩ (.int .i64 x)).setCell ⟨w.heap.size + 1 + 1, 0, none⟩ (.bool true)) := by
      intro V1 hu
      have hQ : KpQ p (W0.heap.size + 2) V ((V1.setCell ⟨w.heap.size + 1, 0, none⟩ (.int .i64 x)).setCell ⟨w.heap.size + 1 + 1, 0, none⟩ (.bool true)) := kpQ_trans (kpQ_up hu) (kpQ_trans (kpQ_set V1 (.int .i64 x) (i := 0) hq1) (kpQ_set _ (.bool true) (i := 0) hq2))
      refine ⟨(up_kfP hu).trans (((KeepsOthers.setCell _ _ _).from _).trans ((KeepsOthers.setCell _ _ _).from _)), hQ, fun b0 b1 h1 h2 h3 => ⟨?_, ?_, kpP_trans (unhide HKP) hQ.1, ?_⟩⟩
      · rw [h3]
        exact bx_far (bx_set h1 0 _) (p := ⟨w.heap.size + 1 + 1, 0, none⟩) (by simp only; omega) _
      · rw [h3]
        exact bx_set (bx_far h2 (p := ⟨w.heap.size + 1, 0, none⟩) (by simp only; omega) _) 0 _
      · exact up_set (up_set (up_trans (unhide HUP) hu) (by simp only; omega) _) (by simp only; omega) _
    have HS := hide hs
    clear hs
    rcases bb with _ | c
    · have HX : Hid (gsI (xs ++ [x]) = some x) := hide (unhide HSN)
      clear HSN
      simp only [Option.isSome_none] at f6
      gi_wp2
      refine ⟨fun f e => (by cases e), ?_⟩
      gi_wp2
      exact ⟨(unhide HS V (up_refl V)).1, (unhide HS V (up_refl V)).2.1, (unhide HS V (up_refl V)).2.2 _ _ (unhide HBE) (unhide HFO) (unhide HX)⟩
    · simp only [Option.isSome_some] at f6
      simp only [Option.getD_some] at e0
      have HCm := hide (fun W => unhide HW1 x c W)
      obtain ⟨r, hr⟩ : ∃ r, cmpV x c = r := ⟨_, rfl⟩
      unfold gtI at HSN
      simp only [hr] at HSN HCm
      clear hr
      by_cases h0 : 0 < r
      · have HX : Hid (gsI (xs ++ [x]) = some x) := hide (by rw [unhide HSN, if_pos h0])
        clear HSN
        gi_wp2_with ((try refine ⟨trivial, ?_⟩); gi_at_call 40; (with_reducible refine CallsIn.mono (CallsIn.inRound lp (callsIn_wide.2 (unhide HCm _))) ?_); rintro e V1 ⟨rfl, rfl⟩)
        exact ⟨(unhide HS _ (up_refl _)).1, (unhide HS _ (up_refl _)).2.1, (unhide HS _ (up_refl _)).2.2 _ _ (unhide HBE) (unhide HFO) (unhide HX)⟩
      · have HX : Hid (gsI (xs ++ [x]) = some c) := hide (by rw [unhide HSN, if_neg h0])
        have h00 : decide (0 < r) = false := decide_eq_false h0
        clear HSN
        gi_wp2_with ((try refine ⟨trivial, ?_⟩); gi_at_call 40; (with_reducible refine CallsIn.mono (CallsIn.inRound lp (callsIn_wide.2 (unhide HCm _))) ?_); rintro e V1 ⟨rfl, rfl⟩)
        exact ⟨up_kfP (up_refl _), kpQ_up (up_refl _), ⟨by rw [unhide HX]; exact unhide HBE, by rw [unhide HX]; exact unhide HFO, unhide HKP, unhide HUP⟩⟩
  case done =>
    rintro D xs V hD rfl ⟨be, fo, hkp, hup⟩ hK
    obtain ⟨v, hv⟩ : ∃ v, (gsI xs).getD 0 = v := ⟨_, rfl⟩
    rw [hv] at be
    have HE := hide hv
    have e0 := bx1 be
    have HUp := hide (Below.trans hup (belowK_b (w := w) (Nat.le_refl _) _ D _ (.deferred none) (by omega) hK rfl rfl))
    clear be fo hkp hup HPQ b5 b6 hsq HB3 HU0 HW1 hq1 hq2 hq3 hq5 hv
    gi_wp2
    refine ⟨by simp, .inl ⟨_, _, rfl, run_takeDeferred hK, ?_⟩⟩
    refine ⟨.int .i64 v, ?_, ⟨by rw [unhide HE], unhide HUp⟩⟩
    simp [results, Try.f38, go_sem]
  case stop =>
    rintro D c xs V hD _ hX hK
    exact hX.elim
end Go.Proofs.Ytdignnmhiifpgaa
