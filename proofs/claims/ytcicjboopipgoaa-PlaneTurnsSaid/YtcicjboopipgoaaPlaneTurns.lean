/- PlaneTurns: for every input it returns true, and each argument reads as it did. No condition. -/
import Derived.Test.YtcicjboopipgoaaRows
import Derived.Test.YtcicjboopipgoaaLawTurns
import Derived.ProofKit
import Derived.OpenShut
import Derived.Lib.SmallJoins
import Derived.ChangeSame
namespace Go.Proofs.Ytcicjboopipgoaa.planeTurns
open Go.ChangeShapes Go.WideShapes Go.ChangeAt Go.RowKit Go.Joins Go.Proofs.Ytcicjboopipgoaa
set_option linter.unusedVariables false
section
variable {H : Type} {enc : TypeId × Value → H} {P : Program}
theorem post_of_up {f : Func} {s : ChangeSpec} {apart fresh handsOn again : Bool} {W W' : World} {args : Array Value} {v : Value} {ds gs : List (DataW H)} {before pa pv : List MemPlace}
    (hW : DataW.Whole enc P f.params.toList s.vars apart W args.toList ds gs before)
    (hres : ∀ (b : Nat) (sp : Nat → Bool) (hd : Bool), DataW.TrodAll enc P W' b sp hd f.resultTypes.toList (v.resultList f.resultTypes.size) (s.fn H (ds ++ gs)).results [])
    (hargs : ∀ sp : Nat → Bool, (∀ p ∈ before, sp p.block = true) → DataW.TrodAll enc P W' 0 sp true f.params.toList args.toList (s.fn H (ds ++ gs)).args pa)
    (hvars : ∀ sp : Nat → Bool, (∀ p ∈ before, sp p.block = true) → DataW.TrodVars enc P W' sp s.vars (s.fn H (ds ++ gs)).vars pv)
    (hps : before = pa ++ pv) (hb : Below W.heap.size W W')
    (hok : ∀ (j : Nat) (t : TypeId) (r : Value), f.resultTypes[j]? = some t → (v.resultList f.resultTypes.size)[j]? = some r → Value.okWide P W' .any 0 t r) :
    s.post enc P f apart fresh handsOn again W args v W' := by
  have hlt : ∀ p ∈ before, p.block < W.heap.size := fun p hp => hW.lt p hp
  have hold : ∀ p ∈ before, (fun b => decide (b < W.heap.size)) p.block = true := fun p hp => by simpa using hlt p hp
  refine ⟨ds, gs, before, [], pa, pv, hW, hres _ _ _, hargs _ hold, hvars _ hold, World.keptBut_mono (fun p hp => ⟨hp, ?_⟩) (hb.frame (· ∈ before)), fun _ => ?_⟩
  · rw [hps, List.mem_append] at hp
    exact Or.inr hp
  · obtain ⟨_, _, _, _, _, hz, hn⟩ := hW
    refine ⟨hok, _, _, ([] ++ pa) ++ pv, ⟨[] ++ pa, pv, trodAll_append (hargs _ (fun _ _ => rfl)) (hres _ _ _), hvars _ (fun _ _ => rfl), rfl, ?_, ?_⟩, ?_⟩
    · intro b off hp
      have hin : MemPlace.cell b off ∈ before := by rw [hps]; simpa using hp
      rw [hb.frozen (hlt _ hin)]
      exact hz b off hin
    · intro ha
      have := hn ha
      rw [hps] at this
      simpa using this
    · intro p hp _
      rw [hps]
      simpa using hp
end
theorem own : ownKnob Try.prog.godebug = none := by kernel_rfl
theorem cells_rot : Try.prog.cellsOf 58 = 3 := by kernel_rfl
theorem cells_point : Try.prog.cellsOf 23 = 2 := by kernel_rfl
theorem walk (aC : Int) (aS : Int) (aN : Int) (bC : Int) (bS : Int) (bN : Int) (n : Int) (d : Int) (pX : Int) (pY : Int) (oX : Int) (oY : Int) (w0 : (Lit.int .i64 aC).wf = true) (w1 : (Lit.int .i64 aS).wf = true) (w2 : (Lit.int .i64 aN).wf = true) (w3 : (Lit.int .i64 bC).wf = true) (w4 : (Lit.int .i64 bS).wf = true) (w5 : (Lit.int .i64 bN).wf = true) (w6 : (Lit.int .i64 n).wf = true) (w7 : (Lit.int .i64 d).wf = true) (w8 : (Lit.int .i64 pX).wf = true) (w9 : (Lit.int .i64 pY).wf = true) (w10 : (Lit.int .i64 oX).wf = true) (w11 : (Lit.int .i64 oY).wf = true) (W : World) :
    Calls Try.prog 7 #[.agg #[.int .i64 aC, .int .i64 aS, .int .i64 aN], .agg #[.int .i64 bC, .int .i64 bS, .int .i64 bN], .int .i64 n, .int .i64 d, .agg #[.int .i64 pX, .int .i64 pY], .agg #[.int .i64 oX, .int .i64 oY]] W fun e w' => e = .returned (.bool true) ∧ Below W.heap.size W w' := by
  have b0 := bounds_i64 w0; have b1 := bounds_i64 w1; have b2 := bounds_i64 w2; have b3 := bounds_i64 w3; have b4 := bounds_i64 w4; have b5 := bounds_i64 w5; have b6 := bounds_i64 w6; have b7 := bounds_i64 w7; have b8 := bounds_i64 w8; have b9 := bounds_i64 w9; have b10 := bounds_i64 w10; have b11 := bounds_i64 w11
  exact l_Turns aC aS aN bC bS bN n d pX pY oX oY b0.1 b0.2 b3.1 b3.2 W
set_option maxRecDepth 100000 in
theorem lifted (os : Os) (started : os.Started) (H : Type) (enc : TypeId × Value → H) :
    ReturnsInHanded {} Try.checked os 7 .any (Rows.planeTurnsSpec.pre6 enc Try.prog Try.f7 Rows.planeTurnsRow.domain false) (Rows.planeTurnsSpec.post enc Try.prog Try.f7 false true false false) := by
  refine returnsInHanded_of_change (C := Try.checked) own started (by kernel_rfl) Try.func7
    (ChangeSpec.witness6 (enc := enc) (C := Try.checked) false ⟨#[], #[.agg #[.int .i64 0, .int .i64 0, .int .i64 0], .agg #[.int .i64 0, .int .i64 0, .int .i64 0], .int .i64 0, .int .i64 0, .agg #[.int .i64 0, .int .i64 0], .agg #[.int .i64 0, .int .i64 0]], []⟩ 8 (by kernel_rfl) (by kernel_rfl) (by kernel_rfl) (by kernel_rfl)) ?_
  intro W base args ds gs before hval0 hW hcnd _
  have hval : ∀ (j : Nat) t v, Try.f7.params[j]? = some t → args[j]? = some v → Value.okWide Try.prog W .any base t v := hval0
  have hW' := hW
  obtain ⟨p, q, hA0, hV, rfl, hfz, hnd⟩ := hW
  have hA : DataW.TrodAll enc Try.prog W 0 (fun _ => true) true Try.f7.params.toList args.toList ds p := hA0
  rw [Try.params7] at hA hval
  obtain ⟨v0, vs0, d0, ds0, p0, q0, hargs, rfl, rfl, h0, r0⟩ := trodAll_cons hA
  obtain ⟨v1, vs1, d1, ds1, p1, q1, rfl, rfl, rfl, h1, r1⟩ := trodAll_cons r0
  obtain ⟨v2, vs2, d2, ds2, p2, q2, rfl, rfl, rfl, h2, r2⟩ := trodAll_cons r1
  obtain ⟨v3, vs3, d3, ds3, p3, q3, rfl, rfl, rfl, h3, r3⟩ := trodAll_cons r2
  obtain ⟨v4, vs4, d4, ds4, p4, q4, rfl, rfl, rfl, h4, r4⟩ := trodAll_cons r3
  obtain ⟨v5, vs5, d5, ds5, p5, q5, rfl, rfl, rfl, h5, r5⟩ := trodAll_cons r4
  obtain ⟨rfl, rfl, rfl⟩ := trodAll_nil r5
  obtain rfl : args = #[v0, v1, v2, v3, v4, v5] := by cases args; simp_all
  obtain ⟨rfl, rfl⟩ := trodVars_none hV
  obtain ⟨c00, c01, c02, y00, y01, y02, m0, rfl, rfl, rfl, hy00, hy01, hy02⟩ := open_agg3 Try.underlying58 (by kernel_rfl) cells_rot (hval 0 58 v0 rfl rfl) h0
  obtain ⟨aC, e00, rfl, w00⟩ := DataW.trod_int Try.underlying2 hy00
  obtain ⟨aS, e01, rfl, w01⟩ := DataW.trod_int Try.underlying2 hy01
  obtain ⟨aN, e02, rfl, w02⟩ := DataW.trod_int Try.underlying2 hy02
  simp at e00 e01 e02
  subst e00 e01 e02
  obtain ⟨c10, c11, c12, y10, y11, y12, m1, rfl, rfl, rfl, hy10, hy11, hy12⟩ := open_agg3 Try.underlying58 (by kernel_rfl) cells_rot (hval 1 58 v1 rfl rfl) h1
  obtain ⟨bC, e10, rfl, w10⟩ := DataW.trod_int Try.underlying2 hy10
  obtain ⟨bS, e11, rfl, w11⟩ := DataW.trod_int Try.underlying2 hy11
  obtain ⟨bN, e12, rfl, w12⟩ := DataW.trod_int Try.underlying2 hy12
  simp at e10 e11 e12
  subst e10 e11 e12
  obtain ⟨n, rfl, rfl, rfl, w2⟩ := open_int Try.underlying2 (hval 2 2 v2 rfl rfl) h2
  obtain ⟨d, rfl, rfl, rfl, w3⟩ := open_int Try.underlying2 (hval 3 2 v3 rfl rfl) h3
  obtain ⟨c40, c41, y40, y41, m4, rfl, rfl, rfl, hy40, hy41⟩ := open_agg2 Try.underlying23 (by kernel_rfl) cells_point (hval 4 23 v4 rfl rfl) h4
  obtain ⟨pX, e40, rfl, w40⟩ := DataW.trod_int Try.underlying2 hy40
  obtain ⟨pY, e41, rfl, w41⟩ := DataW.trod_int Try.underlying2 hy41
  simp at e40 e41
  subst e40 e41
  obtain ⟨c50, c51, y50, y51, m5, rfl, rfl, rfl, hy50, hy51⟩ := open_agg2 Try.underlying23 (by kernel_rfl) cells_point (hval 5 23 v5 rfl rfl) h5
  obtain ⟨oX, e50, rfl, w50⟩ := DataW.trod_int Try.underlying2 hy50
  obtain ⟨oY, e51, rfl, w51⟩ := DataW.trod_int Try.underlying2 hy51
  simp at e50 e51
  subst e50 e51
  clear hA0 hval0
  simp only [List.append_nil] at hW'
  refine (walk aC aS aN bC bS bN n d pX pY oX oY w00 w01 w02 w10 w11 w12 w2 w3 w40 w41 w50 w51 W).mono fun e W' ⟨he, hg⟩ => ?_
  subst he
  exact ⟨_, rfl, post_of_up (pa := []) (pv := []) hW' (fun _ _ _ => (trodAll_cons_mk (shut_bool Try.underlying4 _) trodAll_mk0)) (fun sp _ => (trodAll_cons_mk (shut_agg3 (y0 := (.lit (.int .i64 aC), [])) (y1 := (.lit (.int .i64 aS), [])) (y2 := (.lit (.int .i64 aN), [])) Try.underlying58 (by kernel_rfl) cells_rot ⟨1, by simp [DataW.trod, Try.underlying2, w00]⟩ ⟨1, by simp [DataW.trod, Try.underlying2, w01]⟩ ⟨1, by simp [DataW.trod, Try.underlying2, w02]⟩) (trodAll_cons_mk (shut_agg3 (y0 := (.lit (.int .i64 bC), [])) (y1 := (.lit (.int .i64 bS), [])) (y2 := (.lit (.int .i64 bN), [])) Try.underlying58 (by kernel_rfl) cells_rot ⟨1, by simp [DataW.trod, Try.underlying2, w10]⟩ ⟨1, by simp [DataW.trod, Try.underlying2, w11]⟩ ⟨1, by simp [DataW.trod, Try.underlying2, w12]⟩) (trodAll_cons_mk (shut_int Try.underlying2 w2) (trodAll_cons_mk (shut_int Try.underlying2 w3) (trodAll_cons_mk (shut_agg2 (y0 := (.lit (.int .i64 pX), [])) (y1 := (.lit (.int .i64 pY), [])) Try.underlying23 (by kernel_rfl) cells_point ⟨1, by simp [DataW.trod, Try.underlying2, w40]⟩ ⟨1, by simp [DataW.trod, Try.underlying2, w41]⟩) (trodAll_cons_mk (shut_agg2 (y0 := (.lit (.int .i64 oX), [])) (y1 := (.lit (.int .i64 oY), [])) Try.underlying23 (by kernel_rfl) cells_point ⟨1, by simp [DataW.trod, Try.underlying2, w50]⟩ ⟨1, by simp [DataW.trod, Try.underlying2, w51]⟩) trodAll_mk0))))))) (fun _ _ => rfl) rfl
    hg (ok_one (by kernel_rfl) rfl (okWide_bool_mk Try.underlying4 _))⟩

theorem over : Rows.planeTurnsRow.holds Try.pinned (OpenSpec.ofChange Rows.planeTurnsSpec) :=
  OpenClaim.holds_of_wide 7 Try.f7 rfl rfl rfl rfl rfl rfl rfl ⟨rfl, rfl, rfl, rfl, rfl⟩ rfl rfl rfl rfl rfl (by kernel_rfl) Try.func7 (by kernel_rfl)
    (of_decide_eq_true (by kernel_rfl)) (by unfold Func.isWrapper; first | (rw [if_pos (by decide +kernel)]; kernel_rfl) | (rw [if_neg (by decide +kernel)]; exact ⟨rfl, rfl⟩))
    (fun os started H enc _ => lifted os started H enc)

/-- The statement. -/
theorem proved : Rows.PlaneTurnsSaid :=
  over
end Go.Proofs.Ytcicjboopipgoaa.planeTurns
