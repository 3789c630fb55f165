/- PlaneHalves: for every input it returns true, and each argument reads as it did. No condition. -/
import Derived.Test.YtcicjboopipgoaaRows
import Derived.Test.YtcicjboopipgoaaLawHalvesB
import Derived.ProofKit
import Derived.OpenShut
import Derived.Lib.SmallJoins
import Derived.ChangeSame
namespace Go.Proofs.Ytcicjboopipgoaa.planeHalves
open Go.ChangeShapes Go.WideShapes Go.ChangeAt Go.RowKit Go.Joins Go.Proofs.Ytcicjboopipgoaa
set_option linter.unusedVariables false
section
variable {H : Type} {enc : TypeId × Value → H} {P : Program}
theorem post_of_up {f : Func} {s : ChangeSpec} {apart fresh handsOn again : Bool} {W W' : World} {args : Array Value} {v : Value} {ds gs : List (DataW H)} {before pa pv : List MemPlace}
    (hW : DataW.Whole enc P f.params.toList s.vars apart W args.toList ds gs before)
    (hres : ∀ (b : Nat) (sp : Nat → Bool) (hd : Bool), DataW.TrodAll enc P W' b sp hd f.resultTypes.toList (v.resultList f.resultTypes.size) (s.fn H (ds ++ gs)).results [])
    (hargs : ∀ sp : Nat → Bool, (∀ p ∈ before, sp p.block = true) → DataW.TrodAll enc P W' 0 sp true f.params.toList args.toList (s.fn H (ds ++ gs)).args pa)
    (hvars : ∀ sp : Nat → Bool, (∀ p ∈ before, sp p.block = true) → DataW.TrodVars enc P W' sp s.vars (s.fn H (ds ++ gs)).vars pv)
    (hps : before = pa ++ pv) (hb : Below W.heap.size W W')
    (hok : ∀ (j : Nat) (t : TypeId) (r : Value), f.resultTypes[j]? = some t → (v.resultList f.resultTypes.size)[j]? = some r → Value.okWide P W' .any 0 t r) :
    s.post enc P f apart fresh handsOn again W args v W' := by
  have hlt : ∀ p ∈ before, p.block < W.heap.size := fun p hp => hW.lt p hp
  have hold : ∀ p ∈ before, (fun b => decide (b < W.heap.size)) p.block = true := fun p hp => by simpa using hlt p hp
  refine ⟨ds, gs, before, [], pa, pv, hW, hres _ _ _, hargs _ hold, hvars _ hold, World.keptBut_mono (fun p hp => ⟨hp, ?_⟩) (hb.frame (· ∈ before)), fun _ => ?_⟩
  · rw [hps, List.mem_append] at hp
    exact Or.inr hp
  · obtain ⟨_, _, _, _, _, hz, hn⟩ := hW
    refine ⟨hok, _, _, ([] ++ pa) ++ pv, ⟨[] ++ pa, pv, trodAll_append (hargs _ (fun _ _ => rfl)) (hres _ _ _), hvars _ (fun _ _ => rfl), rfl, ?_, ?_⟩, ?_⟩
    · intro b off hp
      have hin : MemPlace.cell b off ∈ before := by rw [hps]; simpa using hp
      rw [hb.frozen (hlt _ hin)]
      exact hz b off hin
    · intro ha
      have := hn ha
      rw [hps] at this
      simpa using this
    · intro p hp _
      rw [hps]
      simpa using hp
end
theorem own : ownKnob Try.prog.godebug = none := by kernel_rfl
theorem cells_small : Try.prog.cellsOf 75 = 2 := by kernel_rfl
theorem walk (n : Int) (m : Int) (d : Int) (k : Int) (pX : Int) (pY : Int) (oX : Int) (oY : Int) (z : Int) (w0 : (Lit.int .i16 n).wf = true) (w1 : (Lit.int .i16 m).wf = true) (w2 : (Lit.int .u16 d).wf = true) (w3 : (Lit.int .u16 k).wf = true) (w4 : (Lit.int .i8 pX).wf = true) (w5 : (Lit.int .i8 pY).wf = true) (w6 : (Lit.int .i8 oX).wf = true) (w7 : (Lit.int .i8 oY).wf = true) (w8 : (Lit.int .u8 z).wf = true) (W : World) :
    Calls Try.prog 13 #[.int .i16 n, .int .i16 m, .int .u16 d, .int .u16 k, .agg #[.int .i8 pX, .int .i8 pY], .agg #[.int .i8 oX, .int .i8 oY], .int .u8 z] W fun e w' => e = .returned (.bool true) ∧ Below W.heap.size W w' := by
  have b0 := bounds_i16 w0; have b1 := bounds_i16 w1; have b2 := bounds_u16 w2; have b3 := bounds_u16 w3; have b4 := bounds_i8 w4; have b5 := bounds_i8 w5; have b6 := bounds_i8 w6; have b7 := bounds_i8 w7; have b8 := bounds_u8 w8
  exact l_Halves n m d k pX pY oX oY z W b0.1 b0.2 b1.1 b1.2 b2.1 b2.2 b3.1 b3.2 b4.1 b4.2 b5.1 b5.2 b6.1 b6.2 b7.1 b7.2 b8.1 b8.2
set_option maxRecDepth 100000 in
theorem lifted (os : Os) (started : os.Started) (H : Type) (enc : TypeId × Value → H) :
    ReturnsInHanded {} Try.checked os 13 .any (Rows.planeHalvesSpec.pre6 enc Try.prog Try.f13 Rows.planeHalvesRow.domain false) (Rows.planeHalvesSpec.post enc Try.prog Try.f13 false true false false) := by
  refine returnsInHanded_of_change (C := Try.checked) own started (by kernel_rfl) Try.func13
    (ChangeSpec.witness6 (enc := enc) (C := Try.checked) false ⟨#[], #[.int .i16 0, .int .i16 0, .int .u16 0, .int .u16 0, .agg #[.int .i8 0, .int .i8 0], .agg #[.int .i8 0, .int .i8 0], .int .u8 0], []⟩ 8 (by kernel_rfl) (by kernel_rfl) (by kernel_rfl) (by kernel_rfl)) ?_
  intro W base args ds gs before hval0 hW hcnd _
  have hval : ∀ (j : Nat) t v, Try.f13.params[j]? = some t → args[j]? = some v → Value.okWide Try.prog W .any base t v := hval0
  have hW' := hW
  obtain ⟨p, q, hA0, hV, rfl, hfz, hnd⟩ := hW
  have hA : DataW.TrodAll enc Try.prog W 0 (fun _ => true) true Try.f13.params.toList args.toList ds p := hA0
  rw [Try.params13] at hA hval
  obtain ⟨v0, vs0, d0, ds0, p0, q0, hargs, rfl, rfl, h0, r0⟩ := trodAll_cons hA
  obtain ⟨v1, vs1, d1, ds1, p1, q1, rfl, rfl, rfl, h1, r1⟩ := trodAll_cons r0
  obtain ⟨v2, vs2, d2, ds2, p2, q2, rfl, rfl, rfl, h2, r2⟩ := trodAll_cons r1
  obtain ⟨v3, vs3, d3, ds3, p3, q3, rfl, rfl, rfl, h3, r3⟩ := trodAll_cons r2
  obtain ⟨v4, vs4, d4, ds4, p4, q4, rfl, rfl, rfl, h4, r4⟩ := trodAll_cons r3
  obtain ⟨v5, vs5, d5, ds5, p5, q5, rfl, rfl, rfl, h5, r5⟩ := trodAll_cons r4
  obtain ⟨v6, vs6, d6, ds6, p6, q6, rfl, rfl, rfl, h6, r6⟩ := trodAll_cons r5
  obtain ⟨rfl, rfl, rfl⟩ := trodAll_nil r6
  obtain rfl : args = #[v0, v1, v2, v3, v4, v5, v6] := by cases args; simp_all
  obtain ⟨rfl, rfl⟩ := trodVars_none hV
  obtain ⟨n, rfl, rfl, rfl, w0⟩ := open_int Try.underlying80 (hval 0 80 v0 rfl rfl) h0
  obtain ⟨m, rfl, rfl, rfl, w1⟩ := open_int Try.underlying80 (hval 1 80 v1 rfl rfl) h1
  obtain ⟨d, rfl, rfl, rfl, w2⟩ := open_int Try.underlying78 (hval 2 78 v2 rfl rfl) h2
  obtain ⟨k, rfl, rfl, rfl, w3⟩ := open_int Try.underlying78 (hval 3 78 v3 rfl rfl) h3
  obtain ⟨c40, c41, y40, y41, m4, rfl, rfl, rfl, hy40, hy41⟩ := open_agg2 Try.underlying75 (by kernel_rfl) cells_small (hval 4 75 v4 rfl rfl) h4
  obtain ⟨pX, e40, rfl, w40⟩ := DataW.trod_int Try.underlying73 hy40
  obtain ⟨pY, e41, rfl, w41⟩ := DataW.trod_int Try.underlying73 hy41
  simp at e40 e41
  subst e40 e41
  obtain ⟨c50, c51, y50, y51, m5, rfl, rfl, rfl, hy50, hy51⟩ := open_agg2 Try.underlying75 (by kernel_rfl) cells_small (hval 5 75 v5 rfl rfl) h5
  obtain ⟨oX, e50, rfl, w50⟩ := DataW.trod_int Try.underlying73 hy50
  obtain ⟨oY, e51, rfl, w51⟩ := DataW.trod_int Try.underlying73 hy51
  simp at e50 e51
  subst e50 e51
  obtain ⟨z, rfl, rfl, rfl, w6⟩ := open_int Try.underlying5 (hval 6 5 v6 rfl rfl) h6
  clear hA0 hval0
  simp only [List.append_nil] at hW'
  refine (walk n m d k pX pY oX oY z w0 w1 w2 w3 w40 w41 w50 w51 w6 W).mono fun e W' ⟨he, hg⟩ => ?_
  subst he
  exact ⟨_, rfl, post_of_up (pa := []) (pv := []) hW' (fun _ _ _ => (trodAll_cons_mk (shut_bool Try.underlying4 _) trodAll_mk0)) (fun sp _ => (trodAll_cons_mk (shut_int Try.underlying80 w0) (trodAll_cons_mk (shut_int Try.underlying80 w1) (trodAll_cons_mk (shut_int Try.underlying78 w2) (trodAll_cons_mk (shut_int Try.underlying78 w3) (trodAll_cons_mk (shut_agg2 (y0 := (.lit (.int .i8 pX), [])) (y1 := (.lit (.int .i8 pY), [])) Try.underlying75 (by kernel_rfl) cells_small ⟨1, by simp [DataW.trod, Try.underlying73, w40]⟩ ⟨1, by simp [DataW.trod, Try.underlying73, w41]⟩) (trodAll_cons_mk (shut_agg2 (y0 := (.lit (.int .i8 oX), [])) (y1 := (.lit (.int .i8 oY), [])) Try.underlying75 (by kernel_rfl) cells_small ⟨1, by simp [DataW.trod, Try.underlying73, w50]⟩ ⟨1, by simp [DataW.trod, Try.underlying73, w51]⟩) (trodAll_cons_mk (shut_int Try.underlying5 w6) trodAll_mk0)))))))) (fun _ _ => rfl) rfl
    hg (ok_one (by kernel_rfl) rfl (okWide_bool_mk Try.underlying4 _))⟩

theorem over : Rows.planeHalvesRow.holds Try.pinned (OpenSpec.ofChange Rows.planeHalvesSpec) :=
  OpenClaim.holds_of_wide 13 Try.f13 rfl rfl rfl rfl rfl rfl rfl ⟨rfl, rfl, rfl, rfl, rfl⟩ rfl rfl rfl rfl rfl (by kernel_rfl) Try.func13 (by kernel_rfl)
    (of_decide_eq_true (by kernel_rfl)) (by unfold Func.isWrapper; first | (rw [if_pos (by decide +kernel)]; kernel_rfl) | (rw [if_neg (by decide +kernel)]; exact ⟨rfl, rfl⟩))
    (fun os started H enc _ => lifted os started H enc)

/-- The statement. -/
theorem proved : Rows.PlaneHalvesSaid :=
  over
end Go.Proofs.Ytcicjboopipgoaa.planeHalves
