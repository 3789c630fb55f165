/- BridgeGround: for every input it returns true, and each argument reads as it did. No condition. -/
import Derived.Test.YtdignnmhiifpgaaRows
import Derived.Test.YtdignnmhiifpgaaLawBrGround
import Derived.ProofKit
import Derived.OpenShut
import Derived.Lib.SmallJoins
import Derived.ChangeSame
import Derived.Test.YtdignnmhiifpgaaOpenFrs
namespace Go.Proofs.Ytdignnmhiifpgaa.bridgeGround
open Go.ChangeShapes Go.WideShapes Go.ChangeAt Go.RowKit Go.Joins Go.Proofs.Ytdignnmhiifpgaa
set_option linter.unusedVariables false
section
variable {H : Type} {enc : TypeId × Value → H} {P : Program}
theorem post_of_up {f : Func} {s : ChangeSpec} {apart fresh handsOn again : Bool} {W W' : World} {args : Array Value} {v : Value} {ds gs : List (DataW H)} {before pa pv : List MemPlace}
    (hW : DataW.Whole enc P f.params.toList s.vars apart W args.toList ds gs before)
    (hres : ∀ (b : Nat) (sp : Nat → Bool) (hd : Bool), DataW.TrodAll enc P W' b sp hd f.resultTypes.toList (v.resultList f.resultTypes.size) (s.fn H (ds ++ gs)).results [])
    (hargs : ∀ sp : Nat → Bool, (∀ p ∈ before, sp p.block = true) → DataW.TrodAll enc P W' 0 sp true f.params.toList args.toList (s.fn H (ds ++ gs)).args pa)
    (hvars : ∀ sp : Nat → Bool, (∀ p ∈ before, sp p.block = true) → DataW.TrodVars enc P W' sp s.vars (s.fn H (ds ++ gs)).vars pv)
    (hps : before = pa ++ pv) (hb : Below W.heap.size W W')
    (hok : ∀ (j : Nat) (t : TypeId) (r : Value), f.resultTypes[j]? = some t → (v.resultList f.resultTypes.size)[j]? = some r → Value.okWide P W' .any 0 t r) :
    s.post enc P f apart fresh handsOn again W args v W' := by
  have hlt : ∀ p ∈ before, p.block < W.heap.size := fun p hp => hW.lt p hp
  have hold : ∀ p ∈ before, (fun b => decide (b < W.heap.size)) p.block = true := fun p hp => by simpa using hlt p hp
  refine ⟨ds, gs, before, [], pa, pv, hW, hres _ _ _, hargs _ hold, hvars _ hold, World.keptBut_mono (fun p hp => ⟨hp, ?_⟩) (hb.frame (· ∈ before)), fun _ => ?_⟩
  · rw [hps, List.mem_append] at hp
    exact Or.inr hp
  · obtain ⟨_, _, _, _, _, hz, hn⟩ := hW
    refine ⟨hok, _, _, ([] ++ pa) ++ pv, ⟨[] ++ pa, pv, trodAll_append (hargs _ (fun _ _ => rfl)) (hres _ _ _), hvars _ (fun _ _ => rfl), rfl, ?_, ?_⟩, ?_⟩
    · intro b off hp
      have hin : MemPlace.cell b off ∈ before := by rw [hps]; simpa using hp
      rw [hb.frozen (hlt _ hin)]
      exact hz b off hin
    · intro ha
      have := hn ha
      rw [hps] at this
      simpa using this
    · intro p hp _
      rw [hps]
      simpa using hp
end
theorem own : ownKnob Try.prog.godebug = none := by kernel_rfl
theorem cells_pav : Try.prog.cellsOf 37 = 3 := by kernel_rfl
theorem walk (W : World) (At : Option Addr) (t : List (Int × Int)) (capt : Nat) (hpt : Frs W At t) (hnt : t.length ≤ 9223372036854775807) (hkt : t.length ≤ capt ∧ capt ≤ 9223372036854775807) (cover : Int) (wide : Int) (pLoad : Int) (pLife : Int) (pPower : Int) (passes : Int) (done : Int) (w0 : (Lit.int .i64 cover).wf = true) (w1 : (Lit.int .i64 wide).wf = true) (w2 : (Lit.int .i64 pLoad).wf = true) (w3 : (Lit.int .i64 pLife).wf = true) (w4 : (Lit.int .i64 pPower).wf = true) (w5 : (Lit.int .i64 passes).wf = true) (w6 : (Lit.int .i64 done).wf = true) :
    Calls Try.prog 4 #[.slice At t.length capt, .int .i64 cover, .int .i64 wide, .agg #[.int .i64 pLoad, .int .i64 pLife, .int .i64 pPower], .int .i64 passes, .int .i64 done] W fun e w' => e = .returned (.bool true) ∧ Below W.heap.size W w' := by
  have b0 := bounds_i64 w0; have b1 := bounds_i64 w1; have b2 := bounds_i64 w2; have b3 := bounds_i64 w3; have b4 := bounds_i64 w4; have b5 := bounds_i64 w5; have b6 := bounds_i64 w6
  exact l_Ground6 At t capt cover wide pLoad pLife pPower passes done W hpt hnt hkt.1
set_option maxRecDepth 100000 in
theorem lifted (os : Os) (started : os.Started) (H : Type) (enc : TypeId × Value → H) :
    ReturnsInHanded {} Try.checked os 4 .any (Rows.bridgeGroundSpec.pre6 enc Try.prog Try.f4 Rows.bridgeGroundRow.domain false) (Rows.bridgeGroundSpec.post enc Try.prog Try.f4 false true false false) := by
  refine returnsInHanded_of_change (C := Try.checked) own started (by kernel_rfl) Try.func4
    (ChangeSpec.witness6 (enc := enc) (C := Try.checked) false ⟨#[], #[.slice none 0 0, .int .i64 0, .int .i64 0, .agg #[.int .i64 0, .int .i64 0, .int .i64 0], .int .i64 0, .int .i64 0], []⟩ 8 (by kernel_rfl) (by kernel_rfl) (by kernel_rfl) (by kernel_rfl)) ?_
  intro W base args ds gs before hval0 hW hcnd _
  have hval : ∀ (j : Nat) t v, Try.f4.params[j]? = some t → args[j]? = some v → Value.okWide Try.prog W .any base t v := hval0
  have hW' := hW
  obtain ⟨p, q, hA0, hV, rfl, hfz, hnd⟩ := hW
  have hA : DataW.TrodAll enc Try.prog W 0 (fun _ => true) true Try.f4.params.toList args.toList ds p := hA0
  rw [Try.params4] at hA hval
  obtain ⟨v0, vs0, d0, ds0, p0, q0, hargs, rfl, rfl, h0, r0⟩ := trodAll_cons hA
  obtain ⟨v1, vs1, d1, ds1, p1, q1, rfl, rfl, rfl, h1, r1⟩ := trodAll_cons r0
  obtain ⟨v2, vs2, d2, ds2, p2, q2, rfl, rfl, rfl, h2, r2⟩ := trodAll_cons r1
  obtain ⟨v3, vs3, d3, ds3, p3, q3, rfl, rfl, rfl, h3, r3⟩ := trodAll_cons r2
  obtain ⟨v4, vs4, d4, ds4, p4, q4, rfl, rfl, rfl, h4, r4⟩ := trodAll_cons r3
  obtain ⟨v5, vs5, d5, ds5, p5, q5, rfl, rfl, rfl, h5, r5⟩ := trodAll_cons r4
  obtain ⟨rfl, rfl, rfl⟩ := trodAll_nil r5
  obtain rfl : args = #[v0, v1, v2, v3, v4, v5] := by cases args; simp_all
  obtain ⟨rfl, rfl⟩ := trodVars_none hV
  obtain ⟨At, t, capt, rfl, hpt, hnt⟩ := frs_open h0 (okWide_slice Try.underlying30 (hval 0 30 v0 rfl rfl))
  have hkt := frs_cap h0
  obtain ⟨cover, rfl, rfl, rfl, w1⟩ := open_int Try.underlying2 (hval 1 2 v1 rfl rfl) h1
  obtain ⟨wide, rfl, rfl, rfl, w2⟩ := open_int Try.underlying2 (hval 2 2 v2 rfl rfl) h2
  obtain ⟨c30, c31, c32, y30, y31, y32, m3, rfl, rfl, rfl, hy30, hy31, hy32⟩ := open_agg3 Try.underlying37 (by kernel_rfl) cells_pav (hval 3 37 v3 rfl rfl) h3
  obtain ⟨pLoad, e30, rfl, w30⟩ := DataW.trod_int Try.underlying2 hy30
  obtain ⟨pLife, e31, rfl, w31⟩ := DataW.trod_int Try.underlying2 hy31
  obtain ⟨pPower, e32, rfl, w32⟩ := DataW.trod_int Try.underlying3 hy32
  simp at e30 e31 e32
  subst e30 e31 e32
  obtain ⟨passes, rfl, rfl, rfl, w4⟩ := open_int Try.underlying2 (hval 4 2 v4 rfl rfl) h4
  obtain ⟨done, rfl, rfl, rfl, w5⟩ := open_int Try.underlying2 (hval 5 2 v5 rfl rfl) h5
  clear hA0 hval0
  simp only [List.append_nil] at hW'
  refine (walk W At t capt hpt hnt hkt cover wide pLoad pLife pPower passes done w1 w2 w30 w31 w32 w4 w5).mono fun e W' ⟨he, hg⟩ => ?_
  subst he
  exact ⟨_, rfl, post_of_up (pa := p0 ++ ([] ++ ([] ++ ([] ++ ([] ++ ([] ++ [])))))) (pv := []) hW' (fun _ _ _ => (trodAll_cons_mk (shut_bool Try.underlying4 _) trodAll_mk0)) (fun sp hsp => (trodAll_cons_mk (frs_shut h0 hg (fun x hx => hW'.lt x (by simp [hx])) (fun x hx => hsp x (by simp [hx]))) (trodAll_cons_mk (shut_int Try.underlying2 w1) (trodAll_cons_mk (shut_int Try.underlying2 w2) (trodAll_cons_mk (shut_agg3 (y0 := (.lit (.int .i64 pLoad), [])) (y1 := (.lit (.int .i64 pLife), [])) (y2 := (.lit (.int .i64 pPower), [])) Try.underlying37 (by kernel_rfl) cells_pav ⟨1, by simp [DataW.trod, show Try.checked.prog = Try.prog from rfl, Try.underlying2, w30]⟩ ⟨1, by simp [DataW.trod, show Try.checked.prog = Try.prog from rfl, Try.underlying2, w31]⟩ ⟨1, by simp [DataW.trod, show Try.checked.prog = Try.prog from rfl, Try.underlying3, w32]⟩) (trodAll_cons_mk (shut_int Try.underlying2 w4) (trodAll_cons_mk (shut_int Try.underlying2 w5) trodAll_mk0))))))) (fun _ _ => rfl) (by simp)
    hg (ok_one (by kernel_rfl) rfl (okWide_bool_mk Try.underlying4 _))⟩

theorem over : Rows.bridgeGroundRow.holds Try.pinned (OpenSpec.ofChange Rows.bridgeGroundSpec) :=
  OpenClaim.holds_of_wide 4 Try.f4 rfl rfl rfl rfl rfl rfl rfl ⟨rfl, rfl, rfl, rfl, rfl⟩ rfl rfl rfl rfl rfl (by kernel_rfl) Try.func4 (by kernel_rfl)
    (of_decide_eq_true (by kernel_rfl)) (by unfold Func.isWrapper; first | (rw [if_pos (by decide +kernel)]; kernel_rfl) | (rw [if_neg (by decide +kernel)]; exact ⟨rfl, rfl⟩))
    (fun os started H enc _ => lifted os started H enc)

/-- The statement. -/
theorem proved : Rows.BridgeGroundSaid :=
  over
end Go.Proofs.Ytdignnmhiifpgaa.bridgeGround
