/- StaticsFeet: for every input it returns true, and each argument reads as it did. No condition. -/
import Derived.Test.YtgjcpgmnflpdkaaRows
import Derived.Test.YtgjcpgmnflpdkaaLawFeet
import Derived.ProofKit
import Derived.OpenShut
import Derived.Lib.SmallJoins
import Derived.ChangeSame
import Derived.Test.YtgjcpgmnflpdkaaOpenSup
import Derived.Test.YtgjcpgmnflpdkaaOpenArr
namespace Go.Proofs.Ytgjcpgmnflpdkaa.staticsFeet
open Go.ChangeShapes Go.WideShapes Go.ChangeAt Go.RowKit Go.Joins Go.Proofs.Ytgjcpgmnflpdkaa
set_option linter.unusedVariables false
section
variable {H : Type} {enc : TypeId × Value → H} {P : Program}
theorem post_of_up {f : Func} {s : ChangeSpec} {apart fresh handsOn again : Bool} {W W' : World} {args : Array Value} {v : Value} {ds gs : List (DataW H)} {before pa pv : List MemPlace}
    (hW : DataW.Whole enc P f.params.toList s.vars apart W args.toList ds gs before)
    (hres : ∀ (b : Nat) (sp : Nat → Bool) (hd : Bool), DataW.TrodAll enc P W' b sp hd f.resultTypes.toList (v.resultList f.resultTypes.size) (s.fn H (ds ++ gs)).results [])
    (hargs : ∀ sp : Nat → Bool, (∀ p ∈ before, sp p.block = true) → DataW.TrodAll enc P W' 0 sp true f.params.toList args.toList (s.fn H (ds ++ gs)).args pa)
    (hvars : ∀ sp : Nat → Bool, (∀ p ∈ before, sp p.block = true) → DataW.TrodVars enc P W' sp s.vars (s.fn H (ds ++ gs)).vars pv)
    (hps : before = pa ++ pv) (hb : Below W.heap.size W W')
    (hok : ∀ (j : Nat) (t : TypeId) (r : Value), f.resultTypes[j]? = some t → (v.resultList f.resultTypes.size)[j]? = some r → Value.okWide P W' .any 0 t r) :
    s.post enc P f apart fresh handsOn again W args v W' := by
  have hlt : ∀ p ∈ before, p.block < W.heap.size := fun p hp => hW.lt p hp
  have hold : ∀ p ∈ before, (fun b => decide (b < W.heap.size)) p.block = true := fun p hp => by simpa using hlt p hp
  refine ⟨ds, gs, before, [], pa, pv, hW, hres _ _ _, hargs _ hold, hvars _ hold, World.keptBut_mono (fun p hp => ⟨hp, ?_⟩) (hb.frame (· ∈ before)), fun _ => ?_⟩
  · rw [hps, List.mem_append] at hp
    exact Or.inr hp
  · obtain ⟨_, _, _, _, _, hz, hn⟩ := hW
    refine ⟨hok, _, _, ([] ++ pa) ++ pv, ⟨[] ++ pa, pv, trodAll_append (hargs _ (fun _ _ => rfl)) (hres _ _ _), hvars _ (fun _ _ => rfl), rfl, ?_, ?_⟩, ?_⟩
    · intro b off hp
      have hin : MemPlace.cell b off ∈ before := by rw [hps]; simpa using hp
      rw [hb.frozen (hlt _ hin)]
      exact hz b off hin
    · intro ha
      have := hn ha
      rw [hps] at this
      simpa using this
    · intro p hp _
      rw [hps]
      simpa using hp
end
theorem own : ownKnob Try.prog.godebug = none := by kernel_rfl
theorem Try.cells64 : Try.prog.cellsOf 2 = 1 := by kernel_rfl
theorem cells_arr3 : Try.prog.cellsOf 30 = 3 := by kernel_rfl
theorem cells_slope : Try.prog.cellsOf 46 = 2 := by kernel_rfl
theorem walk (W : World) (Ap : Option Addr) (p : List Gs.Sup) (capp : Nat) (hpp : Sups W Ap p) (hnp : p.length ≤ 9223372036854775807) (c0 : Int) (c1 : Int) (c2 : Int) (sX : Int) (sY : Int) (aX : Int) (aY : Int) (windX : Int) (windY : Int) (wayX : Int) (wayY : Int) (height : Int) (mass : Int) (w0 : (Lit.int .i64 c0).wf = true) (w1 : (Lit.int .i64 c1).wf = true) (w2 : (Lit.int .i64 c2).wf = true) (w3 : (Lit.int .i64 sX).wf = true) (w4 : (Lit.int .i64 sY).wf = true) (w5 : (Lit.int .i64 aX).wf = true) (w6 : (Lit.int .i64 aY).wf = true) (w7 : (Lit.int .i64 windX).wf = true) (w8 : (Lit.int .i64 windY).wf = true) (w9 : (Lit.int .i64 wayX).wf = true) (w10 : (Lit.int .i64 wayY).wf = true) (w11 : (Lit.int .i64 height).wf = true) (w12 : (Lit.int .i64 mass).wf = true) :
    Calls Try.prog 8 #[.slice Ap p.length capp, .agg #[.int .i64 c0, .int .i64 c1, .int .i64 c2], .agg #[.int .i64 sX, .int .i64 sY], .agg #[.int .i64 aX, .int .i64 aY], .agg #[.int .i64 windX, .int .i64 windY], .agg #[.int .i64 wayX, .int .i64 wayY], .int .i64 height, .int .i64 mass] W fun e w' => e = .returned (.bool true) ∧ Below W.heap.size W w' := by
  have b0 := bounds_i64 w0; have b1 := bounds_i64 w1; have b2 := bounds_i64 w2; have b3 := bounds_i64 w3; have b4 := bounds_i64 w4; have b5 := bounds_i64 w5; have b6 := bounds_i64 w6; have b7 := bounds_i64 w7; have b8 := bounds_i64 w8; have b9 := bounds_i64 w9; have b10 := bounds_i64 w10; have b11 := bounds_i64 w11; have b12 := bounds_i64 w12
  exact l_Feet Ap p capp c0 c1 c2 sX sY aX aY windX windY wayX wayY height mass W hpp hnp
set_option maxRecDepth 100000 in
theorem lifted (os : Os) (started : os.Started) (H : Type) (enc : TypeId × Value → H) :
    ReturnsInHanded {} Try.checked os 8 .any (Rows.staticsFeetSpec.pre6 enc Try.prog Try.f8 Rows.staticsFeetRow.domain false) (Rows.staticsFeetSpec.post enc Try.prog Try.f8 false true false false) := by
  refine returnsInHanded_of_change (C := Try.checked) own started (by kernel_rfl) Try.func8
    (ChangeSpec.witness6 (enc := enc) (C := Try.checked) false ⟨#[], #[.slice none 0 0, .agg #[.int .i64 0, .int .i64 0, .int .i64 0], .agg #[.int .i64 0, .int .i64 0], .agg #[.int .i64 0, .int .i64 0], .agg #[.int .i64 0, .int .i64 0], .agg #[.int .i64 0, .int .i64 0], .int .i64 0, .int .i64 0], []⟩ 8 (by kernel_rfl) (by kernel_rfl) (by kernel_rfl) (by kernel_rfl)) ?_
  intro W base args ds gs before hval0 hW hcnd _
  have hval : ∀ (j : Nat) t v, Try.f8.params[j]? = some t → args[j]? = some v → Value.okWide Try.prog W .any base t v := hval0
  have hW' := hW
  obtain ⟨p, q, hA0, hV, rfl, hfz, hnd⟩ := hW
  have hA : DataW.TrodAll enc Try.prog W 0 (fun _ => true) true Try.f8.params.toList args.toList ds p := hA0
  rw [Try.params8] at hA hval
  obtain ⟨v0, vs0, d0, ds0, p0, q0, hargs, rfl, rfl, h0, r0⟩ := trodAll_cons hA
  obtain ⟨v1, vs1, d1, ds1, p1, q1, rfl, rfl, rfl, h1, r1⟩ := trodAll_cons r0
  obtain ⟨v2, vs2, d2, ds2, p2, q2, rfl, rfl, rfl, h2, r2⟩ := trodAll_cons r1
  obtain ⟨v3, vs3, d3, ds3, p3, q3, rfl, rfl, rfl, h3, r3⟩ := trodAll_cons r2
  obtain ⟨v4, vs4, d4, ds4, p4, q4, rfl, rfl, rfl, h4, r4⟩ := trodAll_cons r3
  obtain ⟨v5, vs5, d5, ds5, p5, q5, rfl, rfl, rfl, h5, r5⟩ := trodAll_cons r4
  obtain ⟨v6, vs6, d6, ds6, p6, q6, rfl, rfl, rfl, h6, r6⟩ := trodAll_cons r5
  obtain ⟨v7, vs7, d7, ds7, p7, q7, rfl, rfl, rfl, h7, r7⟩ := trodAll_cons r6
  obtain ⟨rfl, rfl, rfl⟩ := trodAll_nil r7
  obtain rfl : args = #[v0, v1, v2, v3, v4, v5, v6, v7] := by cases args; simp_all
  obtain ⟨rfl, rfl⟩ := trodVars_none hV
  obtain ⟨Ap, p, capp, rfl, hpp, hnp⟩ := sups_open h0 (okWide_slice Try.underlying27 (hval 0 27 v0 rfl rfl))
  obtain ⟨c10, c11, c12, y10, y11, y12, m1, rfl, rfl, rfl, hy10, hy11, hy12⟩ := arr3_open Try.underlying30 Try.cells64 cells_arr3 (hval 1 30 v1 rfl rfl) h1
  obtain ⟨c0, e10, rfl, w10⟩ := DataW.trod_int Try.underlying2 hy10
  obtain ⟨c1, e11, rfl, w11⟩ := DataW.trod_int Try.underlying2 hy11
  obtain ⟨c2, e12, rfl, w12⟩ := DataW.trod_int Try.underlying2 hy12
  simp at e10 e11 e12
  subst e10 e11 e12
  obtain ⟨c20, c21, y20, y21, m2, rfl, rfl, rfl, hy20, hy21⟩ := open_agg2 Try.underlying46 (by kernel_rfl) cells_slope (hval 2 46 v2 rfl rfl) h2
  obtain ⟨sX, e20, rfl, w20⟩ := DataW.trod_int Try.underlying2 hy20
  obtain ⟨sY, e21, rfl, w21⟩ := DataW.trod_int Try.underlying2 hy21
  simp at e20 e21
  subst e20 e21
  obtain ⟨c30, c31, y30, y31, m3, rfl, rfl, rfl, hy30, hy31⟩ := open_agg2 Try.underlying46 (by kernel_rfl) cells_slope (hval 3 46 v3 rfl rfl) h3
  obtain ⟨aX, e30, rfl, w30⟩ := DataW.trod_int Try.underlying2 hy30
  obtain ⟨aY, e31, rfl, w31⟩ := DataW.trod_int Try.underlying2 hy31
  simp at e30 e31
  subst e30 e31
  obtain ⟨c40, c41, y40, y41, m4, rfl, rfl, rfl, hy40, hy41⟩ := open_agg2 Try.underlying46 (by kernel_rfl) cells_slope (hval 4 46 v4 rfl rfl) h4
  obtain ⟨windX, e40, rfl, w40⟩ := DataW.trod_int Try.underlying2 hy40
  obtain ⟨windY, e41, rfl, w41⟩ := DataW.trod_int Try.underlying2 hy41
  simp at e40 e41
  subst e40 e41
  obtain ⟨c50, c51, y50, y51, m5, rfl, rfl, rfl, hy50, hy51⟩ := open_agg2 Try.underlying46 (by kernel_rfl) cells_slope (hval 5 46 v5 rfl rfl) h5
  obtain ⟨wayX, e50, rfl, w50⟩ := DataW.trod_int Try.underlying2 hy50
  obtain ⟨wayY, e51, rfl, w51⟩ := DataW.trod_int Try.underlying2 hy51
  simp at e50 e51
  subst e50 e51
  obtain ⟨height, rfl, rfl, rfl, w6⟩ := open_int Try.underlying2 (hval 6 2 v6 rfl rfl) h6
  obtain ⟨mass, rfl, rfl, rfl, w7⟩ := open_int Try.underlying2 (hval 7 2 v7 rfl rfl) h7
  clear hA0 hval0
  simp only [List.append_nil] at hW'
  refine (walk W Ap p capp hpp hnp c0 c1 c2 sX sY aX aY windX windY wayX wayY height mass w10 w11 w12 w20 w21 w30 w31 w40 w41 w50 w51 w6 w7).mono fun e W' ⟨he, hg⟩ => ?_
  subst he
  exact ⟨_, rfl, post_of_up (pa := p0 ++ ([] ++ ([] ++ ([] ++ ([] ++ ([] ++ ([] ++ ([] ++ [])))))))) (pv := []) hW' (fun _ _ _ => (trodAll_cons_mk (shut_bool Try.underlying4 _) trodAll_mk0)) (fun sp hsp => (trodAll_cons_mk (sups_shut h0 hg (fun x hx => hW'.lt x (by simp [hx])) (fun x hx => hsp x (by simp [hx]))) (trodAll_cons_mk (arr3_shut (y0 := (.lit (.int .i64 c0), [])) (y1 := (.lit (.int .i64 c1), [])) (y2 := (.lit (.int .i64 c2), [])) Try.underlying30 Try.cells64 cells_arr3 ⟨1, by simp [DataW.trod, show Try.checked.prog = Try.prog from rfl, Try.underlying2, w10]⟩ ⟨1, by simp [DataW.trod, show Try.checked.prog = Try.prog from rfl, Try.underlying2, w11]⟩ ⟨1, by simp [DataW.trod, show Try.checked.prog = Try.prog from rfl, Try.underlying2, w12]⟩) (trodAll_cons_mk (shut_agg2 (y0 := (.lit (.int .i64 sX), [])) (y1 := (.lit (.int .i64 sY), [])) Try.underlying46 (by kernel_rfl) cells_slope ⟨1, by simp [DataW.trod, show Try.checked.prog = Try.prog from rfl, Try.underlying2, w20]⟩ ⟨1, by simp [DataW.trod, show Try.checked.prog = Try.prog from rfl, Try.underlying2, w21]⟩) (trodAll_cons_mk (shut_agg2 (y0 := (.lit (.int .i64 aX), [])) (y1 := (.lit (.int .i64 aY), [])) Try.underlying46 (by kernel_rfl) cells_slope ⟨1, by simp [DataW.trod, show Try.checked.prog = Try.prog from rfl, Try.underlying2, w30]⟩ ⟨1, by simp [DataW.trod, show Try.checked.prog = Try.prog from rfl, Try.underlying2, w31]⟩) (trodAll_cons_mk (shut_agg2 (y0 := (.lit (.int .i64 windX), [])) (y1 := (.lit (.int .i64 windY), [])) Try.underlying46 (by kernel_rfl) cells_slope ⟨1, by simp [DataW.trod, show Try.checked.prog = Try.prog from rfl, Try.underlying2, w40]⟩ ⟨1, by simp [DataW.trod, show Try.checked.prog = Try.prog from rfl, Try.underlying2, w41]⟩) (trodAll_cons_mk (shut_agg2 (y0 := (.lit (.int .i64 wayX), [])) (y1 := (.lit (.int .i64 wayY), [])) Try.underlying46 (by kernel_rfl) cells_slope ⟨1, by simp [DataW.trod, show Try.checked.prog = Try.prog from rfl, Try.underlying2, w50]⟩ ⟨1, by simp [DataW.trod, show Try.checked.prog = Try.prog from rfl, Try.underlying2, w51]⟩) (trodAll_cons_mk (shut_int Try.underlying2 w6) (trodAll_cons_mk (shut_int Try.underlying2 w7) trodAll_mk0))))))))) (fun _ _ => rfl) (by simp)
    hg (ok_one (by kernel_rfl) rfl (okWide_bool_mk Try.underlying4 _))⟩

theorem over : Rows.staticsFeetRow.holds Try.pinned (OpenSpec.ofChange Rows.staticsFeetSpec) :=
  OpenClaim.holds_of_wide 8 Try.f8 rfl rfl rfl rfl rfl rfl rfl ⟨rfl, rfl, rfl, rfl, rfl⟩ rfl rfl rfl rfl rfl (by kernel_rfl) Try.func8 (by kernel_rfl)
    (of_decide_eq_true (by kernel_rfl)) (by unfold Func.isWrapper; first | (rw [if_pos (by decide +kernel)]; kernel_rfl) | (rw [if_neg (by decide +kernel)]; exact ⟨rfl, rfl⟩))
    (fun os started H enc _ => lifted os started H enc)

/-- The statement. -/
theorem proved : Rows.StaticsFeetSaid :=
  over
end Go.Proofs.Ytgjcpgmnflpdkaa.staticsFeet
