/- The directions that look away from a hull: those of its box, then those of its sides. -/
import Derived.Test.YtihckoenfklhpaaCont
import Derived.Test.YtihckoenfklhpaaFirst
import Derived.RangeFuncBox
import Derived.OwnWalkIn
namespace Go.Proofs.Ytihckoenfklhpaa
open Go.RowKit Go.Proofs.Gn Go.Shelf
attribute [local go_sem] Oper.semAt_some
/-- The direction that looks away from a side. -/
def outQ (x : Qp) : Int × Int := (x.1.2.2 - x.1.1.2, x.1.1.1 - x.1.2.1)
def box4 : Pl := [(1, 0), (0, 1), (-1, 0), (0, -1)]
def outL (l : List Qp) : Pl := box4 ++ l.map outQ
theorem outL_len (l : List Qp) : (outL l).length = 4 + l.length := by simp [outL, box4]; omega
theorem outL_snoc (l : List Qp) (x : Qp) : outL (l ++ [x]) = outL l ++ [outQ x] := by simp [outL]
theorem boxed_own {β : Type} (B : Nat) (t : TypeId) (v : Value) : Own (fun (_ : β) W => Boxed W B t v) := fun s X Y row hv hg hrow => hv.kept hg (fun e' => by
  obtain ⟨o, ho, hc⟩ := hrow B e'.symm
  rw [show X.heap[B]? = _ from hv] at ho; cases ho; cases hc)
set_option maxRecDepth 100000 in
set_option maxHeartbeats 4000000 in
theorem p_outwards (b off : Nat) (ps : Pl) (cap : Nat) (w : World) (hc : ∀ k (h : k < ps.length), w.cell? ⟨b, off + k * 2, none⟩ = some (.int .i64 ps[k].1) ∧ w.cell? ⟨b, off + k * 2 + 1, none⟩ = some (.int .i64 ps[k].2)) (h0 : 0 < ps.length) (hlen : ps.length ≤ 70000) (hb : BdL ps) :
    Calls Try.prog 59 #[.slice (some ⟨b, off, none⟩) ps.length cap] w fun e w' => ∃ v, e = .returned v ∧ w'.ownsRow w.heap.size 24 2 v (4 + sidesN ps) (cellsPl (outL (upTo (qp ps hb) (sidesN ps)))) ∧ Up w w' := by
  refine (callsIn_wide (n := 9)).1 ?_
  have h1 : 1 ≤ 9 := by omega
  have fN : Fence.wide.fn 43 := trivial
  have rO : Fence.wide.round = none := rfl
  have hmx : Try.prog.follows .mixedOrders = true := by kernel_rfl
  obtain ⟨i0, hi, hz0, hz1, hz2⟩ := info_parts info_pt
  have HI := hide hi
  have HC := hide hc
  clear hi
  refine callsIn_of_wp_marks Try.func59 rfl trivial ?_ rfl
  simp only [Try.ntmps59, List.size_toArray, List.length_cons, List.length_nil, Nat.reduceAdd, Nat.reduceSub, Array.replicate_succ, Array.replicate_zero, List.push_toArray, List.append_toArray, List.nil_append, List.cons_append]
  gi_wp2_with (gi_at_call 43; (with_reducible refine CallsIn.mono (n_make Fence.wide _ fN rO _ _ _ _) ?_); rintro e w2 ⟨rfl, rfl⟩)
  have w0 : ((w.alloc (.cells #[.int .i64 1, .int .i64 0, .int .i64 0, .int .i64 1, .int .i64 (-1), .int .i64 0, .int .i64 0, .int .i64 (-1)] 24)).ownsRow w.heap.size 24 2 (.slice (some ⟨w.heap.size, 0, none⟩) 4 4) 4 (cellsPl (outL []))) :=
    World.ownsRow_lit w #[.int .i64 1, .int .i64 0, .int .i64 0, .int .i64 1, .int .i64 (-1), .int .i64 0, .int .i64 0, .int .i64 (-1)] 4 (Nat.le_refl _) (by unfold maxLen; omega) rfl
  have q0 := (w0.alloc (.cells #[.slice (some ⟨w.heap.size, 0, none⟩) 4 4] 22)).alloc (.cells #[.slice (some ⟨b, off, none⟩) ps.length cap] 22)
  have q1 := (Boxed.new (w.alloc (.cells #[.int .i64 1, .int .i64 0, .int .i64 0, .int .i64 1, .int .i64 (-1), .int .i64 0, .int .i64 0, .int .i64 (-1)] 24)) 22 (.slice (some ⟨w.heap.size, 0, none⟩) 4 4)).alloc (.cells #[.slice (some ⟨b, off, none⟩) ps.length cap] 22)
  have q4 := (bx_new ((w.alloc (.cells #[.int .i64 1, .int .i64 0, .int .i64 0, .int .i64 1, .int .i64 (-1), .int .i64 0, .int .i64 0, .int .i64 (-1)] 24)).alloc (.cells #[.slice (some ⟨w.heap.size, 0, none⟩) 4 4] 22)) [.slice (some ⟨b, off, none⟩) ps.length cap] 22 0 _ rfl).1
  have q5 : Up w (((w.alloc (.cells #[.int .i64 1, .int .i64 0, .int .i64 0, .int .i64 1, .int .i64 (-1), .int .i64 0, .int .i64 0, .int .i64 (-1)] 24)).alloc (.cells #[.slice (some ⟨w.heap.size, 0, none⟩) 4 4] 22)).alloc (.cells #[.slice (some ⟨b, off, none⟩) ps.length cap] 22)) := up_alloc (up_alloc (up_alloc (up_refl w) _) _) _
  have q6 : (((w.alloc (.cells #[.int .i64 1, .int .i64 0, .int .i64 0, .int .i64 1, .int .i64 (-1), .int .i64 0, .int .i64 0, .int .i64 (-1)] 24)).alloc (.cells #[.slice (some ⟨w.heap.size, 0, none⟩) 4 4] 22)).alloc (.cells #[.slice (some ⟨b, off, none⟩) ps.length cap] 22)).heap.size = w.heap.size + 3 := by simp
  have q7 := Boxed.new ((w.alloc (.cells #[.int .i64 1, .int .i64 0, .int .i64 0, .int .i64 1, .int .i64 (-1), .int .i64 0, .int .i64 0, .int .i64 (-1)] 24)).alloc (.cells #[.slice (some ⟨w.heap.size, 0, none⟩) 4 4] 22)) 22 (.slice (some ⟨b, off, none⟩) ps.length cap)
  simp only [World.size_alloc] at q1 q4 q7
  obtain ⟨W0, hW0⟩ : ∃ W0, ((w.alloc (.cells #[.int .i64 1, .int .i64 0, .int .i64 0, .int .i64 1, .int .i64 (-1), .int .i64 0, .int .i64 0, .int .i64 (-1)] 24)).alloc (.cells #[.slice (some ⟨w.heap.size, 0, none⟩) 4 4] 22)).alloc (.cells #[.slice (some ⟨b, off, none⟩) ps.length cap] 22) = W0 := ⟨_, rfl⟩
  rw [hW0] at q0 q1 q4 q5 q6 q7 ⊢
  have hbw : b < w.heap.size := World.block_lt_of_cell? _ _ (hc 0 h0).1
  clear hW0 w0
  refine wpIn_rangeFunc_ownH rO h1 (gf := 74) (lb := #[.pointer (some ⟨w.heap.size + 1 + 1, 0, none⟩)]) rfl trivial (enters_of Try.func74 (by kernel_rfl) rfl)
      (nbs_stops (qp ps hb) (fun x : Qp => #[pt x.1.1.1 x.1.1.2, pt x.1.2.1 x.1.2.2]) Fence.wide 8 trivial trivial rO (by omega) (w.heap.size + 1 + 1) w.heap.size b off cap ps h0 hlen hbw W0 (by omega) (by omega) q4 (fun k h => ⟨up_cell q5 (hc k h).1, up_cell q5 (hc k h).2⟩) (fun k hk => rfl))
      kpN_trans (kpN_b (by omega) (by omega)) (Below.refl _ _) (fun _ => rfl)
      (fun pre W => (∃ v, Boxed W (w.heap.size + 1) 22 v ∧ W.ownsRow w.heap.size 24 2 v (4 + pre.length) (cellsPl (outL pre)) ∧ True) ∧ Boxed W (w.heap.size + 1 + 1) 22 (.slice (some ⟨b, off, none⟩) ps.length cap) ∧ Below w.heap.size w W)
      (fun _ _ _ => False)
      (OwnFrom.and ((holdsRow_own w.heap.size (w.heap.size + 1) 22 24 2 (fun pre : List Qp => 4 + pre.length) (fun pre => cellsPl (outL pre)) (fun _ _ => True)).from _) (OwnFrom.and ((boxed_own (w.heap.size + 1 + 1) 22 (.slice (some ⟨b, off, none⟩) ps.length cap)).from _) (ownFrom_below (Nat.le_refl _) (by omega))))
      (fun c s A B row hs _ _ => hs)
      ⟨⟨_, q1, q0, trivial⟩, q7, q5⟩
      (fun x a' W => ∃ B1 B2, (W.cell? ⟨B1, 0, none⟩ = some (.int .i64 x.1.1.1) ∧ W.cell? ⟨B1, 1, none⟩ = some (.int .i64 x.1.1.2) ∧ W.cell? ⟨B2, 0, none⟩ = some (.int .i64 x.1.2.1) ∧ W.cell? ⟨B2, 1, none⟩ = some (.int .i64 x.1.2.2)) ∧ a' = { tmps := #[.slice (some ⟨b, off, none⟩) ps.length cap, undef, .slice none 0 0, .pointer (some ⟨w.heap.size + 1, 0, none⟩), .pointer (some ⟨B1, 0, none⟩), .pointer (some ⟨B2, 0, none⟩), pt 1 0, pt 0 1, pt (-1) 0, pt 0 (-1), .slice (some ⟨w.heap.size, 0, none⟩) 4 4, .slice (some ⟨b, off, none⟩) ps.length cap, .func (.func 74) #[] #[.pointer (some ⟨w.heap.size + 1 + 1, 0, none⟩)], pt x.1.1.1 x.1.1.2, pt x.1.2.1 x.1.2.2, undef, undef, undef, undef, undef, undef, undef, undef, undef, undef, undef, undef, undef, undef, undef], defers := [] })
      (fun x a' _ X Y row hs hg hr => by obtain ⟨B1, B2, ⟨e1, e2, e3, e4⟩, e5⟩ := hs; exact ⟨B1, B2, ⟨cell_kept e1 hg (fun r e => (hr r e).2), cell_kept e2 hg (fun r e => (hr r e).2), cell_kept e3 hg (fun r e => (hr r e).2), cell_kept e4 hg (fun r e => (hr r e).2)⟩, e5⟩)
      ?assign ?body ?done ?stop
  case assign =>
    rintro l pre x W K ⟨⟨v, hv, hown, _⟩, hs, hB⟩ hK
    gi_wp2
    exact hK _ _ (((KeepsOthers.alloc _ _).from _).trans ((KeepsOthers.alloc _ _).from _)) (kpN_up (up_alloc (up_alloc (up_refl W) _) _) hB.size)
      ⟨⟨v, (hv.alloc _).alloc _, (hown.alloc _).alloc _, trivial⟩, (hs.alloc _).alloc _, up_alloc (up_alloc hB _) _⟩
      ⟨W.heap.size, W.heap.size + 1, ⟨by go_cell, by go_cell, by go_cell, by go_cell⟩, rfl⟩
  case body =>
    rintro l pre x a' W hl ⟨r, hr⟩ ⟨⟨v, hv, hown, _⟩, hs, hB⟩ ⟨B1, B2, ⟨e1, e2, e3, e4⟩, rfl⟩ hlt
    have hpre : pre.length ≤ 70000 := by unfold sidesN at hlt; split at hlt <;> omega
    have hsn : outL (pre ++ [x]) = outL pre ++ [outQ x] := outL_snoc pre x
    obtain ⟨⟨⟨u1, u2⟩, ⟨v1, v2⟩⟩, ⟨b1, b2⟩, b3, b4⟩ := x
    have hsn2 : outL (pre ++ [⟨((u1, u2), (v1, v2)), ⟨b1, b2⟩, b3, b4⟩]) = outL pre ++ [(v2 - u2, u1 - v1)] := hsn
    have HSN := hide hsn2
    clear hsn hsn2
    dsimp only at e1 e2 e3 e4 ⊢
    unfold Bd at b1 b2 b3 b4
    dsimp only at b1 b2 b3 b4
    have k1 : IntKind.i64.wrap (v2 - u2) = v2 - u2 := IntWalk.i64_in _ ⟨by omega, by omega⟩
    have k2 : IntKind.i64.wrap (u1 - v1) = u1 - v1 := IntWalk.i64_in _ ⟨by omega, by omega⟩
    obtain ⟨g, cp, rfl⟩ := ownsRow_succ (k := 3 + pre.length) (by rw [show 3 + pre.length + 1 = 4 + pre.length by omega]; exact hown)
    have z1 := hv.cell
    have z2 := hv.frozen
    have HV := hide hv
    have HO := hide hown
    have HB := hide hB
    have HS := hide hs
    clear hv hown hB hs
    gi_wp2_with (refine wpListIn_append_own _ rfl (.tmp 15) (.tmp 27) 22 rfl w.heap.size 24 i0 _ 2 16 Try.underlying22 (unhide HI) hz0 hz1 hz2 rfl (by decide) _ (4 + pre.length) (cellsPl (outL pre)) rfl ((unhide HO).alloc _) ⟨W.heap.size, 0, none⟩ 1 1 [.int .i64 (v2 - u2), .int .i64 (u1 - v1)] rfl rfl (two_new _ _ _ _) (by intro u hu; simp at hu; rcases hu with rfl | rfl <;> rfl) (by unfold maxLen; omega) (by omega) (by have := (unhide HB).size; simp; omega) ?_; intro v' w3 hown' hgrow _; have A := (unhide HV).appended (by decide) (unhide HO) (unhide HB).size (Nat.le_succ _) hown' hgrow; obtain ⟨g', cp', rfl⟩ := ownsRow_succ (k := 4 + pre.length) (by rw [show 4 + pre.length + 1 = 4 + pre.length + 1 from rfl]; exact hown'); have z3 := A.1.cell; have z4 := A.1.frozen; have HA := hide A; have HG := hide hgrow; clear A hown' hgrow)
    obtain ⟨_, a2, a3, a4, a5⟩ := unhide HA
    have c2 := ((unhide HS).alloc (.cells #[.int .i64 (v2 - u2), .int .i64 (u1 - v1)] 24)).kept (unhide HG) (((unhide HS).alloc (.cells #[.int .i64 (v2 - u2), .int .i64 (u1 - v1)] 24)).not_row (by decide) ((unhide HO).alloc _))
    have c3 := c2.kept (grownBy_setCell' w3 (w.heap.size + 1) (.slice (some ⟨g', 0, none⟩) (4 + pre.length + 1) cp')) (by simp)
    refine ⟨a4.from _, ⟨a5, fun vv hvv => ?_⟩, ⟨⟨_, a2, ?_, trivial⟩, c3, (unhide HB).trans a5⟩⟩
    · rw [c3.cell, ← hvv, (unhide HS).cell]
    · rw [unhide HSN, cellsPl_snoc, List.length_append]
      exact a3
  case done =>
    rintro D ys W hD rfl ⟨⟨v, hv, hown, _⟩, _, hB⟩ hK
    have z1 := hv.cell
    rw [upTo_len] at hown
    gi_wp2
    refine ⟨by simp, .inl ⟨_, _, rfl, run_takeDeferred hK, ?_⟩⟩
    refine ⟨v, ?_, ⟨v, rfl, ownsRow_putObj hown _ hK rfl, hB.trans (belowK_b (w := w) (Nat.le_refl _) W D _ _ (by omega) hK rfl rfl)⟩⟩
    simp [results, Try.f59, go_sem]
  case stop =>
    rintro D c pre W hD _ hf hK
    exact hf.elim
end Go.Proofs.Ytihckoenfklhpaa
