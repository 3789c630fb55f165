/- Twice the area of a hull, as the program finds it. -/
import Derived.Test.YtihckoenfklhpaaAway
import Derived.Test.YtihckoenfklhpaaHullsA
import Derived.Test.YtihckoenfklhpaaMeet
namespace Go.Proofs.Ytihckoenfklhpaa
open Go.RowKit Go.Proofs.Gn Go.Shelf
attribute [local go_sem] Oper.semAt_some
/-- A coordinate of a valid point. -/
def Bc (x : Int) : Prop := -16777216 ≤ x ∧ x ≤ 16777216
/-- A side of a valid hull. -/
abbrev Ap := { x : (Int × Int) × (Int × Int) // (Bc x.1.1 ∧ Bc x.1.2) ∧ (Bc x.2.1 ∧ Bc x.2.2) }
theorem g_bc {ps : Pl} (h : okL ps = true) (k : Nat) : Bc (Gx.g ps k).1 ∧ Bc (Gx.g ps k).2 := by
  rcases Nat.lt_or_ge k ps.length with c | c
  · have := List.all_eq_true.1 h _ (Gx.g_mem c)
    have q := okp_yes this
    exact ⟨okc_yes q.1, okc_yes q.2⟩
  · have : Gx.g ps k = (0, 0) := by unfold Gx.g; rw [List.getD_eq_getElem?_getD, List.getElem?_eq_none c]; rfl
    rw [this]
    exact ⟨by unfold Bc; simp, by unfold Bc; simp⟩
def ap (ps : Pl) (h : okL ps = true) (k : Nat) : Ap := ⟨(Gx.g ps k, Gx.gc ps (k + 1)), g_bc h _, by unfold Gx.gc; exact g_bc h _⟩
/-- The sum, as the machine forms it. -/
def arK (pre : List Ap) : Int := pre.foldl (fun t x => IntKind.i64.wrap (t + Gx.crs x.1.1 x.1.2)) 0
theorem arK_snoc (pre : List Ap) (x : Ap) : arK (pre ++ [x]) = IntKind.i64.wrap (arK pre + Gx.crs x.1.1 x.1.2) := by simp [arK]
def arS (pre : List Ap) : Int := pre.foldl (fun t x => t + Gx.crs x.1.1 x.1.2) 0
theorem arS_snoc (pre : List Ap) (x : Ap) : arS (pre ++ [x]) = arS pre + Gx.crs x.1.1 x.1.2 := by simp [arS]
theorem crs_bc (x : Ap) : (-281474976710656 ≤ x.1.1.1 * x.1.2.2 ∧ x.1.1.1 * x.1.2.2 ≤ 281474976710656) ∧ (-281474976710656 ≤ x.1.1.2 * x.1.2.1 ∧ x.1.1.2 * x.1.2.1 ≤ 281474976710656) := by
  obtain ⟨⟨⟨a, b⟩, c, d⟩, ⟨h1, h2⟩, h3, h4⟩ := x
  have key : ∀ u v : Int, Bc u → Bc v → -281474976710656 ≤ u * v ∧ u * v ≤ 281474976710656 := fun u v hu hv => by
    unfold Bc at hu hv
    have p1 := Int.mul_nonneg (show 0 ≤ 16777216 - u by omega) (show 0 ≤ 16777216 - v by omega)
    have p2 := Int.mul_nonneg (show 0 ≤ 16777216 + u by omega) (show 0 ≤ 16777216 + v by omega)
    have p3 := Int.mul_nonneg (show 0 ≤ 16777216 - u by omega) (show 0 ≤ 16777216 + v by omega)
    have p4 := Int.mul_nonneg (show 0 ≤ 16777216 + u by omega) (show 0 ≤ 16777216 - v by omega)
    constructor <;> grind
  exact ⟨key a d h1 h4, key b c h2 h3⟩
theorem arK_sum : ∀ pre : List Ap, pre.length ≤ 256 → arK pre = arS pre ∧ (-(562949953421312 * (pre.length : Int)) ≤ arS pre ∧ arS pre ≤ 562949953421312 * (pre.length : Int)) := by
  intro pre
  generalize hr : pre.reverse = r
  induction r generalizing pre with
  | nil =>
    intro _
    have : pre = [] := by simpa using hr
    subst this
    simp [arK, arS]
  | cons x r ih =>
    intro hl
    have e : pre = r.reverse ++ [x] := by rw [← List.reverse_reverse pre, hr]; simp
    rw [e, List.length_append] at hl
    simp only [List.length_singleton] at hl
    obtain ⟨h1, h2⟩ := ih r.reverse (by simp) (by omega)
    have c := crs_bc x
    have b : -(562949953421312 * ((r.reverse ++ [x]).length : Int)) ≤ arS (r.reverse ++ [x]) ∧ arS (r.reverse ++ [x]) ≤ 562949953421312 * ((r.reverse ++ [x]).length : Int) := by
      rw [arS_snoc, List.length_append]
      unfold Gx.crs
      simp only [List.length_singleton]
      omega
    have bl : (r.reverse ++ [x]).length ≤ 256 := by simpa using hl
    rw [e]
    refine ⟨?_, b⟩
    rw [arK_snoc, h1, ← arS_snoc]
    exact IntWalk.i64_in _ ⟨by omega, by omega⟩
set_option maxRecDepth 100000 in
set_option maxHeartbeats 4000000 in
theorem p_Area (b off : Nat) (ps : Pl) (cap : Nat) (w : World) (hc : ∀ k (h : k < ps.length), w.cell? ⟨b, off + k * 2, none⟩ = some (.int .i64 ps[k].1) ∧ w.cell? ⟨b, off + k * 2 + 1, none⟩ = some (.int .i64 ps[k].2)) (hv : HV ps) (hcap : ps.length ≤ cap) (hcap2 : cap ≤ 9223372036854775807) :
    Calls Try.prog 16 #[.slice (some ⟨b, off, none⟩) ps.length cap] w fun e w' => e = .returned (.tuple #[.int .i64 (arK (upTo (ap ps hv.ok) (sidesN ps))), .int .i64 0]) ∧ Up w w' := by
  have h0 : 0 < ps.length := hv.pos
  have hlen := hv.len
  have ho := hv.ok
  refine (callsIn_wide (n := 9)).1 ?_
  have PC : ∀ (B : Nat) W, Up w W → W.cell? ⟨B, 0, none⟩ = some (.slice (some ⟨b, off, none⟩) ps.length cap) → Calls Try.prog 37 #[.slice (some ⟨B, 0, none⟩) 1 1] W fun e w' => e = .returned (.int .i64 0) ∧ Up W w' := fun B W hu hw => by
    have q := p_check1 _ ps cap B W (pts_up (.inr ⟨b, off, rfl, hc⟩) hu) hcap hcap2 hw
    rw [show hul1 ps = 0 from by unfold hul1; rw [if_pos hlen, if_pos ho, hv.is]; rfl] at q
    exact q
  have HPC := hide PC
  have HC := hide hc
  have h1 : 1 ≤ 9 := by omega
  have fN : Fence.wide.fn 43 := trivial
  have rO : Fence.wide.round = none := rfl
  have hmx : Try.prog.follows .mixedOrders = true := by kernel_rfl
  have hsn : sidesN ps ≤ 256 := by unfold sidesN; split <;> omega
  clear PC hcap hcap2
  refine callsIn_of_wp_marks Try.func16 rfl trivial ?_ rfl
  simp only [Try.ntmps16, List.size_toArray, List.length_cons, List.length_nil, Nat.reduceAdd, Nat.reduceSub, Array.replicate_succ, Array.replicate_zero, List.push_toArray, List.append_toArray, List.nil_append, List.cons_append]
  gi_wp2_with (first | (refine ⟨trivial, ?_⟩; gi_at_call 37; (with_reducible refine CallsIn.mono (callsIn_wide.2 (unhide HPC _ _ (by repeat' (first | (with_reducible exact up_refl _) | (with_reducible assumption) | (with_reducible refine up_alloc ?_ _) | (with_reducible refine up_drewN ?_ _) | (with_reducible refine up_drew ?_) | (with_reducible refine up_set ?_ (by first | (simp; done) | (simp; omega) | omega) _) | (refine up_trans ?_ (by with_reducible assumption)))) ?_)) ?_); (· go_cell); rintro e w1 ⟨rfl, hb1⟩) | (gi_at_call 43; (with_reducible refine CallsIn.mono (n_make Fence.wide _ fN rO _ _ _ _) ?_); rintro e w2 ⟨rfl, rfl⟩))
  have hb0 : Up w w1 := (by repeat' (first | (with_reducible exact up_refl _) | (with_reducible assumption) | (with_reducible refine up_alloc ?_ _) | (with_reducible refine up_drewN ?_ _) | (with_reducible refine up_drew ?_) | (with_reducible refine up_set ?_ (by first | (simp; done) | (simp; omega) | omega) _) | (refine up_trans ?_ (by with_reducible assumption))))
  have q1 := (Boxed.new w1 2 (.int .i64 0)).alloc (.cells #[.slice (some ⟨b, off, none⟩) ps.length cap] 22)
  have q7 := Boxed.new (w1.alloc (.cells #[.int .i64 0] 2)) 22 (.slice (some ⟨b, off, none⟩) ps.length cap)
  have q5 : Up w ((w1.alloc (.cells #[.int .i64 0] 2)).alloc (.cells #[.slice (some ⟨b, off, none⟩) ps.length cap] 22)) := up_alloc (up_alloc hb0 _) _
  have q6 : ((w1.alloc (.cells #[.int .i64 0] 2)).alloc (.cells #[.slice (some ⟨b, off, none⟩) ps.length cap] 22)).heap.size = w1.heap.size + 2 := by simp
  simp only [World.size_alloc] at q1 q7
  obtain ⟨W0, hW0⟩ : ∃ W0, (w1.alloc (.cells #[.int .i64 0] 2)).alloc (.cells #[.slice (some ⟨b, off, none⟩) ps.length cap] 22) = W0 := ⟨_, rfl⟩
  rw [hW0] at q1 q5 q6 q7 ⊢
  have hbw : b < w.heap.size := World.block_lt_of_cell? _ _ (hc 0 h0).1
  have hsz : w.heap.size ≤ w1.heap.size := hb0.size
  clear hW0 hb1
  refine wpIn_rangeFunc_ownH rO h1 (gf := 74) (lb := #[.pointer (some ⟨w1.heap.size + 1, 0, none⟩)]) rfl trivial (enters_of Try.func74 (by kernel_rfl) rfl)
      (nbs_stops (ap ps ho) (fun x : Ap => #[pt x.1.1.1 x.1.1.2, pt x.1.2.1 x.1.2.2]) Fence.wide 8 trivial trivial rO (by omega) (w1.heap.size + 1) w.heap.size b off cap ps h0 (by omega) hbw W0 (by omega) (by omega) q7.cell (fun k h => ⟨up_cell q5 (hc k h).1, up_cell q5 (hc k h).2⟩) (fun k hk => rfl))
      kpN_trans (kpN_b (by omega) (by omega)) (Below.refl _ _) (fun _ => rfl)
      (fun pre W => Boxed W w1.heap.size 2 (.int .i64 (arK pre)) ∧ Boxed W (w1.heap.size + 1) 22 (.slice (some ⟨b, off, none⟩) ps.length cap) ∧ Below w.heap.size w W)
      (fun _ _ _ => False)
      (OwnFrom.and ((boxed_own2 w1.heap.size 2 (fun pre : List Ap => .int .i64 (arK pre))).from _) (OwnFrom.and ((boxed_own (w1.heap.size + 1) 22 (.slice (some ⟨b, off, none⟩) ps.length cap)).from _) (ownFrom_below (Nat.le_refl _) (by omega))))
      (fun c s A B row hs _ _ => hs)
      ⟨q1, q7, q5⟩
      (fun x a' W => ∃ B1 B2, (W.cell? ⟨B1, 0, none⟩ = some (.int .i64 x.1.1.1) ∧ W.cell? ⟨B1, 1, none⟩ = some (.int .i64 x.1.1.2) ∧ W.cell? ⟨B2, 0, none⟩ = some (.int .i64 x.1.2.1) ∧ W.cell? ⟨B2, 1, none⟩ = some (.int .i64 x.1.2.2)) ∧ a' = { tmps := #[.slice (some ⟨b, off, none⟩) ps.length cap, undef, .int .i64 0, .int .i64 0, .int .i64 0, .pointer (some ⟨w1.heap.size, 0, none⟩), .pointer (some ⟨B1, 0, none⟩), .pointer (some ⟨B2, 0, none⟩), .slice (some ⟨b, off, none⟩) ps.length cap, .slice (some ⟨w.heap.size, 0, none⟩) 1 1, .int .i64 0, .int .i64 0, .bool false, undef, .slice (some ⟨b, off, none⟩) ps.length cap, .func (.func 74) #[] #[.pointer (some ⟨w1.heap.size + 1, 0, none⟩)], pt x.1.1.1 x.1.1.2, pt x.1.2.1 x.1.2.2, undef, undef, undef, undef, undef, undef], defers := [] })
      (fun x a' _ X Y row hs hg hr => by obtain ⟨B1, B2, ⟨e1, e2, e3, e4⟩, e5⟩ := hs; exact ⟨B1, B2, ⟨cell_kept e1 hg (fun r e => (hr r e).2), cell_kept e2 hg (fun r e => (hr r e).2), cell_kept e3 hg (fun r e => (hr r e).2), cell_kept e4 hg (fun r e => (hr r e).2)⟩, e5⟩)
      ?assign ?body ?done ?stop
  case assign =>
    rintro l pre x W K ⟨hv, hs, hB⟩ hK
    gi_wp2
    exact hK _ _ (((KeepsOthers.alloc _ _).from _).trans ((KeepsOthers.alloc _ _).from _)) (kpN_up (up_alloc (up_alloc (up_refl W) _) _) hB.size)
      ⟨(hv.alloc _).alloc _, (hs.alloc _).alloc _, up_alloc (up_alloc hB _) _⟩
      ⟨W.heap.size, W.heap.size + 1, ⟨by go_cell, by go_cell, by go_cell, by go_cell⟩, rfl⟩
  case body =>
    rintro l pre x a' W hl ⟨r, hr⟩ ⟨hv, hs, hB⟩ ⟨B1, B2, ⟨e1, e2, e3, e4⟩, rfl⟩ hlt
    have hsn2 := arK_snoc pre x
    have hcb := crs_bc x
    obtain ⟨X, hX⟩ : ∃ X, arK pre = X := ⟨_, rfl⟩
    obtain ⟨Y, hY⟩ : ∃ X, arK (pre ++ [x]) = X := ⟨_, rfl⟩
    rw [hX] at hv hsn2
    rw [hY] at hsn2
    have HY := hide hY
    clear hX hY
    obtain ⟨⟨⟨u1, u2⟩, ⟨v1, v2⟩⟩, hbnd⟩ := x
    have hS : Gx.crs (u1, u2) (v1, v2) = u1 * v2 - u2 * v1 := rfl
    simp only at hsn2 hcb
    rw [hS] at hsn2
    dsimp only at e1 e2 e3 e4 ⊢
    have PX : ∀ W : World, Calls Try.prog 44 #[pt u1 u2, pt v1 v2] W fun e w' => e = .returned (.int .i64 (u1 * v2 - u2 * v1)) ∧ Up W w' := fun W => p_cross u1 u2 v1 v2 W (by omega) (by omega) (by omega) (by omega)
    have s1 : IntKind.i64.wrap (X + (u1 * v2 - u2 * v1)) = Y := hsn2.symm
    obtain ⟨C, hC⟩ : ∃ d, u1 * v2 - u2 * v1 = d := ⟨_, rfl⟩
    rw [hC] at PX s1
    have HPX := hide PX
    have HV := hide hv
    have HS := hide hs
    have HB := hide hB
    clear hC PX hsn2 hS hv hs hB hcb
    have z0 : ∀ p : UpW W, Boxed p.v w1.heap.size 2 (.int .i64 X) := fun p => (p.up.block _ (unhide HV).lt).trans (unhide HV)
    have m0 : ∀ p : UpW W, p.v.cell? ⟨w1.heap.size, 0, none⟩ = some (.int .i64 X) := fun p => (z0 p).cell
    have m1' : ∀ p : UpW W, p.v.cell? ⟨B1, 0, none⟩ = some (.int .i64 u1) := fun p => up_cell p.up e1
    have m2' : ∀ p : UpW W, p.v.cell? ⟨B1, 1, none⟩ = some (.int .i64 u2) := fun p => up_cell p.up e2
    have m3' : ∀ p : UpW W, p.v.cell? ⟨B2, 0, none⟩ = some (.int .i64 v1) := fun p => up_cell p.up e3
    have m4' : ∀ p : UpW W, p.v.cell? ⟨B2, 1, none⟩ = some (.int .i64 v2) := fun p => up_cell p.up e4
    have Z0 := hide z0
    clear z0
    have h1' : 1 ≤ 9 - 1 - 1 := by omega
    refine wpIn_block ?_
    refine Hin.wpIn_region_late (S := fun w' => ∃ p : UpW W, w' = p.v) 5 (Hin.open_round l) hmx (by kernel_rfl) (by simp only [List.take_succ_cons, List.take_zero]; rfl) rfl ⟨⟨_, up_drew (up_refl _)⟩, rfl⟩ ?_
    (repeat (go_big_quiet_step (first | (go_at_call 44; exact upq (unhide HPX _)))))
    refine wpQuiet_nil ⟨rfl, ?_⟩
    rintro _ ⟨pq, rfl⟩
    have zb := unhide Z0 pq
    have z1 := zb.cell
    have z2 := zb.frozen
    have hup := pq.up
    have ZB := hide zb
    clear zb m0 m1' m2' m3' m4'
    go_simp
    have cs := (((unhide HS).kept (row := none) ⟨hup.os, hup.tape, hup.output, hup.size, fun k hk _ => hup.block k hk⟩ (by simp)).kept (grownBy_setCell' pq.v w1.heap.size (.int .i64 Y)) (by simp))
    have hb2 : Below w.heap.size W (pq.v.setCell ⟨w1.heap.size, 0, none⟩ (.int .i64 Y)) := (hup.mono (unhide HB).size).setCell (p := ⟨w1.heap.size, 0, none⟩) (show w.heap.size ≤ w1.heap.size by omega) _
    refine ⟨(up_keepsFrom hup).trans ((KeepsOthers.setCell _ _ _).from _), ⟨hb2, fun vv hvv => by rw [cs.cell, ← hvv, (unhide HS).cell]⟩, ?_, cs, (unhide HB).trans hb2⟩
    rw [unhide HY]
    exact (unhide ZB).set _
  case done =>
    rintro D ys W hD rfl ⟨hv, _, hB⟩ hK
    have z1 := hv.cell
    gi_wp2
    refine ⟨by simp, .inl ⟨_, _, rfl, run_takeDeferred hK, ?_⟩⟩
    refine ⟨.tuple #[.int .i64 (arK (upTo (ap ps ho) (sidesN ps))), .int .i64 0], ?_, ⟨rfl, hB.trans (belowK_b (w := w) (Nat.le_refl _) W D _ _ (by omega) hK rfl rfl)⟩⟩
    simp [results, Try.f16, go_sem]
  case stop =>
    rintro D c pre W hD _ hf hK
    exact hf.elim
end Go.Proofs.Ytihckoenfklhpaa
