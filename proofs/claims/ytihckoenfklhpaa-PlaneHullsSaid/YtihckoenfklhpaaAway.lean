/- How far away a hull is from (0, 0), as the program finds it. -/
import Derived.Test.YtihckoenfklhpaaOutw
import Derived.Test.YtihckoenfklhpaaLate
import Derived.Test.YtihckoenfklhpaaGcd
namespace Go.Proofs.Ytihckoenfklhpaa
open Go.RowKit Go.Proofs.Gn Go.Shelf
attribute [local go_sem] Oper.semAt_some
def mxv (x y : Int) : Int := if y > x then y else x
theorem mxv_le {x y c : Int} : mxv x y ≤ c ↔ x ≤ c ∧ y ≤ c := by unfold mxv; split <;> omega
theorem run_max5 {P : Program} (ts : Array TypeId) (t : TypeId) (x y z u v : Int) (w : World) : (Builtin.max_ ts t #[.int .i64 x, .int .i64 y, .int .i64 z, .int .i64 u, .int .i64 v]).run P w = .ok (.int .i64 (mxv (mxv (mxv (mxv x y) z) u) v)) w := by
  simp only [Builtin.max_, List.foldlM_cons, List.foldlM_nil, Builtin.max2, Sem.run_bind, Sem.run_pure, Result.andThen_ok]
  rfl
/-- A side, between two points that differ. -/
abbrev Rp := { x : (Int × Int) × (Int × Int) // ((Bd x.1.1 ∧ Bd x.1.2) ∧ (Bd x.2.1 ∧ Bd x.2.2)) ∧ x.1 ≠ x.2 }
def rp (ps : Pl) (h : BdL ps) (k : Nat) : Rp := if hk : Gx.g ps k ≠ Gx.gc ps (k + 1) then ⟨(Gx.g ps k, Gx.gc ps (k + 1)), ⟨bdL_any h _, bdL_any h _⟩, hk⟩ else ⟨((0, 0), (1, 0)), by unfold Bd; simp⟩
theorem rp_eq {ps : Pl} (h : BdL ps) {k : Nat} (hk : Gx.g ps k ≠ Gx.gc ps (k + 1)) : (rp ps h k).1 = (Gx.g ps k, Gx.gc ps (k + 1)) := by unfold rp; rw [dif_pos hk]
theorem side_ne {ps : Pl} (p : Gx.Poly ps) {k : Nat} (hk : k < sidesN ps) : Gx.g ps k ≠ Gx.gc ps (k + 1) := by
  unfold sidesN at hk
  split at hk
  · omega
  · have hl : k < ps.length := hk
    intro e
    rcases Gx.side_half p.toIsH (by omega) hl with f | f
    · rw [Gx.sd_lt hl, ← e] at f
      unfold Gx.fw Gx.sb at f
      simp only at f
      omega
    · rw [Gx.sd_lt hl, ← e] at f
      unfold Gx.bw Gx.fw Gx.ng Gx.sb at f
      simp only at f
      omega
/-- The size of a direction. -/
def nrm (u : Int × Int) : Int := (u.1.natAbs : Int) + (u.2.natAbs : Int)
/-- By how much a side has to be moved. -/
def sideT (x : Rp) : Int := - (Gx.crs x.1.1 x.1.2 / nrm (Gx.sb x.1.2 x.1.1))
def awK (t0 : Int) (pre : List Rp) : Int := pre.foldl (fun t x => mxv t (sideT x)) t0
theorem awK_snoc (t0 : Int) (pre : List Rp) (x : Rp) : awK t0 (pre ++ [x]) = mxv (awK t0 pre) (sideT x) := by simp [awK]
theorem awK_le {t0 c : Int} : ∀ {pre : List Rp}, awK t0 pre ≤ c ↔ t0 ≤ c ∧ ∀ x ∈ pre, sideT x ≤ c := by
  intro pre
  generalize hr : pre.reverse = r
  induction r generalizing pre with
  | nil =>
    have : pre = [] := by simpa using hr
    subst this
    simp [awK]
  | cons x r ih =>
    have e : pre = r.reverse ++ [x] := by rw [← List.reverse_reverse pre, hr]; simp
    subst e
    rw [awK_snoc, mxv_le, ih (pre := r.reverse) (by simp)]
    constructor
    · rintro ⟨⟨h1, h2⟩, h3⟩
      exact ⟨h1, fun y hy => (List.mem_append.1 hy).elim (h2 y) fun h => by rw [List.mem_singleton.1 h]; exact h3⟩
    · rintro ⟨h1, h2⟩
      exact ⟨⟨h1, fun y hy => h2 y (List.mem_append.2 (.inl hy))⟩, h2 x (List.mem_append.2 (.inr (List.mem_singleton.2 rfl)))⟩
def awT (l1 l2 h1 h2 : Int) : Int := mxv (mxv (mxv (mxv 0 l1) (-h1)) l2) (-h2)
theorem nrm_pos {u v : Int × Int} (h : u ≠ v) : 0 < nrm (Gx.sb v u) := by
  unfold nrm Gx.sb
  simp only
  rcases Nat.eq_zero_or_pos ((v.1 - u.1).natAbs) with e | e
  · rcases Nat.eq_zero_or_pos ((v.2 - u.2).natAbs) with f | f
    · exact absurd (Prod.ext (by omega) (by omega)) h
    · omega
  · omega
/-- Between what bounds it stays. -/
def Bt (t : Int) : Prop := -1152921504606846976 ≤ t ∧ t ≤ 1152921504606846976
theorem sideT_bd (x : Rp) : Bt (sideT x) := by
  obtain ⟨⟨u, v⟩, ⟨⟨b1, b2⟩, b3, b4⟩, hne⟩ := x
  have hp := nrm_pos hne
  simp only at b1 b2 b3 b4
  have c := crs_bd (u := u) (v := v) (by unfold Bd at b1; omega) (by unfold Bd at b2; omega) (by unfold Bd at b3; omega) (by unfold Bd at b4; omega)
  have a := abs_ediv_le (n := Gx.crs u v) hp
  have e : Gx.crs u v = u.1 * v.2 - u.2 * v.1 := rfl
  unfold Bt sideT
  simp only at a ⊢
  omega
theorem mxv_bt {x y : Int} (h : Bt x) (k : Bt y) : Bt (mxv x y) := by unfold mxv; split <;> assumption
theorem awK_bd {t0 : Int} (h : Bt t0) (pre : List Rp) : Bt (awK t0 pre) := by
  unfold awK
  induction pre generalizing t0 with
  | nil => exact h
  | cons x l ih => exact ih (mxv_bt h (sideT_bd x))
theorem boxed_own2 {β : Type} (B : Nat) (t : TypeId) (f : β → Value) : Own (fun s W => Boxed W B t (f s)) := fun s X Y row hv hg hrow => hv.kept hg (fun e' => by
  obtain ⟨o, ho, hc⟩ := hrow B e'.symm
  rw [show X.heap[B]? = _ from hv] at ho; cases ho; cases hc)
set_option maxRecDepth 100000 in
set_option maxHeartbeats 4000000 in
theorem p_away (b off : Nat) (ps : Pl) (cap : Nat) (w : World) (hc : ∀ k (h : k < ps.length), w.cell? ⟨b, off + k * 2, none⟩ = some (.int .i64 ps[k].1) ∧ w.cell? ⟨b, off + k * 2 + 1, none⟩ = some (.int .i64 ps[k].2)) (hp : Gx.Poly ps) (hlen : ps.length ≤ 70000) (hb : BdL ps) {l1 l2 m1 m2 : Int} (hB : IsBox ps ps.length l1 l2 m1 m2) :
    Calls Try.prog 52 #[.slice (some ⟨b, off, none⟩) ps.length cap] w fun e w' => e = .returned (.int .i64 (awK (awT l1 l2 m1 m2) (upTo (rp ps hb) (sidesN ps)))) ∧ Up w w' := by
  have h0 : 0 < ps.length := List.length_pos_iff.2 hp.ne
  refine (callsIn_wide (n := 9)).1 ?_
  have PB : ∀ W, Up w W → Calls Try.prog 72 #[.slice (some ⟨b, off, none⟩) ps.length cap] W fun e w' => e = .returned (.tuple #[pt l1 l2, pt m1 m2]) ∧ Up W w' := fun W hu =>
    (p_box b off ps cap W (fun k h => ⟨up_cell hu (hc k h).1, up_cell hu (hc k h).2⟩) h0 hlen).mono fun e w' ⟨⟨a1, a2, b1, b2, he, hb'⟩, hu'⟩ => by
      obtain ⟨rfl, rfl, rfl, rfl⟩ := box_one hb' hB
      exact ⟨he, hu'⟩
  have bnd : (Bd l1 ∧ Bd l2) ∧ (Bd m1 ∧ Bd m2) := by
    obtain ⟨r1, a1, e1⟩ := hB.l1a; obtain ⟨r2, a2, e2⟩ := hB.l2a; obtain ⟨r3, a3, e3⟩ := hB.h1a; obtain ⟨r4, a4, e4⟩ := hB.h2a
    exact ⟨⟨e1 ▸ (hb r1 a1).1, e2 ▸ (hb r2 a2).2⟩, e3 ▸ (hb r3 a3).1, e4 ▸ (hb r4 a4).2⟩
  have hT0 : Bt (awT l1 l2 m1 m2) := by
    unfold Bd at bnd
    unfold awT
    refine mxv_bt (mxv_bt (mxv_bt (mxv_bt ?_ ?_) ?_) ?_) ?_ <;> unfold Bt <;> omega
  have r5 := fun (ts : Array TypeId) (t : TypeId) (W : World) => run_max5 (P := Try.prog) ts t 0 l1 (-m1) l2 (-m2) W
  have n1 : IntKind.i64.wrap (-m1) = -m1 := IntWalk.i64_in _ ⟨by unfold Bd at bnd; omega, by unfold Bd at bnd; omega⟩
  have n2 : IntKind.i64.wrap (-m2) = -m2 := IntWalk.i64_in _ ⟨by unfold Bd at bnd; omega, by unfold Bd at bnd; omega⟩
  obtain ⟨T0, hT⟩ : ∃ T, awT l1 l2 m1 m2 = T := ⟨_, rfl⟩
  unfold awT at hT
  rw [hT] at r5
  have hT' : awT l1 l2 m1 m2 = T0 := hT
  rw [hT'] at hT0 ⊢
  have HPB := hide PB
  have HC := hide hc
  have h1 : 1 ≤ 9 := by omega
  have fN : Fence.wide.fn 43 := trivial
  have rO : Fence.wide.round = none := rfl
  have hmx : Try.prog.follows .mixedOrders = true := by kernel_rfl
  have HBN := hide bnd
  clear PB hB hT hT' bnd
  refine callsIn_of_wp_marks Try.func52 rfl trivial ?_ rfl
  simp only [Try.ntmps52, List.size_toArray, List.length_cons, List.length_nil, Nat.reduceAdd, Nat.reduceSub, Array.replicate_succ, Array.replicate_zero, List.push_toArray, List.append_toArray, List.nil_append, List.cons_append]
  gi_wp2_with (first | (refine ⟨trivial, ?_⟩; gi_at_call 72; (with_reducible refine CallsIn.mono (callsIn_wide.2 (unhide HPB _ (by repeat' (first | (with_reducible exact up_refl _) | (with_reducible assumption) | (with_reducible refine up_alloc ?_ _) | (with_reducible refine up_drewN ?_ _) | (with_reducible refine up_drew ?_) | (with_reducible refine up_set ?_ (by first | (simp; done) | (simp; omega) | omega) _) | (refine up_trans ?_ (by with_reducible assumption)))))) ?_); rintro e w1 ⟨rfl, hb1⟩) | (gi_at_call 43; (with_reducible refine CallsIn.mono (n_make Fence.wide _ fN rO _ _ _ _) ?_); rintro e w2 ⟨rfl, rfl⟩))
  have q1 := ((Boxed.new ((w1.alloc (.cells #[.int .i64 l1, .int .i64 l2] 24)).alloc (.cells #[.int .i64 m1, .int .i64 m2] 24)) 2 (.int .i64 T0))).alloc (.cells #[.slice (some ⟨b, off, none⟩) ps.length cap] 22)
  have q7 := Boxed.new (((w1.alloc (.cells #[.int .i64 l1, .int .i64 l2] 24)).alloc (.cells #[.int .i64 m1, .int .i64 m2] 24)).alloc (.cells #[.int .i64 T0] 2)) 22 (.slice (some ⟨b, off, none⟩) ps.length cap)
  have q5 : Up w ((((w1.alloc (.cells #[.int .i64 l1, .int .i64 l2] 24)).alloc (.cells #[.int .i64 m1, .int .i64 m2] 24)).alloc (.cells #[.int .i64 T0] 2)).alloc (.cells #[.slice (some ⟨b, off, none⟩) ps.length cap] 22)) := up_alloc (up_alloc (up_alloc (up_alloc hb1 _) _) _) _
  have q6 : ((((w1.alloc (.cells #[.int .i64 l1, .int .i64 l2] 24)).alloc (.cells #[.int .i64 m1, .int .i64 m2] 24)).alloc (.cells #[.int .i64 T0] 2)).alloc (.cells #[.slice (some ⟨b, off, none⟩) ps.length cap] 22)).heap.size = w1.heap.size + 4 := by simp
  simp only [World.size_alloc] at q1 q7
  obtain ⟨W0, hW0⟩ : ∃ W0, (((w1.alloc (.cells #[.int .i64 l1, .int .i64 l2] 24)).alloc (.cells #[.int .i64 m1, .int .i64 m2] 24)).alloc (.cells #[.int .i64 T0] 2)).alloc (.cells #[.slice (some ⟨b, off, none⟩) ps.length cap] 22) = W0 := ⟨_, rfl⟩
  rw [hW0] at q1 q5 q6 q7 ⊢
  have hbw : b < w.heap.size := World.block_lt_of_cell? _ _ (hc 0 h0).1
  have hsz : w.heap.size ≤ w1.heap.size := hb1.size
  clear hW0 r5 n1 n2
  refine wpIn_rangeFunc_ownH rO h1 (gf := 74) (lb := #[.pointer (some ⟨w1.heap.size + 1 + 1 + 1, 0, none⟩)]) rfl trivial (enters_of Try.func74 (by kernel_rfl) rfl)
      (nbs_stops (rp ps hb) (fun x : Rp => #[pt x.1.1.1 x.1.1.2, pt x.1.2.1 x.1.2.2]) Fence.wide 8 trivial trivial rO (by omega) (w1.heap.size + 1 + 1 + 1) w.heap.size b off cap ps h0 hlen hbw W0 (by omega) (by omega) q7.cell (fun k h => ⟨up_cell q5 (hc k h).1, up_cell q5 (hc k h).2⟩) (fun k hk => by rw [rp_eq hb (side_ne hp hk)]))
      kpN_trans (kpN_b (by omega) (by omega)) (Below.refl _ _) (fun _ => rfl)
      (fun pre W => Boxed W (w1.heap.size + 1 + 1) 2 (.int .i64 (awK T0 pre)) ∧ Boxed W (w1.heap.size + 1 + 1 + 1) 22 (.slice (some ⟨b, off, none⟩) ps.length cap) ∧ Below w.heap.size w W)
      (fun _ _ _ => False)
      (OwnFrom.and ((boxed_own2 (w1.heap.size + 1 + 1) 2 (fun pre : List Rp => .int .i64 (awK T0 pre))).from _) (OwnFrom.and ((boxed_own (w1.heap.size + 1 + 1 + 1) 22 (.slice (some ⟨b, off, none⟩) ps.length cap)).from _) (ownFrom_below (Nat.le_refl _) (by omega))))
      (fun c s A B row hs _ _ => hs)
      ⟨q1, q7, q5⟩
      (fun x a' W => ∃ B1 B2, (W.cell? ⟨B1, 0, none⟩ = some (.int .i64 x.1.1.1) ∧ W.cell? ⟨B1, 1, none⟩ = some (.int .i64 x.1.1.2) ∧ W.cell? ⟨B2, 0, none⟩ = some (.int .i64 x.1.2.1) ∧ W.cell? ⟨B2, 1, none⟩ = some (.int .i64 x.1.2.2)) ∧ a' = { tmps := #[.slice (some ⟨b, off, none⟩) ps.length cap, undef, .int .i64 0, .pointer (some ⟨w1.heap.size, 0, none⟩), .pointer (some ⟨w1.heap.size + 1, 0, none⟩), .pointer (some ⟨w1.heap.size + 1 + 1, 0, none⟩), .pointer (some ⟨B1, 0, none⟩), .pointer (some ⟨B2, 0, none⟩), undef, .tuple #[pt l1 l2, pt m1 m2], .slice (some ⟨b, off, none⟩) ps.length cap, .tuple #[pt l1 l2, pt m1 m2], pt l1 l2, pt m1 m2, .pointer (some ⟨w1.heap.size, 0, none⟩), .int .i64 l1, .pointer (some ⟨w1.heap.size + 1, 0, none⟩), .int .i64 m1, .int .i64 (-m1), .pointer (some ⟨w1.heap.size, 1, none⟩), .int .i64 l2, .pointer (some ⟨w1.heap.size + 1, 1, none⟩), .int .i64 m2, .int .i64 (-m2), .int .i64 T0, .slice (some ⟨b, off, none⟩) ps.length cap, .func (.func 74) #[] #[.pointer (some ⟨w1.heap.size + 1 + 1 + 1, 0, none⟩)], pt x.1.1.1 x.1.1.2, pt x.1.2.1 x.1.2.2, undef, undef, undef, undef, undef, undef, undef, undef, undef, undef, undef, undef, undef, undef, undef, undef, undef, undef], defers := [] })
      (fun x a' _ X Y row hs hg hr => by obtain ⟨B1, B2, ⟨e1, e2, e3, e4⟩, e5⟩ := hs; exact ⟨B1, B2, ⟨cell_kept e1 hg (fun r e => (hr r e).2), cell_kept e2 hg (fun r e => (hr r e).2), cell_kept e3 hg (fun r e => (hr r e).2), cell_kept e4 hg (fun r e => (hr r e).2)⟩, e5⟩)
      ?assign ?body ?done ?stop
  case assign =>
    rintro l pre x W K ⟨hv, hs, hB⟩ hK
    gi_wp2
    exact hK _ _ (((KeepsOthers.alloc _ _).from _).trans ((KeepsOthers.alloc _ _).from _)) (kpN_up (up_alloc (up_alloc (up_refl W) _) _) hB.size)
      ⟨(hv.alloc _).alloc _, (hs.alloc _).alloc _, up_alloc (up_alloc hB _) _⟩
      ⟨W.heap.size, W.heap.size + 1, ⟨by go_cell, by go_cell, by go_cell, by go_cell⟩, rfl⟩
  case body =>
    rintro l pre x a' W hl ⟨r, hr⟩ ⟨hv, hs, hB⟩ ⟨B1, B2, ⟨e1, e2, e3, e4⟩, rfl⟩ hlt
    have hsn := awK_snoc T0 pre x
    have hbt := awK_bd hT0 pre
    have hsb := sideT_bd x
    obtain ⟨X, hX⟩ : ∃ X, awK T0 pre = X := ⟨_, rfl⟩
    obtain ⟨Y, hY⟩ : ∃ X, awK T0 (pre ++ [x]) = X := ⟨_, rfl⟩
    rw [hX] at hv hsn hbt
    rw [hY] at hsn
    have HY := hide hY
    clear hX hY
    obtain ⟨⟨⟨u1, u2⟩, ⟨v1, v2⟩⟩, ⟨⟨b1, b2⟩, b3, b4⟩, hne⟩ := x
    have hS : sideT ⟨((u1, u2), (v1, v2)), ⟨⟨b1, b2⟩, b3, b4⟩, hne⟩ = -((u1 * v2 - u2 * v1) / (((v1 - u1).natAbs : Int) + ((v2 - u2).natAbs : Int))) := rfl
    have hN := nrm_pos hne
    have hN2 : 0 < ((v1 - u1).natAbs : Int) + ((v2 - u2).natAbs : Int) := hN
    rw [hS] at hsn hsb
    dsimp only at e1 e2 e3 e4 b1 b2 b3 b4 ⊢
    have cb := crs_bd (u := (u1, u2)) (v := (v1, v2)) (by unfold Bd at b1; simp only; omega) (by unfold Bd at b2; simp only; omega) (by unfold Bd at b3; simp only; omega) (by unfold Bd at b4; simp only; omega)
    simp only at cb
    unfold Bd at b1 b2 b3 b4
    unfold Bt at hsb hbt
    have PM : ∀ W : World, Calls Try.prog 80 #[pt v1 v2, pt u1 u2] W fun e w' => e = .returned (pt (v1 - u1) (v2 - u2)) ∧ Up W w' := fun W => p_minus v1 v2 u1 u2 W (by omega) (by omega) (by omega) (by omega)
    have PX : ∀ W : World, Calls Try.prog 44 #[pt u1 u2, pt v1 v2] W fun e w' => e = .returned (.int .i64 (u1 * v2 - u2 * v1)) ∧ Up W w' := fun W => p_cross u1 u2 v1 v2 W (by omega) (by omega) (by omega) (by omega)
    have PY1 : ∀ W : World, Calls Try.prog 82 #[.int .i64 (v1 - u1)] W fun e w' => e = .returned (.int .i64 ((v1 - u1).natAbs : Int)) ∧ Up W w' := fun W => (p_amount (v1 - u1) W (by omega) (by omega)).mono fun e w' ⟨h1, h2⟩ => ⟨h1, h2 ▸ up_refl _⟩
    have PY2 : ∀ W : World, Calls Try.prog 82 #[.int .i64 (v2 - u2)] W fun e w' => e = .returned (.int .i64 ((v2 - u2).natAbs : Int)) ∧ Up W w' := fun W => (p_amount (v2 - u2) W (by omega) (by omega)).mono fun e w' ⟨h1, h2⟩ => ⟨h1, h2 ▸ up_refl _⟩
    have PF : ∀ W : World, Calls Try.prog 81 #[.int .i64 (u1 * v2 - u2 * v1), .int .i64 (((v1 - u1).natAbs : Int) + ((v2 - u2).natAbs : Int))] W fun e w' => e = .returned (.int .i64 ((u1 * v2 - u2 * v1) / (((v1 - u1).natAbs : Int) + ((v2 - u2).natAbs : Int)))) ∧ Up W w' := fun W => (p_floor (u1 * v2 - u2 * v1) _ W hN2 (by omega) (by omega) (by omega)).mono fun e w' ⟨h1, h2⟩ => ⟨h1, h2 ▸ up_refl _⟩
    have nb : ((v1 - u1).natAbs : Int) ≤ 1073741824 ∧ ((v2 - u2).natAbs : Int) ≤ 1073741824 := by omega
    obtain ⟨d1, hd1⟩ : ∃ d, v1 - u1 = d := ⟨_, rfl⟩
    obtain ⟨d2, hd2⟩ : ∃ d, v2 - u2 = d := ⟨_, rfl⟩
    obtain ⟨C, hC⟩ : ∃ d, u1 * v2 - u2 * v1 = d := ⟨_, rfl⟩
    rw [hd1] at PM PY1 PF hsn hsb nb hN2
    rw [hd2] at PM PY2 PF hsn hsb nb hN2
    rw [hC] at PX PF hsn hsb
    obtain ⟨N1, hN1⟩ : ∃ d, (d1.natAbs : Int) = d := ⟨_, rfl⟩
    obtain ⟨N2, hN2'⟩ : ∃ d, (d2.natAbs : Int) = d := ⟨_, rfl⟩
    rw [hN1] at PY1 PF hsn hsb nb hN2
    rw [hN2'] at PY2 PF hsn hsb nb hN2
    have hN1' : 0 ≤ N1 ∧ 0 ≤ N2 := by omega
    obtain ⟨G, hG⟩ : ∃ d, C / (N1 + N2) = d := ⟨_, rfl⟩
    rw [hG] at PF hsn hsb
    have s1 : IntKind.i64.wrap (N1 + N2) = N1 + N2 := IntWalk.i64_in _ ⟨by omega, by omega⟩
    have s2 : IntKind.i64.wrap (-G) = -G := IntWalk.i64_in _ ⟨by omega, by omega⟩
    have r1 := fun (ts : Array TypeId) (t : TypeId) (W : World) => (show (Builtin.max_ ts t #[.int .i64 X, .int .i64 (-G)]).run Try.prog W = .ok (.int .i64 Y) W by rw [run_max_int2, hsn]; rfl)
    have HPM := hide PM
    have HPX := hide PX
    have HPY1 := hide PY1
    have HPY2 := hide PY2
    have HPF := hide PF
    have HV := hide hv
    have HS := hide hs
    have HB := hide hB
    have h1' : 1 ≤ 9 - 1 - 1 := by omega
    clear hd1 hd2 hC hN1 hN2' hG PM PX PY1 PY2 PF hsn hS hN hv hs hB cb nb hN1' hbt hsb
    gi_wp2_with ((try refine ⟨trivial, ?_⟩); gi_at_call 80; (with_reducible refine CallsIn.mono (CallsIn.inRound l (callsIn_wide.2 (unhide HPM _))) ?_); rintro e w3 ⟨rfl, hb3⟩)
    have hr3 : Up W w3 := hb3
    obtain ⟨W7, hW7⟩ : ∃ W7, w3.alloc (.cells #[.int .i64 d1, .int .i64 d2] 24) = W7 := ⟨_, rfl⟩
    have hu7 : Up W W7 := by rw [← hW7]; exact up_alloc hr3 _
    have bx7 : Bx W7 w3.heap.size [.int .i64 d1, .int .i64 d2] := by rw [← hW7]; exact bx_new w3 [.int .i64 d1, .int .i64 d2] 24
    rw [hW7]
    clear hW7 hb3
    have z0 : ∀ p : UpW W7, Boxed p.v (w1.heap.size + 1 + 1) 2 (.int .i64 X) := fun p => ((up_trans hu7 p.up).block _ (unhide HV).lt).trans (unhide HV)
    have m0 : ∀ p : UpW W7, p.v.cell? ⟨w1.heap.size + 1 + 1, 0, none⟩ = some (.int .i64 X) := fun p => (z0 p).cell
    have m1' : ∀ p : UpW W7, p.v.cell? ⟨B1, 0, none⟩ = some (.int .i64 u1) := fun p => up_cell (up_trans hu7 p.up) e1
    have m2' : ∀ p : UpW W7, p.v.cell? ⟨B1, 1, none⟩ = some (.int .i64 u2) := fun p => up_cell (up_trans hu7 p.up) e2
    have m3' : ∀ p : UpW W7, p.v.cell? ⟨B2, 0, none⟩ = some (.int .i64 v1) := fun p => up_cell (up_trans hu7 p.up) e3
    have m4' : ∀ p : UpW W7, p.v.cell? ⟨B2, 1, none⟩ = some (.int .i64 v2) := fun p => up_cell (up_trans hu7 p.up) e4
    have m5' : ∀ p : UpW W7, p.v.cell? ⟨w3.heap.size, 0, none⟩ = some (.int .i64 d1) := fun p => (bx2 (bx_up bx7 p.up)).1
    have m6' : ∀ p : UpW W7, p.v.cell? ⟨w3.heap.size, 1, none⟩ = some (.int .i64 d2) := fun p => (bx2 (bx_up bx7 p.up)).2
    have Z0 := hide z0
    clear z0
    refine Hin.wpIn_region_late (S := fun w' => ∃ p : UpW W7, w' = p.v) 14 (Hin.open_round l) hmx (by kernel_rfl) (by simp only [List.take_succ_cons, List.take_zero]; rfl) rfl ⟨⟨_, up_drew (up_refl _)⟩, rfl⟩ ?_
    (repeat (go_big_quiet_step (first | (go_at_call 44; exact upq (unhide HPX _)) | (go_at_call 82; (with_reducible exact upq (unhide HPY1 _))) | (go_at_call 82; (with_reducible exact upq (unhide HPY2 _))) | (go_at_call 81; exact upq (unhide HPF _)))))
    refine wpQuiet_nil ⟨rfl, ?_⟩
    rintro _ ⟨pq, rfl⟩
    have zb := unhide Z0 pq
    have z1 := zb.cell
    have z2 := zb.frozen
    have hup := up_trans hu7 pq.up
    have ZB := hide zb
    clear zb m0 m1' m2' m3' m4' m5' m6'
    go_simp
    have cs := (((unhide HS).kept (row := none) ⟨hup.os, hup.tape, hup.output, hup.size, fun k hk _ => hup.block k hk⟩ (by simp)).kept (grownBy_setCell' pq.v (w1.heap.size + 1 + 1) (.int .i64 Y)) (by simp))
    have hb2 : Below w.heap.size W (pq.v.setCell ⟨w1.heap.size + 1 + 1, 0, none⟩ (.int .i64 Y)) := (hup.mono (unhide HB).size).setCell (p := ⟨w1.heap.size + 1 + 1, 0, none⟩) (show w.heap.size ≤ w1.heap.size + 1 + 1 by omega) _
    refine ⟨(up_keepsFrom hup).trans ((KeepsOthers.setCell _ _ _).from _), ⟨hb2, fun vv hvv => by rw [cs.cell, ← hvv, (unhide HS).cell]⟩, ?_, cs, (unhide HB).trans hb2⟩
    rw [unhide HY]
    exact (unhide ZB).set _
  case done =>
    rintro D ys W hD rfl ⟨hv, _, hB⟩ hK
    have z1 := hv.cell
    gi_wp2
    refine ⟨by simp, .inl ⟨_, _, rfl, run_takeDeferred hK, ?_⟩⟩
    refine ⟨.int .i64 (awK T0 (upTo (rp ps hb) (sidesN ps))), ?_, ⟨rfl, hB.trans (belowK_b (w := w) (Nat.le_refl _) W D _ _ (by omega) hK rfl rfl)⟩⟩
    simp [results, Try.f52, go_sem]
  case stop =>
    rintro D c pre W hD _ hf hK
    exact hf.elim
end Go.Proofs.Ytihckoenfklhpaa
