/- The division with the least load, so far: what the box of the best one holds, and what a round keeps. What both sides' Divide returns, in words. -/
import Derived.Test.YtepblnnebeglbaaRefDvs
import Derived.Test.YtepblnnebeglbaaSeqY
import Derived.Test.YtepblnnebeglbaaLate
import Derived.Test.YtepblnnebeglbaaShares
namespace Go.Proofs.Ytepblnnebeglbaa
open Go.RowKit Go.Proofs.Gn
/-- What a round keeps: every block of cells but B's. -/
def KpB (B : Nat) (W W' : World) : Prop := W.heap.size ≤ W'.heap.size ∧ ∀ k o, k ≠ B → W.heap[k]? = some o → o.isCells = true → W'.heap[k]? = some o
theorem kpB_refl (B : Nat) (W : World) : KpB B W W := ⟨Nat.le_refl _, fun _ _ _ h _ => h⟩
theorem kpB_trans {B : Nat} {X Y Z : World} (h : KpB B X Y) (k : KpB B Y Z) : KpB B X Z := ⟨Nat.le_trans h.1 k.1, fun i o hi ho hc => k.2 i o hi (h.2 i o hi ho hc) hc⟩
theorem kpB_up {B : Nat} {W W' : World} (h : Up W W') : KpB B W W' := ⟨h.size, fun k _ _ hk _ => (h.block k (Array.getElem?_eq_some_iff.1 hk).1).trans hk⟩
theorem kpB_set (B i : Nat) (W : World) (v : Value) : KpB B W (W.setCell ⟨B, i, none⟩ v) := ⟨by show W.heap.size ≤ (W.heap.modify _ _).size; rw [Array.size_modify]; exact Nat.le_refl _, fun k o hk h _ => (Below.heap_setCell W ⟨B, i, none⟩ v k hk).trans h⟩
theorem kpB_put (B : Nat) (W : World) (j : Nat) (_o o' : Obj) (h : W.heap[j]? = some _o) (hc : _o.isCells = false) : KpB B W (W.putObj j o') :=
  ⟨by simp, fun k ok _ hk hcc => by
    have : k ≠ j := fun e => by subst e; rw [h] at hk; cases hk; rw [hc] at hcc; cases hcc
    exact (World.putObj_heap_other this).trans hk⟩
theorem kpB_cell {B : Nat} {W W' : World} (h : KpB B W W') {a : Addr} (ha : a.block ≠ B) {v : Value} (hv : W.cell? a = some v) : W'.cell? a = some v := by
  obtain ⟨o, ho, hc⟩ := cells_of_cell hv
  exact (World.cell?_of_block (a := a) ((h.2 _ _ ha ho hc).trans ho.symm)).trans hv
theorem kpB_frozen {B : Nat} {W W' : World} (h : KpB B W W') {a : Addr} (ha : a.block ≠ B) {v : Value} (hv : W.cell? a = some v) : W'.frozen? a = W.frozen? a := by
  obtain ⟨o, ho, hc⟩ := cells_of_cell hv
  have e := (h.2 _ _ ha ho hc).trans ho.symm
  unfold World.frozen?
  rw [e]
theorem bx_kpB {B b : Nat} {W W' : World} {vs : List Value} (h : Bx W b vs) (k : KpB B W W') (hb : b ≠ B) : Bx W' b vs := fun i v hi =>
  ⟨kpB_cell k (a := ⟨b, i, none⟩) hb (h i v hi).1, (kpB_frozen k (a := ⟨b, i, none⟩) hb (h i v hi).1).trans (h i v hi).2⟩
theorem bx_own {b : Nat} {W W' : World} {row : Option Nat} {vs : List Value} (h : Bx W b vs) (hg : W.grownBy W' row) (hr : ∀ r, row = some r → ∃ o : Obj, W.heap[r]? = some o ∧ o.isCells = false) : Bx W' b vs := fun i v hi =>
  ⟨cell_kept (h i v hi).1 hg hr, (frozen_kept (h i v hi).1 hg hr).trans (h i v hi).2⟩
theorem supsO_kpB {B b off : Nat} {W W' : World} {ps : List Gs.Sup} (h : SupsO W b off ps) (k : KpB B W W') (hb : b ≠ B) : SupsO W' b off ps := fun i hi => by
  have t := h i hi
  unfold SupAt at t ⊢
  obtain ⟨t0, t1, t2, t3, t4, t5⟩ := t
  exact ⟨kpB_cell k hb t0, kpB_cell k hb t1, kpB_cell k hb t2, kpB_cell k hb t3, kpB_cell k hb t4, kpB_cell k hb t5⟩
/-- The best division so far, with where its groups lie. -/
abbrev BestA := Option (Nat × List Int × Int)
def beV (n : Nat) : BestA → List Value
  | none => [.slice none 0 0, .int .i64 0]
  | some (g, _, v) => [slV n g, .int .i64 v]
/-- The box B holds the best division, whose groups lie in a block of their own. -/
def BeAt (n B : Nat) (b : BestA) (W : World) : Prop := Bx W B (beV n b) ∧ ∀ g d v, b = some (g, d, v) → Bx W g (cellsI d) ∧ g ≠ B
theorem beAt_own (n B : Nat) (b : BestA) {W W' : World} {row : Option Nat} (h : BeAt n B b W) (hg : W.grownBy W' row) (hr : ∀ r, row = some r → ∃ o : Obj, W.heap[r]? = some o ∧ o.isCells = false) : BeAt n B b W' :=
  ⟨bx_own h.1 hg hr, fun g d v e => ⟨bx_own (h.2 g d v e).1 hg hr, (h.2 g d v e).2⟩⟩
theorem beAt_up {n B : Nat} {b : BestA} {W W' : World} (h : BeAt n B b W) (hu : Up W W') : BeAt n B b W' :=
  ⟨bx_up h.1 hu, fun g d v e => ⟨bx_up (h.2 g d v e).1 hu, (h.2 g d v e).2⟩⟩
theorem beAt_set {n B : Nat} {b : BestA} {W : World} (h : BeAt n B b W) {g : Nat} {d : List Int} (hd : Bx W g (cellsI d)) (hg : g ≠ B) (v : Int) : BeAt n B (some (g, d, v)) ((W.setCell ⟨B, 0, none⟩ (slV n g)).setCell ⟨B, 1, none⟩ (.int .i64 v)) := by
  refine ⟨?_, fun g' d' v' e => ?_⟩
  · have t := bx_set (bx_set h.1 0 (slV n g)) 1 (.int .i64 v)
    cases b with
    | none => exact t
    | some x => obtain ⟨g0, d0, v0⟩ := x; exact t
  · cases e
    exact ⟨bx_far (bx_far hd (p := ⟨B, 0, none⟩) (fun e => hg e.symm) _) (p := ⟨B, 1, none⟩) (fun e => hg e.symm) _, hg⟩
/-! ### The mathematics of the search -/
theorem bAll_app (ok : List Int → Bool) (v : List Int → Int) (b : Best) (D E : List (List Int)) : bAll ok v b (D ++ E) = bAll ok v (bAll ok v b D) E := by unfold bAll; rw [List.foldl_append]
theorem bAll_snoc (ok : List Int → Bool) (v : List Int → Int) (b : Best) (D : List (List Int)) (d : List Int) : bAll ok v b (D ++ [d]) = bStep (bAll ok v b D) d (ok d) (v d) := by rw [bAll_app]; rfl
theorem dvs_len {ps : List Gs.Sup} {l : List Nat} : ∀ d ∈ dvs ps l, d.length = ps.length := by
  intro d hd
  unfold dvs at hd
  obtain ⟨i, _, hi⟩ := List.mem_flatMap.1 hd
  simp at hi
  rcases hi with rfl | rfl <;> simp [dvI]
/-- The heaviest load of a division. -/
def hvV (ps : List Gs.Sup) (m X Y : Int) (d : List Int) : Int := max (shV (grp ps d) m X Y (up m (paD (grp ps d)) (pa0 (grp ps d) X Y))) (max (shV (grp ps d) m X Y (up m (paD (grp ps d)) (pa1 (grp ps d) X Y))) (shV (grp ps d) m X Y (up m (paD (grp ps d)) (pa2 (grp ps d) X Y))))
def hvB (ps : List Gs.Sup) (m X Y : Int) (d : List Int) : Bool := shE (grp ps d) m X Y == 0
theorem hv_least {ps : List Gs.Sup} {m X Y : Int} {d : List Int} (hd : d.length = ps.length) (h : hvB ps m X Y d = true) : up m ps.length 1 ≤ hvV ps m X Y d := by
  have t := load_least (q := grp ps d) (m := m) (X := X) (Y := Y) (by simpa [hvB] using h)
  rw [grp_len hd] at t
  exact t
/-- The best of all divisions. -/
def bestD (ps : List Gs.Sup) (m X Y : Int) (l : List Nat) : Best := bAll (hvB ps m X Y) (hvV ps m X Y) none (dvs ps l)
/-- The best one so far, with where it lies. -/
def bA (ok : List Int → Bool) (v : List Int → Int) : List (Nat × List Int) → BestA → BestA
  | [], b => b
  | x :: xs, b => bA ok v xs (if ok x.2 = true ∧ (b = none ∨ ∀ c, b = some c → v x.2 < c.2.2) then some (x.1, x.2, v x.2) else b)
theorem bA_snoc (ok : List Int → Bool) (v : List Int → Int) (x : Nat × List Int) : ∀ (xs : List (Nat × List Int)) (b : BestA), bA ok v (xs ++ [x]) b = (if ok x.2 = true ∧ (bA ok v xs b = none ∨ ∀ c, bA ok v xs b = some c → v x.2 < c.2.2) then some (x.1, x.2, v x.2) else bA ok v xs b)
  | [], _ => rfl
  | y :: xs, b => by simp only [List.cons_append, bA]; exact bA_snoc ok v x xs _
theorem bA_all (ok : List Int → Bool) (v : List Int → Int) : ∀ (xs : List (Nat × List Int)) (b : BestA), (bA ok v xs b).map (·.2) = bAll ok v (b.map (·.2)) (xs.map (·.2))
  | [], _ => rfl
  | x :: xs, b => by
    rw [bA, List.map_cons, bAll_cons, bA_all]
    congr 1
    unfold bStep
    cases b with
    | none => simp only [true_or, and_true, Option.map_none]; split <;> rfl
    | some c =>
      simp only [Option.map_some, reduceCtorEq, Option.some.injEq, false_or, forall_eq']
      split <;> rfl
theorem kpB_own {B : Nat} {W0 V V' : World} {row : Option Nat} (h : KpB B W0 V) (hg : V.grownBy V' row) (hr : ∀ r, row = some r → ∃ o : Obj, V.heap[r]? = some o ∧ o.isCells = false) : KpB B W0 V' :=
  ⟨Nat.le_trans h.1 hg.size, fun k o hk h0 hc => by
    have hV := h.2 k o hk h0 hc
    refine (hg.block k (Array.getElem?_eq_some_iff.1 hV).1 (fun e => ?_)).trans hV
    obtain ⟨o', ho', hc'⟩ := hr k e.symm
    rw [hV] at ho'; cases ho'; rw [hc] at hc'; cases hc'⟩
theorem bxA2 (W : World) (v1 v2 : List Value) (t1 t2 : TypeId) : Bx ((W.alloc (.cells v1.toArray t1)).alloc (.cells v2.toArray t2)) W.heap.size v1 ∧ Bx ((W.alloc (.cells v1.toArray t1)).alloc (.cells v2.toArray t2)) (W.heap.size + 1) v2 := by
  refine ⟨bx_alloc (bx_new W v1 t1) _, ?_⟩
  have t := bx_new (W.alloc (.cells v1.toArray t1)) v2 t2
  rwa [World.size_alloc] at t
theorem up_kf {B : Nat} {W W' : World} (h : Up W W') : KeepsFrom B W W' := ⟨h.size, fun _ _ _ hk _ => (h.block _ (Array.getElem?_eq_some_iff.1 hk).1).trans hk⟩
/-- The best division as a value. -/
def beA (n : Nat) : BestA → Value
  | none => .agg #[.slice none 0 0, .int .i64 0]
  | some (g, _, v) => .agg #[slV n g, .int .i64 v]
theorem bx_intsG {W : World} {g : Nat} {d : List Int} (h : Bx W g (cellsI d)) : Ints W (some ⟨g, 0, none⟩) d := by
  refine .inr ⟨g, 0, rfl, fun k hk => ?_⟩
  rw [Nat.zero_add]
  exact (h k (.int .i64 d[k]) (by unfold cellsI; simp [hk])).1
/-- Stopped early, the best one is the best of all. -/
theorem best_stop {ok : List Int → Bool} {v : List Int → Int} {xs : List (Nat × List Int)} {g : Nat} {d : List Int} {L : Int} {D A : List (List Int)} (h1 : (xs ++ [(g, d)]).map (·.2) ++ D = A) (h2 : ∀ c, bA ok v xs none = some c → L < c.2.2) (h3 : ok d = true) (h4 : v d = L) (h5 : ∀ x ∈ A, ok x = true → L ≤ v x) : bAll ok v none A = some (d, L) := by
  have e : A = xs.map (·.2) ++ d :: D := by rw [← h1]; simp
  rw [e, bAll_app]
  refine bAll_stop (fun c hc => ?_) h3 h4 (fun x hx => h5 x (by rw [e]; simp [hx]))
  have t := bA_all ok v xs none
  rw [Option.map_none, hc] at t
  cases hb : bA ok v xs none with
  | none => rw [hb] at t; cases t
  | some c' =>
    rw [hb] at t
    obtain rfl : c'.2 = c := Option.some.inj t
    exact h2 c' hb
theorem bx_set2 {W : World} {b : Nat} {u0 u1 v0 v1 : Value} (h : Bx W b [u0, u1]) : Bx ((W.setCell ⟨b, 0, none⟩ v0).setCell ⟨b, 1, none⟩ v1) b [v0, v1] := bx_set (bx_set h 0 v0) 1 v1
/-- A row of slices is no list of numbers. -/
theorem bx_neS {W : World} {g B : Nat} {d : List Int} {v : Value} {vs : List Value} (h : Bx W g (cellsI d)) (h0 : 0 < d.length) (hB : Bx W B (v :: vs)) (hv : ∀ x, v ≠ .int .i64 x) : g ≠ B := fun e => by
  subst e
  have c1 := (h 0 (.int .i64 d[0]) (by unfold cellsI; simp [h0])).1
  have c2 := (hB 0 v rfl).1
  rw [c1] at c2
  exact hv _ (Option.some.inj c2).symm
/-- The best division has as many groups as there are supports. -/
theorem best_mem {ok : List Int → Bool} {v : List Int → Int} {c : List Int × Int} : ∀ {D : List (List Int)} {b : Best}, bAll ok v b D = some c → b = some c ∨ c.1 ∈ D
  | [], _, h => .inl h
  | d :: D, b, h => by
    rw [bAll_cons] at h
    rcases best_mem h with k | k
    · unfold bStep at k
      split at k
      · cases k; exact .inr (List.mem_cons_self ..)
      · exact .inl k
    · exact .inr (List.mem_cons_of_mem _ k)
theorem best_len {ok : List Int → Bool} {v : List Int → Int} {n : Nat} {D : List (List Int)} {be : BestA} (h : be.map (·.2) = bAll ok v none D) (hD : ∀ d ∈ D, d.length = n) (h0 : 0 < n) (g : Nat) (d : List Int) (x : Int) (e : be = some (g, d, x)) : 0 < d.length := by
  subst e
  rcases best_mem h.symm with k | k
  · cases k
  · rw [hD _ k]; exact h0
end Go.Proofs.Ytepblnnebeglbaa
namespace Go.Proofs.Ytepblnnebeglbaa
open Go.RowKit Go.Proofs.Gn
/-- The error of Divide. -/
def dvE (ps : List Gs.Sup) (m X Y : Int) (be : BestA) : Int := if boE ps m X Y = 0 then (if be.isSome then 0 else 15) else boE ps m X Y
/-- What Divide returns. -/
def DvPost (ps : List Gs.Sup) (m X Y : Int) (be : BestA) (W : World) : Prop :=
  (boE ps m X Y ≠ 0 → be = none) ∧ (boE ps m X Y = 0 → ∃ l : List Nat, l.Perm (List.range ps.length) ∧ l.Pairwise (ltS ps) ∧ be.map (·.2) = bestD ps m X Y l) ∧ ∀ g d v, be = some (g, d, v) → Bx W g (cellsI d)
theorem run_max3D {P : Program} (ts : Array TypeId) (t : TypeId) (x y z : Int) (w : World) : (Builtin.max_ ts t #[.int .i64 x, .int .i64 y, .int .i64 z]).run P w = .ok (.int .i64 (max x (max y z))) w := by
  have h : (Builtin.max_ ts t #[.int .i64 x, .int .i64 y, .int .i64 z]).run P w = .ok (.int .i64 (if z > (if y > x then y else x) then z else (if y > x then y else x))) w := by
    simp only [Builtin.max_, List.foldlM_cons, List.foldlM_nil, Builtin.max2, Sem.run_bind, Sem.run_pure, Result.andThen_ok]
  rw [h]
  congr 2
  split <;> split <;> omega
theorem bAll_take {ok : List Int → Bool} {v : List Int → Int} {D : List (List Int)} {k : Nat} (h : k < D.length) : bAll ok v none (D.take (k + 1)) = bStep (bAll ok v none (D.take k)) D[k] (ok D[k]) (v D[k]) := by
  rw [List.take_succ_eq_append_getElem h, bAll_snoc]
/-- A division that is not possible, or carries no less, changes nothing; another one is the best now. -/
theorem be_same {b : BestA} {B : Best} {d : List Int} {o : Bool} {v : Int} (h : b.map (·.2) = B) (hn : o = false ∨ ∃ c, b = some c ∧ ¬ v < c.2.2) : b.map (·.2) = bStep B d o v := by
  subst h
  rcases hn with rfl | ⟨c, rfl, hc⟩
  · rw [bStep_no]
  · cases o
    · rw [bStep_no]
    · rw [Option.map_some, bStep_ge hc]
theorem be_new {b : BestA} {B : Best} {d : List Int} {v : Int} (g : Nat) (h : b.map (·.2) = B) (hn : b = none ∨ ∃ c, b = some c ∧ v < c.2.2) : (some (g, d, v) : BestA).map (·.2) = bStep B d true v := by
  subst h
  rcases hn with rfl | ⟨c, rfl, hc⟩
  · show some (d, v) = bStep none d true v
    rw [bStep_none]
  · show some (d, v) = bStep (some c.2) d true v
    rw [bStep_lt hc]
theorem beV_cons (n : Nat) (b : BestA) : ∃ v u, beV n b = [v, u] ∧ ∀ x, v ≠ .int .i64 x := by
  cases b with
  | none => exact ⟨_, _, rfl, fun x e => by cases e⟩
  | some c => obtain ⟨g, d, v⟩ := c; exact ⟨_, _, rfl, fun x e => by cases e⟩
theorem hvB_no {ps : List Gs.Sup} {m X Y : Int} {d : List Int} (h : chE (grp ps d) ≠ 0) : hvB ps m X Y d = false := by
  unfold hvB
  rw [beq_eq_false_iff_ne]
  intro e
  unfold shE at e
  split at e
  · rename_i hb
    exact h (atE_ok (boE_ok hb).1).1
  · exact absurd e (by assumption)
end Go.Proofs.Ytepblnnebeglbaa
