/- Platforms on level and on raised ground: mathematics; rows of the call's own beside one another; a copy of the supports that is changed. -/
import Derived.Test.YtgjcpgmnflpdkaaStrokes
import Derived.Maps.AppendAt
namespace Go.Proofs.Ytgjcpgmnflpdkaa
open Go.RowKit Go.Proofs.Gn
/-! ### Supports with other cylinders -/
def md (s : Gs.Sup) : Gs.Sup := { s with lo := 0, hi := 4096 }
theorem md_ok {s : Gs.Sup} (h : Gs.okS s = true) : Gs.okS (md s) = true := by
  have := Gs.okS_yes h
  unfold Gs.okS md
  rw [decide_eq_true_iff]
  simp only
  omega
theorem md_cN (g : Int) (ps : List Gs.Sup) : Gs.cN g (ps.map md) = Gs.cN g ps ∧ Gs.cX g (ps.map md) = Gs.cX g ps ∧ Gs.cY g (ps.map md) = Gs.cY g ps := by
  induction ps with
  | nil => exact ⟨rfl, rfl, rfl⟩
  | cons s l ih =>
    simp only [List.map_cons, Gs.cN, Gs.cX, Gs.cY, ih.1, ih.2.1, ih.2.2]
    exact ⟨rfl, rfl, rfl⟩
theorem md_chE {ps : List Gs.Sup} (h : chE ps = 0) : chE (ps.map md) = 0 := by
  obtain ⟨a, b, c, d⟩ := chE_ok h
  have e : Gs.wh (ps.map md) = Gs.wh ps := by unfold Gs.wh; simp only [(md_cN _ ps).1, (md_cN _ ps).2.1, (md_cN _ ps).2.2]
  have o : Gs.okA (ps.map md) = true := by
    unfold Gs.okA at a ⊢
    rw [List.all_eq_true] at a ⊢
    intro x hx
    obtain ⟨y, hy, rfl⟩ := List.mem_map.1 hx
    exact md_ok (a y hy)
  unfold chE
  rw [List.length_map, if_neg (by omega), if_pos o, e, if_neg d]
/-! ### Sums of the ground -/
theorem gk_const {ps : List Gs.Sup} {gs : List Int} {v : Int} (h : gs.length = ps.length) (hv : ∀ k (hk : k < gs.length), gs[k] = v) (g : Int) (k : Nat) (hk : k ≤ ps.length) : gk g ps gs k = v * Gs.cN g (ps.take k) := by
  induction k with
  | zero => rw [gk_zero]; simp [Gs.cN]
  | succ k ih =>
    rw [gk_succ g (by omega) (by omega), ih (by omega), Gs.cN_take g (by omega), hv k (by omega)]
    split <;> grind
theorem gk_plus {ps : List Gs.Sup} {gs hs : List Int} {v : Int} (h : gs.length = ps.length) (h' : hs.length = ps.length) (hv : ∀ k (hk : k < gs.length) (hk' : k < hs.length), hs[k] = gs[k] + v) (g : Int) (k : Nat) (hk : k ≤ ps.length) : gk g ps hs k = gk g ps gs k + v * Gs.cN g (ps.take k) := by
  induction k with
  | zero => rw [gk_zero, gk_zero]; simp [Gs.cN]
  | succ k ih =>
    rw [gk_succ g (by omega) (by omega), gk_succ g (by omega) (by omega), ih (by omega), Gs.cN_take g (by omega), hv k (by omega) (by omega)]
    split <;> grind
theorem three_floors {a0 a1 a2 D s : Int} (hD : 1 ≤ D) (h : a0 + a1 + a2 = s * D) : s - 2 ≤ a0 / D + a1 / D + a2 / D ∧ a0 / D + a1 / D + a2 / D ≤ s := by
  have e0 := Int.emod_add_mul_ediv a0 D
  have e1 := Int.emod_add_mul_ediv a1 D
  have e2 := Int.emod_add_mul_ediv a2 D
  have l0 := Int.emod_nonneg a0 (show D ≠ 0 by omega)
  have l1 := Int.emod_nonneg a1 (show D ≠ 0 by omega)
  have l2 := Int.emod_nonneg a2 (show D ≠ 0 by omega)
  have u0 := Int.emod_lt_of_pos a0 (show 0 < D by omega)
  have u1 := Int.emod_lt_of_pos a1 (show 0 < D by omega)
  have u2 := Int.emod_lt_of_pos a2 (show 0 < D by omega)
  generalize a0 / D = q0 at *
  generalize a1 / D = q1 at *
  generalize a2 / D = q2 at *
  generalize a0 % D = r0 at *
  generalize a1 % D = r1 at *
  generalize a2 % D = r2 at *
  obtain ⟨t, ht⟩ : ∃ t, s - (q0 + q1 + q2) = t := ⟨_, rfl⟩
  have k : D * t = r0 + r1 + r2 := by rw [← ht]; grind
  have t0 : 0 ≤ t := by
    rcases Int.lt_or_le t 0 with x | x
    · have := Int.mul_le_mul_of_nonneg_left (show t ≤ -1 by omega) (show 0 ≤ D by omega)
      omega
    · exact x
  have t2 : t ≤ 2 := by
    rcases Int.lt_or_le 2 t with x | x
    · have := Int.mul_le_mul_of_nonneg_left (show 3 ≤ t by omega) (show 0 ≤ D by omega)
      omega
    · exact x
  omega
theorem six_floors {a0 a1 a2 b0 b1 b2 D v : Int} (hD : 1 ≤ D) (h : b0 + b1 + b2 = a0 + a1 + a2 + v * D) : a0 / D + a1 / D + a2 / D + v - 2 ≤ b0 / D + b1 / D + b2 / D ∧ b0 / D + b1 / D + b2 / D ≤ a0 / D + a1 / D + a2 / D + v + 2 := by
  have e0 := Int.emod_add_mul_ediv a0 D
  have e1 := Int.emod_add_mul_ediv a1 D
  have e2 := Int.emod_add_mul_ediv a2 D
  have e3 := Int.emod_add_mul_ediv b0 D
  have e4 := Int.emod_add_mul_ediv b1 D
  have e5 := Int.emod_add_mul_ediv b2 D
  have l0 := Int.emod_nonneg a0 (show D ≠ 0 by omega)
  have l1 := Int.emod_nonneg a1 (show D ≠ 0 by omega)
  have l2 := Int.emod_nonneg a2 (show D ≠ 0 by omega)
  have l3 := Int.emod_nonneg b0 (show D ≠ 0 by omega)
  have l4 := Int.emod_nonneg b1 (show D ≠ 0 by omega)
  have l5 := Int.emod_nonneg b2 (show D ≠ 0 by omega)
  have u0 := Int.emod_lt_of_pos a0 (show 0 < D by omega)
  have u1 := Int.emod_lt_of_pos a1 (show 0 < D by omega)
  have u2 := Int.emod_lt_of_pos a2 (show 0 < D by omega)
  have u3 := Int.emod_lt_of_pos b0 (show 0 < D by omega)
  have u4 := Int.emod_lt_of_pos b1 (show 0 < D by omega)
  have u5 := Int.emod_lt_of_pos b2 (show 0 < D by omega)
  generalize a0 / D = q0 at *
  generalize a1 / D = q1 at *
  generalize a2 / D = q2 at *
  generalize b0 / D = q3 at *
  generalize b1 / D = q4 at *
  generalize b2 / D = q5 at *
  generalize a0 % D = r0 at *
  generalize a1 % D = r1 at *
  generalize a2 % D = r2 at *
  generalize b0 % D = r3 at *
  generalize b1 % D = r4 at *
  generalize b2 % D = r5 at *
  obtain ⟨t, ht⟩ : ∃ t, q0 + q1 + q2 + v - (q3 + q4 + q5) = t := ⟨_, rfl⟩
  have k : D * t = r3 + r4 + r5 - (r0 + r1 + r2) := by rw [← ht]; grind
  have t0 : -2 ≤ t := by
    rcases Int.lt_or_le t (-2) with x | x
    · have := Int.mul_le_mul_of_nonneg_left (show t ≤ -3 by omega) (show 0 ≤ D by omega)
      omega
    · exact x
  have t2 : t ≤ 2 := by
    rcases Int.lt_or_le 2 t with x | x
    · have := Int.mul_le_mul_of_nonneg_left (show 3 ≤ t by omega) (show 0 ≤ D by omega)
      omega
    · exact x
  omega
theorem he_level {ps : List Gs.Sup} {gs : List Int} {f0 f1 f2 X Y s : Int} (hz : chE ps = 0) (h0 : f0 + gk 0 ps gs ps.length = s * Gs.cN 0 ps) (h1 : f1 + gk 1 ps gs ps.length = s * Gs.cN 1 ps) (h2 : f2 + gk 2 ps gs ps.length = s * Gs.cN 2 ps) : s - 2 ≤ heV ps gs f0 f1 f2 X Y ∧ heV ps gs f0 f1 f2 X Y ≤ s := by
  obtain ⟨p1, p2, _, _⟩ := pa_sum (chE_ok hz).2.2.2 X Y
  unfold heV hoS
  rw [h0, h1, h2]
  refine three_floors (by omega) ?_
  rw [← p2]
  grind
theorem he_plus {ps : List Gs.Sup} {gs hs : List Int} {f0 f1 f2 X Y v : Int} (hz : chE ps = 0) (h : ∀ g, gk g ps hs ps.length = gk g ps gs ps.length + v * Gs.cN g ps) : heV ps gs f0 f1 f2 X Y + v - 2 ≤ heV ps hs f0 f1 f2 X Y ∧ heV ps hs f0 f1 f2 X Y ≤ heV ps gs f0 f1 f2 X Y + v + 2 := by
  obtain ⟨p1, p2, _, _⟩ := pa_sum (chE_ok hz).2.2.2 X Y
  unfold heV hoS
  rw [h 0, h 1, h 2]
  refine six_floors (by omega) ?_
  rw [← p2]
  grind
/-! ### Rows beside one another -/
def Apart (a b : Value) : Prop := ∀ g, a.ownBlock = some g → b.ownBlock = some g → False
theorem apart_nil (b : Value) : Apart (.slice none 0 0) b := fun g h => by simp [Value.ownBlock] at h
theorem apart_symm {a b : Value} (h : Apart a b) : Apart b a := fun g x y => h g y x
theorem apart_new {W : World} {B e size n : Nat} {xs : List Value} {v1 v1' v2 : Value} (h2 : W.ownsRow B e size v2 n xs) (ha : Apart v1 v2) (hat : v1'.ownBlock = v1.ownBlock ∨ v1'.ownBlock = some W.heap.size) : Apart v1' v2 := by
  intro g x y
  rcases hat with e | e
  · exact ha g (by rw [← e]; exact x) y
  · rw [e] at x
    injection x with x
    have := (h2.lt g y).2
    omega
theorem own_beside {W W' : World} {B e size n : Nat} {xs : List Value} {v1 v2 : Value} (h2 : W.ownsRow B e size v2 n xs) (ha : Apart v1 v2) (hg : W.grownBy W' v1.ownBlock) : W'.ownsRow B e size v2 n xs := by
  refine h2.kept hg ?_
  cases h : v2.ownBlock with
  | none => exact .inl rfl
  | some g => exact .inr fun e => ha g e.symm h
/-! ### A copy of the supports that is changed -/
def cellsS (ps : List Gs.Sup) : List Value := ps.flatMap fun s => [.int .i64 s.x, .int .i64 s.y, .int .i64 s.g, .int .i64 s.lim, .int .i64 s.lo, .int .i64 s.hi]
theorem cellsS_length (ps : List Gs.Sup) : (cellsS ps).length = ps.length * 6 := by
  induction ps with
  | nil => rfl
  | cons s l ih => simp only [cellsS, List.flatMap_cons, List.length_append, List.length_cons, List.length_nil] at ih ⊢; omega
theorem cellsS_at {ps : List Gs.Sup} {k : Nat} (h : k < ps.length) : (cellsS ps)[k * 6]? = some (.int .i64 ps[k].x) ∧ (cellsS ps)[k * 6 + 1]? = some (.int .i64 ps[k].y) ∧ (cellsS ps)[k * 6 + 2]? = some (.int .i64 ps[k].g) ∧ (cellsS ps)[k * 6 + 3]? = some (.int .i64 ps[k].lim) ∧ (cellsS ps)[k * 6 + 4]? = some (.int .i64 ps[k].lo) ∧ (cellsS ps)[k * 6 + 5]? = some (.int .i64 ps[k].hi) := by
  induction ps generalizing k with
  | nil => simp at h
  | cons s l ih =>
    cases k with
    | zero => simp [cellsS]
    | succ k =>
      have t := ih (k := k) (by simpa using h)
      have e : ∀ i, (cellsS (s :: l))[(k + 1) * 6 + i]? = (cellsS l)[k * 6 + i]? := by
        intro i
        rw [show (k + 1) * 6 + i = 6 + (k * 6 + i) by omega]
        unfold cellsS
        rw [List.flatMap_cons, List.getElem?_append_right (by simp)]
        simp
      have e0 := e 0
      simp only [Nat.add_zero] at e0
      rw [e0, e 1, e 2, e 3, e 4, e 5]
      simpa using t
theorem cellsS_news {W : World} {b off : Nat} {ps : List Gs.Sup} (hc : ∀ k (h : k < ps.length), SupAt W b (off + k * 6) ps[k]) : ∀ j u, (cellsS ps)[j]? = some u → W.cell? ((⟨b, off, none⟩ : Addr).add j) = some u := by
  intro j u hj
  have hl : j < (cellsS ps).length := (List.getElem?_eq_some_iff.1 hj).1
  rw [cellsS_length] at hl
  have hk : j / 6 < ps.length := by omega
  obtain ⟨c0, c1, c2, c3, c4, c5⟩ := hc (j / 6) hk
  obtain ⟨d0, d1, d2, d3, d4, d5⟩ := cellsS_at hk
  have ea : (⟨b, off, none⟩ : Addr).add j = ⟨b, off + j, none⟩ := by
    unfold Addr.add
    split
    · rename_i h0; subst h0; rfl
    · rfl
  rw [ea]
  have hm : j % 6 = 0 ∨ j % 6 = 1 ∨ j % 6 = 2 ∨ j % 6 = 3 ∨ j % 6 = 4 ∨ j % 6 = 5 := by omega
  rcases hm with m | m | m | m | m | m
  · have ej : j / 6 * 6 = j := by omega
    rw [ej] at c0 d0; rw [d0] at hj; rw [← hj]; exact c0
  · have ej : j / 6 * 6 + 1 = j := by omega
    rw [Nat.add_assoc, ej] at c1; rw [ej] at d1; rw [d1] at hj; rw [← hj]; exact c1
  · have ej : j / 6 * 6 + 2 = j := by omega
    rw [Nat.add_assoc, ej] at c2; rw [ej] at d2; rw [d2] at hj; rw [← hj]; exact c2
  · have ej : j / 6 * 6 + 3 = j := by omega
    rw [Nat.add_assoc, ej] at c3; rw [ej] at d3; rw [d3] at hj; rw [← hj]; exact c3
  · have ej : j / 6 * 6 + 4 = j := by omega
    rw [Nat.add_assoc, ej] at c4; rw [ej] at d4; rw [d4] at hj; rw [← hj]; exact c4
  · have ej : j / 6 * 6 + 5 = j := by omega
    rw [Nat.add_assoc, ej] at c5; rw [ej] at d5; rw [d5] at hj; rw [← hj]; exact c5
/-- The first k supports of the copy at block g are changed. -/
def QAt (W : World) (g : Nat) (ps : List Gs.Sup) (k : Nat) : Prop := ∀ j (hj : j < ps.length), SupAt W g (0 + j * 6) (if j < k then md ps[j] else ps[j]) ∧ W.frozen? ⟨g, 0 + j * 6 + 4, none⟩ = false ∧ W.frozen? ⟨g, 0 + j * 6 + 5, none⟩ = false
theorem q_same {W W' : World} {g k : Nat} {ps : List Gs.Sup} (h : QAt W g ps k) (hb : W'.heap[g]? = W.heap[g]?) : QAt W' g ps k := by
  intro j hj
  obtain ⟨⟨c0, c1, c2, c3, c4, c5⟩, f0, f1⟩ := h j hj
  have e : ∀ o, W'.cell? ⟨g, o, none⟩ = W.cell? ⟨g, o, none⟩ := fun o => World.cell?_of_block (a := ⟨g, o, none⟩) hb
  have e' : ∀ o, W'.frozen? ⟨g, o, none⟩ = W.frozen? ⟨g, o, none⟩ := fun o => by simp [World.frozen?, hb]
  unfold SupAt
  simp only [e, e']
  exact ⟨⟨c0, c1, c2, c3, c4, c5⟩, f0, f1⟩
theorem q_new {W : World} {base e n g cap : Nat} {ps : List Gs.Sup} (h : W.ownsRow base e 6 (.slice (some ⟨g, 0, none⟩) n cap) n (cellsS ps)) : QAt W g ps 0 := by
  have hn : n = ps.length := by have := h.1; rw [cellsS_length] at this; omega
  subst hn
  intro j hj
  rw [if_neg (by omega)]
  obtain ⟨d0, d1, d2, d3, d4, d5⟩ := cellsS_at hj
  have c : ∀ i, i < 6 → W.cell? ⟨g, j * 6 + i, none⟩ = (cellsS ps)[j * 6 + i]? := fun i hi => h.cellAt (j * 6 + i) (by omega)
  have fz : ∀ o, W.frozen? ⟨g, o, none⟩ = false := by
    rcases h.2 with ⟨hx, _⟩ | ⟨g', cap', cur, e1, _, hg, _⟩
    · simp at hx
    · simp only [Value.slice.injEq, Option.some.injEq, Addr.mk.injEq, and_true, true_and] at e1
      obtain ⟨rfl, _⟩ := e1
      intro o
      simp [World.frozen?, hg]
  refine ⟨?_, fz _, fz _⟩
  unfold SupAt
  simp only [Nat.zero_add]
  have c0 := c 0 (by omega)
  simp only [Nat.add_zero] at c0
  rw [c0, c 1 (by omega), c 2 (by omega), c 3 (by omega), c 4 (by omega), c 5 (by omega)]
  exact ⟨d0, d1, d2, d3, d4, d5⟩
theorem q_step {W : World} {g k : Nat} {ps : List Gs.Sup} (h : QAt W g ps k) (hk : k < ps.length) : QAt ((W.setCell ⟨g, 0 + k * 6 + 4, none⟩ (.int .i64 0)).setCell ⟨g, 0 + k * 6 + 5, none⟩ (.int .i64 4096)) g ps (k + 1) := by
  intro j hj
  obtain ⟨⟨c0, c1, c2, c3, c4, c5⟩, f0, f1⟩ := h j hj
  have ot : ∀ (o : Nat) v, W.cell? ⟨g, o, none⟩ = some v → o ≠ 0 + k * 6 + 4 → o ≠ 0 + k * 6 + 5 → ((W.setCell ⟨g, 0 + k * 6 + 4, none⟩ (.int .i64 0)).setCell ⟨g, 0 + k * 6 + 5, none⟩ (.int .i64 4096)).cell? ⟨g, o, none⟩ = some v := by
    intro o v hv h1 h2
    rw [World.cell?_setCell_other, World.cell?_setCell_other]
    · exact hv
    · intro e; injection e with _ e _; omega
    · intro e; injection e with _ e _; omega
  have fz : ∀ o, W.frozen? ⟨g, o, none⟩ = false → ((W.setCell ⟨g, 0 + k * 6 + 4, none⟩ (.int .i64 0)).setCell ⟨g, 0 + k * 6 + 5, none⟩ (.int .i64 4096)).frozen? ⟨g, o, none⟩ = false := by
    intro o ho
    rw [World.frozen?_setCell, World.frozen?_setCell]
    exact ho
  refine ⟨?_, fz _ f0, fz _ f1⟩
  by_cases e : j = k
  · subst e
    rw [if_neg (by omega)] at c0 c1 c2 c3 c4 c5
    rw [if_pos (by omega)]
    have c4' : (W.setCell ⟨g, 0 + j * 6 + 4, none⟩ (.int .i64 0)).cell? ⟨g, 0 + j * 6 + 4, none⟩ = some (.int .i64 0) := by go_cell
    have c5' : (W.setCell ⟨g, 0 + j * 6 + 4, none⟩ (.int .i64 0)).cell? ⟨g, 0 + j * 6 + 5, none⟩ = some (.int .i64 ps[j].hi) := by
      rw [World.cell?_setCell_other]
      · exact c5
      · intro e; injection e with _ e _; omega
    refine ⟨ot _ _ c0 (by omega) (by omega), ot _ _ c1 (by omega) (by omega), ot _ _ c2 (by omega) (by omega), ot _ _ c3 (by omega) (by omega), ?_, ?_⟩
    · show _ = some (Value.int .i64 0)
      rw [World.cell?_setCell_other]
      · exact c4'
      · intro e; injection e with _ e _; omega
    · show _ = some (Value.int .i64 4096)
      go_cell
  · have hc : (if j < k + 1 then md ps[j] else ps[j]) = (if j < k then md ps[j] else ps[j]) := by
      by_cases x : j < k
      · rw [if_pos (by omega), if_pos x]
      · rw [if_neg (by omega), if_neg x]
    rw [hc]
    exact ⟨ot _ _ c0 (by omega) (by omega), ot _ _ c1 (by omega) (by omega), ot _ _ c2 (by omega) (by omega), ot _ _ c3 (by omega) (by omega), ot _ _ c4 (by omega) (by omega), ot _ _ c5 (by omega) (by omega)⟩
theorem q_sups {W : World} {g : Nat} {ps : List Gs.Sup} (h : QAt W g ps ps.length) : Sups W (some ⟨g, 0, none⟩) (ps.map md) := by
  refine .inr ⟨g, 0, rfl, fun k hk => ?_⟩
  rw [List.length_map] at hk
  have := (h k hk).1
  rw [if_pos hk] at this
  simpa using this
end Go.Proofs.Ytgjcpgmnflpdkaa
