/- A platform of at most twelve legs, as the laws of the top make it. A parameter that is a list of legs, opened. The hull of points, whether points are one, and whether one contains a point: what the program's functions return. What hull returns. The corners that are left of a sorted list when it turns to the left at each of them. The library's Compact at a list of points that the call itself has made: equal neighbours become one. The library's sort, reversal and copy at lists of points. -/
import Derived.Test.YthifcalemhpmoaaGreatPkOwn
import Derived.Test.YthifcalemhpmoaaGreatPkKp
import Derived.Test.YthifcalemhpmoaaGreatShelf
import Derived.Test.YthifcalemhpmoaaGreatPkWay
import Derived.Deep.DeepCutAuto
import Derived.WalkLawsBesides
import Derived.WalkSpells
import Derived.Deep.SlicePairs
import Derived.WideKeyArgs
import Derived.ProofKit
import Derived.OpenShut
import Derived.Lib.SmallJoins
import Derived.Test.YthifcalemhpmoaaGreatSup
import Derived.Test.YthifcalemhpmoaaGreatBx
import Derived.Test.YthifcalemhpmoaaGreatPkChR
import Derived.Deep.RegionLaw
import Derived.OwnWalk
namespace Go.Proofs.YthifcalemhpmoaaGreat
open Go.RowKit Go.Proofs.Gn Go.Shelf Go.Sort
def encP (x : Int × Int) : List Value := [.int .i64 x.1, .int .i64 x.2]
theorem flatK_encP (ps : Pl) : (flatK encP 2 ps.toArray).toList = cellsPl ps := by
  apply List.ext_getElem?
  intro i
  rcases Nat.lt_or_ge i (ps.length * 2) with h | h
  · have hs : (flatK encP 2 ps.toArray).size = ps.length * 2 := by simp
    have hg := get_flatK encP 2 ps.toArray i (by simpa using h)
    rw [getElem!_pos _ i (by rw [hs]; exact h)] at hg
    rw [Array.getElem?_toList, Array.getElem?_eq_getElem (by rw [hs]; exact h), hg]
    have hk : i / 2 < ps.length := by omega
    have c := cellsPl_at hk
    have ee : (ps.toArray)[i / 2]! = ps[i / 2] := by rw [getElem!_pos _ _ (by simpa using hk)]; simp
    rw [ee]
    rcases Nat.mod_two_eq_zero_or_one i with m | m
    · rw [m]
      have e : i = i / 2 * 2 := by omega
      rw [← e] at c
      rw [c.1]; rfl
    · rw [m]
      have e : i = i / 2 * 2 + 1 := by omega
      have c2 := c.2
      rw [← e] at c2
      rw [c2]; rfl
  · rw [List.getElem?_eq_none (by simp; omega), List.getElem?_eq_none (by rw [cellsPl_length]; omega)]
theorem own_holds {W : World} {base e n cap g : Nat} {ps : Pl} (h : W.ownsRow base e 2 (.slice (some ⟨g, 0, none⟩) n cap) n (cellsPl ps)) : HoldsK encP 2 W g 0 ps.toArray := by
  intro j hj
  have hl : (cellsPl ps).length = n * 2 := h.1
  have hl2 := hl
  rw [cellsPl_length] at hl2
  have hj2 : j < n * 2 := by simp at hj; omega
  rw [Nat.zero_add, h.cellAt j hj2, h.frozenAt j]
  refine ⟨?_, rfl⟩
  rw [getElem!_pos _ j hj, id, ← flatK_encP, Array.getElem?_toList, Array.getElem?_eq_getElem hj]
/-- Other points of the same number laid into the row. -/
theorem own_put {W : World} {base e n cap g m : Nat} {ps qs : Pl} {os : Array Obj} (h : W.ownsRow base e 2 (.slice (some ⟨g, 0, none⟩) n cap) n (cellsPl ps)) (hq : qs.length = ps.length) :
    (grow (putRowK encP 2 (Go.Sort.ahead W m) g 0 qs.toArray) os).ownsRow base e 2 (.slice (some ⟨g, 0, none⟩) n cap) n (cellsPl qs) := by
  have hn := own_len h
  rcases h with ⟨hl, h | ⟨g', cap', cur, e1, hb, hg, h1, h2, h3, h4⟩⟩
  · simp at h
  · simp only [Value.slice.injEq, Option.some.injEq, Addr.mk.injEq, and_true, true_and] at e1
    obtain ⟨rfl, rfl⟩ := e1
    have hlt : g < W.heap.size := (Array.getElem?_eq_some_iff.1 hg).1
    refine ⟨by rw [cellsPl_length]; omega, .inr ⟨g, cap, putCells id 0 (flatK encP 2 qs.toArray) cur, rfl, hb, ?_, h1, h2, by simp [putCells, h3], ?_⟩⟩
    · unfold grow putRowK putRow mapBlock
      simp only [Array.getElem?_append, Array.size_modify]
      have hlt2 : g < (Go.Sort.ahead W m).heap.size := hlt
      rw [if_pos hlt2]
      have hh : (Go.Sort.ahead W m).heap[g]? = some (.cells cur e (0, 0)) := hg
      rw [Array.getElem?_modify, if_pos rfl, hh]
      rfl
    · have hs : (flatK encP 2 qs.toArray).size = n * 2 := by simp [hq, hn]
      rw [← flatK_encP]
      apply List.ext_getElem?
      intro i
      have hcs : n * 2 ≤ cur.size := by rw [h3]; exact Nat.mul_le_mul_right _ h1
      rcases Nat.lt_or_ge i (n * 2) with k | k
      · rw [List.getElem?_take, if_pos k, Array.getElem?_toList]
        unfold putCells
        rw [Array.getElem?_mapIdx, Array.getElem?_eq_getElem (by omega)]
        simp only [Option.map_some, hs]
        rw [if_pos ⟨Nat.zero_le _, by omega⟩, Array.getElem?_toList, Array.getElem?_eq_getElem (by rw [hs]; exact k), Nat.sub_zero, getElem!_pos _ i (by rw [hs]; exact k)]
        rfl
      · rw [List.getElem?_take, if_neg (by omega), List.getElem?_eq_none (by simp at hs ⊢; omega)]
theorem below_put {W : World} {B g m : Nat} {qs : Pl} {os : Array Obj} (hg : B ≤ g) (hB : B ≤ W.heap.size) : Go.RowKit.Below B W (grow (putRowK encP 2 (Go.Sort.ahead W m) g 0 qs.toArray) os) := by
  refine ⟨rfl, rfl, rfl, by simp [putRowK, Go.Sort.ahead], fun k hk => ?_⟩
  unfold grow putRowK putRow mapBlock
  simp only [Array.getElem?_append, Array.size_modify]
  have : k < (Go.Sort.ahead W m).heap.size := by show k < W.heap.size; omega
  rw [if_pos this, Array.getElem?_modify, if_neg (by omega)]
  rfl
/-! ### Sorting -/
theorem swoP : SWO (ltOf fun a b : Int × Int => cmp2 a.1 a.2 b.1 b.2) where
  irrefl x := by unfold ltOf; rw [decide_eq_false_iff_not, cmp2_neg]; exact Gx.lt2_irrefl x
  trans x y z h1 h2 := by
    unfold ltOf at *
    rw [decide_eq_true_eq, cmp2_neg] at *
    exact Gx.lt2_trans h1 h2
  ntrans x y z h1 h2 := by
    unfold ltOf at *
    rw [decide_eq_false_iff_not, cmp2_neg] at *
    intro h
    rcases Gx.lt2_tri y x with k | k | k
    · exact h2 (Gx.lt2_trans k h)
    · subst k; exact h2 h
    · exact h1 k
theorem cmpLaysP (blk off size : Nat) (w : World) : CmpLays Tryz.prog 88 #[] encP 2 (fun a b : Int × Int => cmp2 a.1 a.2 b.1 b.2) blk off size w :=
  fun _ _ _ _ x y => (p_compareG x.1 x.2 y.1 y.2 _).mono fun _ _ ⟨he, hg⟩ => ⟨he, hg⟩
theorem encP_one : ∀ x, ∀ v ∈ encP x, v.oneCell' = true := fun x v hv => by simp [encP] at hv; rcases hv with rfl | rfl <;> rfl
theorem p_sort {B n cap g : Nat} {ps : Pl} (W : World) (h : W.ownsRow B 62 2 (.slice (some ⟨g, 0, none⟩) n cap) n (cellsPl ps)) (hB : B ≤ W.heap.size) (hg : B ≤ g) (hgl : g < W.heap.size) (hn : n ≤ 70000) :
    Calls Tryz.prog 87 #[.slice (some ⟨g, 0, none⟩) n cap, .func (.func 88) #[] #[]] W fun e w' => e = .returned (.tuple #[]) ∧
      ∃ qs : Pl, qs.Perm ps ∧ qs.Pairwise Gx.le2 ∧ w'.ownsRow B 62 2 (.slice (some ⟨g, 0, none⟩) n cap) n (cellsPl qs) ∧ Go.RowKit.Below B W w' := by
  have eg : ∀ args w, (callFunc 88 args).run Tryz.prog w = .ok (.enter 88 args) w := enters_of Tryz.func88 (by kernel_rfl) rfl
  have hln := own_len h
  have hcon := AnyQ.slices_SortFunc Tryz.sortP 2 Tryz.isAgg62 Tryz.sizeOf62 encP (fun _ => rfl) encP_one (fun a b : Int × Int => cmp2 a.1 a.2 b.1 b.2) swoP 88 #[] g 0 cap ps.toArray W eg (cmpLaysP g 0 _ W) (own_holds h) hgl (by simp; omega)
  change Calls Tryz.prog 87 _ _ _ at hcon
  have e1 : (ps.toArray).size = n := by simp [hln]
  rw [e1] at hcon
  refine hcon.mono fun e w' ⟨he, d', m, os, hp, hs, hw⟩ => ⟨he, d'.toList, ?_, ?_, ?_, ?_⟩
  · obtain ⟨h1, _, h3⟩ := hp
    have h1' : d'.size = n := by rw [h1, e1]
    rw [← h1'] at h3
    simp only [Array.extract_size] at h3
    have : (ps.toArray).extract 0 d'.size = ps.toArray := by rw [h1', ← e1, Array.extract_size]
    rw [this] at h3
    simpa using h3
  · have h1' : d'.size = n := by rw [hp.1, e1]
    rw [List.pairwise_iff_getElem]
    intro i j hi hj hij
    have k := hs i j (Nat.zero_le _) hij (by simp at hj; omega)
    rw [getElem!_pos d' i (by simpa using hi), getElem!_pos d' j (by simpa using hj)] at k
    unfold ltOf at k
    rw [decide_eq_false_iff_not, cmp2_neg] at k
    simp only [Array.getElem_toList]
    rcases Gx.lt2_tri d'[i] d'[j] with t | t | t
    · exact .inr t
    · exact .inl t
    · exact absurd t k
  · have h1' : d'.toList.length = ps.length := by have := hp.1; simp at this ⊢; omega
    have := own_put (m := m) (os := os) h h1'
    rw [Array.toArray_toList] at this
    rw [hw]; exact this
  · have := below_put (W := W) (m := m) (qs := d'.toList) (os := os) hg hB
    rw [Array.toArray_toList] at this
    rw [hw]; exact this
theorem p_reverse {B n cap g : Nat} {ps : Pl} (W : World) (h : W.ownsRow B 62 2 (.slice (some ⟨g, 0, none⟩) n cap) n (cellsPl ps)) (hB : B ≤ W.heap.size) (hg : B ≤ g) (hn : n ≤ 70000) :
    Calls Tryz.prog 91 #[.slice (some ⟨g, 0, none⟩) n cap] W fun e w' => e = .returned (.tuple #[]) ∧
      w'.ownsRow B 62 2 (.slice (some ⟨g, 0, none⟩) n cap) n (cellsPl ps.reverse) ∧ Go.RowKit.Below B W w' ∧ W.grownBy w' (some g) := by
  have hln := own_len h
  have hcon := AnyQ.slices_Reverse Tryz.revP 2 Tryz.isAgg62 Tryz.sizeOf62 encP (fun _ => rfl) encP_one g 0 cap ps.toArray W (own_holds h) (by simp; omega)
  change Calls Tryz.prog 91 _ _ _ at hcon
  have e1 : (ps.toArray).size = n := by simp [hln]
  rw [e1] at hcon
  refine hcon.mono fun e w' ⟨he, m, hw⟩ => ⟨he, ?_, ?_, ?_⟩
  · have := own_put (m := m) (os := #[]) (qs := ps.reverse) h (by simp)
    rw [grow_empty] at this
    rw [hw]; simpa using this
  · have := below_put (W := W) (m := m) (qs := ps.reverse) (os := #[]) hg hB
    rw [grow_empty] at this
    rw [hw]; simpa using this
  · rw [hw]
    refine ⟨rfl, rfl, rfl, by simp [putRowK, Go.Sort.ahead], fun k hk hne => ?_⟩
    unfold putRowK putRow mapBlock
    have : g ≠ k := fun e => hne (by rw [e])
    simp only [Array.getElem?_modify]
    rw [if_neg this]
    rfl
theorem cells_at {w : World} {b off : Nat} {ps : Pl} (hc : ∀ k (h : k < ps.length), w.cell? ⟨b, off + k * 2, none⟩ = some (.int .i64 ps[k].1) ∧ w.cell? ⟨b, off + k * 2 + 1, none⟩ = some (.int .i64 ps[k].2)) :
    ∀ j u, (cellsPl ps)[j]? = some u → w.cell? ⟨b, off + j, none⟩ = some u := by
  intro j u hj
  have hl : j < ps.length * 2 := by rw [← cellsPl_length]; exact (List.getElem?_eq_some_iff.1 hj).1
  have hk : j / 2 < ps.length := by omega
  have c := cellsPl_at hk
  have d := hc _ hk
  rcases Nat.mod_two_eq_zero_or_one j with m | m
  · have e : j = j / 2 * 2 := by omega
    rw [← e] at c d
    rw [c.1] at hj
    rw [d.1, ← hj]
  · have e : j / 2 * 2 + 1 = j := by omega
    have c2 := c.2
    have d2 := d.2
    rw [Nat.add_assoc, e] at d2
    rw [e] at c2
    rw [c2] at hj
    rw [d2, ← hj]
theorem cellsPl_one (ps : Pl) : ∀ u ∈ cellsPl ps, u.oneCell' = true := by
  intro u hu
  simp only [cellsPl, List.mem_flatMap] at hu
  obtain ⟨p, _, hp⟩ := hu
  exact encP_one p u hp
theorem p_clone (A : Option Addr) (ps : Pl) (cap : Nat) (W : World) (h : Pts W A ps) (h0 : 0 < ps.length) (hn : ps.length ≤ 70000) :
    Calls Tryz.prog 86 #[.slice A ps.length cap] W fun e w' => ∃ v, e = .returned v ∧ w'.ownsRow W.heap.size 62 2 v ps.length (cellsPl ps) ∧ Go.RowKit.Below W.heap.size W w' := by
  rcases h with rfl | ⟨b, off, rfl, hc⟩
  · simp at h0
  obtain ⟨i0, hi, hz0, hz1, hz2⟩ := info_parts info_pt
  have hcon := AnyE.slices_Clone Tryz.cloneP i0 _ 2 16 hi hz0 hz1 hz2 rfl (by decide) Tryz.sizeOf62 b off ps.length cap (cellsPl ps) W (cellsPl_length ps) (by unfold maxLen; omega) (by omega) (cells_at hc) (cellsPl_one ps)
  change Calls Tryz.prog 86 _ _ _ at hcon
  exact hcon.mono fun e w' ⟨v, he, ho, _, hb⟩ => ⟨v, he, ho, hb⟩
end Go.Proofs.YthifcalemhpmoaaGreat
namespace Go.Proofs.YthifcalemhpmoaaGreat
open Go.RowKit Go.Proofs.Gn
open Gx (dedup)
theorem dedup_snoc : ∀ (l : Pl) (a b : Int × Int), dedup (l ++ [a, b]) = if a = b then dedup (l ++ [a]) else dedup (l ++ [a]) ++ [b] := by
  intro l
  induction l with
  | nil =>
    intro a b
    simp only [List.nil_append, dedup]
    split
    · rename_i h; subst h; rfl
    · rfl
  | cons x l ih =>
    intro a b
    match l, ih with
    | [], ih =>
      have := ih a b
      simp only [List.nil_append] at this
      simp only [List.cons_append, List.nil_append]
      unfold dedup
      split
      · rename_i h
        subst h
        exact this
      · rw [this]
        split
        · rfl
        · rfl
    | y :: l, ih =>
      have := ih a b
      simp only [List.cons_append] at this ⊢
      conv => lhs; unfold dedup
      conv => rhs; unfold dedup
      split
      · exact this
      · rw [this]
        split <;> rfl
theorem dedup_take {ps : Pl} {k : Nat} (h0 : 0 < k) (h : k < ps.length) : dedup (ps.take (k + 1)) = if Gx.g ps (k - 1) = Gx.g ps k then dedup (ps.take k) else dedup (ps.take k) ++ [Gx.g ps k] := by
  obtain ⟨j, rfl⟩ : ∃ j, k = j + 1 := ⟨k - 1, by omega⟩
  have e1 : ps.take (j + 1 + 1) = ps.take j ++ [ps[j], ps[j + 1]] := by
    rw [List.take_succ_eq_append_getElem h, List.take_succ_eq_append_getElem (by omega), List.append_assoc]; rfl
  have e2 : ps.take (j + 1) = ps.take j ++ [ps[j]] := by rw [List.take_succ_eq_append_getElem (by omega)]
  rw [e1, dedup_snoc, Gx.g_eq h, Nat.add_sub_cancel, Gx.g_eq (by omega), e2]
theorem dedup_len : ∀ l : Pl, (dedup l).length ≤ l.length := by
  intro l
  induction l with
  | nil => exact Nat.le_refl _
  | cons a l ih =>
    match l, ih with
    | [], _ => exact Nat.le_refl _
    | b :: t, ih =>
      unfold dedup
      split
      · exact Nat.le_trans ih (by simp)
      · simp only [List.length_cons] at ih ⊢; omega
/-- Where the library stands behind the first equal neighbours: d points are kept of the first k + j. -/
def Inn (B : Nat) (W : World) (n k : Nat) (ps : Pl) (g cap : Nat) (wx : World) (d j : Nat) : Prop :=
  ∃ cur : Pl, d = (dedup (ps.take (k + j))).length ∧ d + 1 ≤ k + j ∧ cur.take d = dedup (ps.take (k + j)) ∧ (∀ t, k + j ≤ t + 1 → t < n → Gx.g cur t = Gx.g ps t) ∧
    wx.ownsRow B 62 2 (.slice (some ⟨g, 0, none⟩) n cap) n (cellsPl cur) ∧ Below B W wx
theorem cellsPl_set2 {ps : Pl} {k : Nat} (h : k < ps.length) (x y : Int) : ((cellsPl ps).set (k * 2) (.int .i64 x)).set (k * 2 + 1) (.int .i64 y) = cellsPl (ps.set k (x, y)) := by
  induction ps generalizing k with
  | nil => simp at h
  | cons p ps ih =>
    cases k with
    | zero => rfl
    | succ k =>
      have := ih (k := k) (by simpa using h)
      rw [show (k + 1) * 2 = k * 2 + 2 by omega, show k * 2 + 2 + 1 = k * 2 + 1 + 2 by omega]
      show .int .i64 p.1 :: .int .i64 p.2 :: ((cellsPl ps).set (k * 2) (.int .i64 x)).set (k * 2 + 1) (.int .i64 y) = _
      rw [this]
      rfl
theorem g_set_ne {l : Pl} {i j : Nat} {x : Int × Int} (h : i ≠ j) : Gx.g (l.set i x) j = Gx.g l j := by
  unfold Gx.g
  rw [List.getD_eq_getElem?_getD, List.getD_eq_getElem?_getD, List.getElem?_set_ne h]
theorem inn_same {B : Nat} {W : World} {n k : Nat} {ps : Pl} {g cap : Nat} {wx w' : World} {d j : Nat} (h : Inn B W n k ps g cap wx d j) (e : dedup (ps.take (k + j + 1)) = dedup (ps.take (k + j))) (hu : Up wx w') (hB : B ≤ W.heap.size) : Inn B W n k ps g cap w' d (j + 1) := by
  obtain ⟨cur, f1, f2, f3, f4, f5, f6⟩ := h
  exact ⟨cur, by rw [← Nat.add_assoc, e]; exact f1, by omega, by rw [← Nat.add_assoc, e]; exact f3, fun t h1 h2 => f4 t (by omega) h2, own_up f5 hu, below_up f6 hB hu⟩
theorem inn_step {B : Nat} {W : World} {n k : Nat} {ps : Pl} {g cap : Nat} {wx w' : World} {d j : Nat} {x y : Int} (h : Inn B W n k ps g cap wx d j) (e : dedup (ps.take (k + j + 1)) = dedup (ps.take (k + j)) ++ [(x, y)]) (hu : Up wx w') (hB : B ≤ W.heap.size) (hg : B ≤ g) (hkj : k + j < n) :
    Inn B W n k ps g cap ((w'.setCell ⟨g, d * 2, none⟩ (.int .i64 x)).setCell ⟨g, d * 2 + 1, none⟩ (.int .i64 y)) (d + 1) (j + 1) := by
  obtain ⟨cur, f1, f2, f3, f4, f5, f6⟩ := h
  have hl := own_len f5
  have f5' := own_up f5 hu
  have s1 := ((f5'.stored (d * 2) (.int .i64 x)).1.stored (d * 2 + 1) (.int .i64 y)).1
  rw [cellsPl_set2 (by omega)] at s1
  refine ⟨cur.set d (x, y), by rw [← Nat.add_assoc, e, List.length_append, ← f1]; rfl, by omega, ?_, fun t h1 h2 => ?_, s1, ?_⟩
  · rw [← Nat.add_assoc, e, ← f3, List.take_succ_eq_append_getElem (by simp; omega), List.take_set, List.set_eq_of_length_le (by rw [List.length_take]; omega)]
    simp
  · rw [g_set_ne (by omega)]
    exact f4 t (by omega) h2
  · exact ((below_up f6 hB hu).setCell hg _).setCell hg _
theorem own_setCells {B T d cap g : Nat} {xs : List Value} : ∀ (vs : List Value) (W : World) (o : Nat), W.ownsRow B T 2 (.slice (some ⟨g, 0, none⟩) d cap) d xs → d * 2 ≤ o → B ≤ g →
    (W.setCells g o vs).ownsRow B T 2 (.slice (some ⟨g, 0, none⟩) d cap) d xs ∧ Below B W (W.setCells g o vs) := by
  intro vs
  induction vs with
  | nil => intro W o h _ _; exact ⟨h, Below.refl _ _⟩
  | cons v r ih =>
    intro W o h ho hg
    have s1 := (h.stored o v).1
    rw [List.set_eq_of_length_le (by rw [h.1]; exact ho)] at s1
    have := ih _ (o + 1) s1 (by omega) hg
    exact ⟨this.1, ((Below.refl B W).setCell (p := ⟨g, o, none⟩) hg v).trans this.2⟩
theorem run_clear_pts (W : World) (ty : TypeId) (b o n c : Nat) (hn : 0 < n) (hc : ∀ j, j < n * 2 → (W.cell? ⟨b, o + j, none⟩).isSome = true) (hf : ∀ j, j < n * 2 → W.frozen? ⟨b, o + j, none⟩ = false) :
    ∃ vs, (Builtin.clear_ #[63] ty #[.slice (some ⟨b, o, none⟩) n c]).run Tryz.prog W = .ok (.tuple #[]) (W.setCells b o vs) := by
  have hz : ∀ v ∈ (Builtin.zeroCells (Value.agg #[Value.int IntKind.i64 0, Value.int IntKind.i64 0]).cells n).toList, v.oneCell' = true := by
    intro v hv
    simp only [Builtin.zeroCells, Array.mem_toList_iff, Array.mem_map, Array.mem_range] at hv
    obtain ⟨i, hi, rfl⟩ := hv
    have : i % (Value.agg #[Value.int IntKind.i64 0, Value.int IntKind.i64 0]).cells.size < 2 := Nat.mod_lt _ (by decide)
    generalize i % (Value.agg #[Value.int IntKind.i64 0, Value.int IntKind.i64 0]).cells.size = r at this ⊢
    match r, this with
    | 0, _ => rfl
    | 1, _ => rfl
  have hl : (Builtin.zeroCells (Value.agg #[Value.int IntKind.i64 0, Value.int IntKind.i64 0]).cells n).toList.length = n * 2 := by
    rw [Array.length_toList, size_zeroCells]; rfl
  refine ⟨(Builtin.zeroCells (Value.agg #[Value.int IntKind.i64 0, Value.int IntKind.i64 0]).cells n).toList, ?_⟩
  have hst := run_storeCells_cells (P := Tryz.prog) b o (Builtin.zeroCells (Value.agg #[Value.int IntKind.i64 0, Value.int IntKind.i64 0]).cells n).toList 0 W (by rw [hl]; simpa using hc) (by rw [hl]; simpa using hf) hz
  rw [Nat.add_zero] at hst
  obtain ⟨m, rfl⟩ : ∃ m, n = m + 1 := ⟨n - 1, by omega⟩
  simp [Builtin.clear_, run_underlying Tryz.underlying63, Tryz.zeroValue62, hst]
theorem p_compact1 {cap g : Nat} (W : World) :
    Calls Tryz.prog 89 #[.slice (some ⟨g, 0, none⟩) 1 cap] W fun e w' => e = .returned (.slice (some ⟨g, 0, none⟩) 1 cap) ∧ W = w' := by
  go_enter Tryz.func89, Tryz.ntmps89
  go_wp2
  go_ret
  exact ⟨rfl, rfl⟩
set_option maxRecDepth 100000 in
set_option maxHeartbeats 2000000 in
theorem p_compact {B n cap g : Nat} {ps : Pl} (W : World) (h : W.ownsRow B 62 2 (.slice (some ⟨g, 0, none⟩) n cap) n (cellsPl ps)) (hB : B ≤ W.heap.size) (hg : B ≤ g) (h2 : 2 ≤ n) (hn : n ≤ 70000) (hcap : n ≤ cap) (hcap2 : cap ≤ 9223372036854775807) :
    Calls Tryz.prog 89 #[.slice (some ⟨g, 0, none⟩) n cap] W fun e w' => e = .returned (.slice (some ⟨g, 0, none⟩) (dedup ps).length cap) ∧
      w'.ownsRow B 62 2 (.slice (some ⟨g, 0, none⟩) (dedup ps).length cap) (dedup ps).length (cellsPl (dedup ps)) ∧ Below B W w' := by
  have hln := own_len h
  have HO := hide h
  have HLN := hide hln
  clear h hln
  have g1 : (2 : Int) ≤ (n : Int) := by omega
  go_enter Tryz.func89, Tryz.ntmps89
  go_wp2_with fail
  go_loopw [3] (fun i wr => ∃ k : Nat, 1 ≤ k ∧ k ≤ n ∧ i = .int .i64 k ∧ Up W wr ∧ dedup (ps.take k) = ps.take k) (fun i _ => n - (intOf i).toNat)
  case atStart => exact ⟨1, by omega, by omega, rfl, up_refl _, by
    match ps with
    | [] => rfl
    | a :: t => rfl⟩
  case round =>
    obtain ⟨k, k1, kn, rfl, hu, hd⟩ := hrel
    by_cases hlt : k < n
    · have hl : k < ps.length := by rw [← unhide HLN]; exact hlt
      have hc := own_cells (own_up (unhide HO) hu)
      obtain ⟨a0, a1⟩ := pts_g hc (k := k - 1) (by omega)
      obtain ⟨b0, b1⟩ := pts_g hc (k := k) hl
      have hdt := dedup_take k1 hl
      have ht : ps.take k ++ [Gx.g ps k] = ps.take (k + 1) := by rw [List.take_succ_eq_append_getElem hl, Gx.g_eq hl]
      obtain ⟨P, hP⟩ : ∃ P, Gx.g ps (k - 1) = P := ⟨_, rfl⟩
      obtain ⟨Q, hQ⟩ : ∃ Q, Gx.g ps k = Q := ⟨_, rfl⟩
      rw [hP] at a0 a1 hdt
      rw [hQ] at b0 b1 hdt ht
      obtain ⟨p1, p2⟩ := P
      obtain ⟨q1, q2⟩ := Q
      simp only [Nat.zero_add] at a0 a1 b0 b1
      have HD := hide hd
      have HDT := hide hdt
      have HT := hide ht
      have j1 : IntKind.i64.wrap ((k : Int) - 1) = ((k - 1 : Nat) : Int) := by rw [IntWalk.i64_in _ ⟨by omega, by omega⟩]; omega
      have j2 : (k : Int) < (n : Int) := by omega
      have j3 : ((k - 1 : Nat) : Int) < (n : Int) := by omega
      clear hc hP hQ hd hdt ht
      have hcase : (q1 == p1) = false ∨ (q1 = p1 ∧ (q2 == p2) = false) ∨ (q1 = p1 ∧ q2 = p2) := by
        by_cases c1 : q1 = p1
        · by_cases c2 : q2 = p2
          · exact .inr (.inr ⟨c1, c2⟩)
          · exact .inr (.inl ⟨c1, by simpa using c2⟩)
        · exact .inl (by simpa using c1)
      rcases hcase with c | ⟨rfl, c⟩ | ⟨rfl, rfl⟩
      · have hd2 : dedup (ps.take (k + 1)) = ps.take (k + 1) := by
          rw [unhide HDT, if_neg (by intro e; simp at e; simp [e.1] at c), unhide HD, unhide HT]
        have HD2 := hide hd2
        clear hd2
        go_wp2_with fail
        go_quiet (fail)
        go_wp2_with fail
        go_roundw
        case rel => exact ⟨k + 1, by omega, by omega, by go_num, (by repeat' (first | (with_reducible exact up_refl _) | (with_reducible assumption) | (with_reducible refine up_alloc ?_ _) | (with_reducible refine up_drewN ?_ _) | (with_reducible refine up_drew ?_) | (with_reducible refine up_set ?_ (by first | (simp; done) | (simp; omega) | omega) _) | (refine up_trans ?_ (by with_reducible assumption)))), unhide HD2⟩
        case measure => simp [intOf]; omega
      · have hd2 : dedup (ps.take (k + 1)) = ps.take (k + 1) := by
          rw [unhide HDT, if_neg (by intro e; simp at e; simp [e] at c), unhide HD, unhide HT]
        have HD2 := hide hd2
        clear hd2
        go_wp2_with fail
        go_quiet (fail)
        go_wp2_with fail
        go_roundw
        case rel => exact ⟨k + 1, by omega, by omega, by go_num, (by repeat' (first | (with_reducible exact up_refl _) | (with_reducible assumption) | (with_reducible refine up_alloc ?_ _) | (with_reducible refine up_drewN ?_ _) | (with_reducible refine up_drew ?_) | (with_reducible refine up_set ?_ (by first | (simp; done) | (simp; omega) | omega) _) | (refine up_trans ?_ (by with_reducible assumption)))), unhide HD2⟩
        case measure => simp [intOf]; omega
      · have hd2 : dedup (ps.take (k + 1)) = ps.take k := by
          have := unhide HDT
          simp only [if_true] at this
          rw [this, unhide HD]
        have hlk : (ps.take k).length = k := by rw [List.length_take, ← unhide HLN]; omega
        go_wp2_with fail
        go_quiet (fail)
        go_wp2_with fail
        obtain ⟨L, hL⟩ : ∃ L, n - k = L := ⟨_, rfl⟩
        rw [hL]
        obtain ⟨wo, hwo⟩ : ∃ wo : World, wo = wr.drewN nq := ⟨_, rfl⟩
        have huo : Up W wo := by rw [hwo]; exact up_drewN hu _
        rw [← hwo]
        clear hwo
        have HS : Hid (Inn B W n k ps g cap wo k 1) := hide ⟨ps, by rw [hd2, hlk], Nat.le_refl _, by rw [hd2], fun _ _ _ => rfl, own_up (unhide HO) huo, huo.mono hB⟩
        clear hd2 hlk b0 b1 a0 a1 huo hu HT HD HDT
        go_loopw [3, 5] (fun i j wx => ∃ jn d : Nat, 1 ≤ jn ∧ jn ≤ L ∧ j = .int .i64 jn ∧ i = .int .i64 d ∧ Inn B W n k ps g cap wx d jn) (fun _ j _ => L - (intOf j).toNat)
        case atStart => exact ⟨1, k, by omega, by omega, rfl, rfl, unhide HS⟩
        case round =>
          obtain ⟨jn, d, e1, e2, rfl, rfl, hin⟩ := hrel
          have HIN := hide hin
          obtain ⟨cur, f1, f2, f3, f4, f5, f6⟩ := hin
          have f5l := own_len f5
          by_cases hlj : jn < L
          · obtain ⟨a0, a1⟩ := pts_g (own_cells f5) (k := k + jn) (by omega)
            obtain ⟨b0, b1⟩ := pts_g (own_cells f5) (k := k + (jn - 1)) (by omega)
            obtain ⟨d0, d1⟩ := pts_g (own_cells f5) (k := d) (by omega)
            have z0 := f5.frozenAt (d * 2)
            have z1 := f5.frozenAt (d * 2 + 1)
            rw [f4 (k + jn) (by omega) (by omega)] at a0 a1
            rw [f4 (k + (jn - 1)) (by omega) (by omega)] at b0 b1
            simp only [Nat.zero_add, Nat.add_mul] at a0 a1 b0 b1 d0 d1
            have hdt := dedup_take (ps := ps) (k := k + jn) (by omega) (by rw [← unhide HLN]; omega)
            rw [show k + jn - 1 = k + (jn - 1) by omega] at hdt
            obtain ⟨X, hX⟩ : ∃ X, Gx.g ps (k + jn) = X := ⟨_, rfl⟩
            obtain ⟨Y, hY⟩ : ∃ X, Gx.g ps (k + (jn - 1)) = X := ⟨_, rfl⟩
            rw [hX] at a0 a1 hdt
            rw [hY] at b0 b1 hdt
            obtain ⟨x1, x2⟩ := X
            obtain ⟨y1, y2⟩ := Y
            simp only at a0 a1 b0 b1
            have HDT := hide hdt
            have HX := hide hX
            have i1 : IntKind.i64.wrap ((jn : Int) - 1) = ((jn - 1 : Nat) : Int) := by rw [IntWalk.i64_in _ ⟨by omega, by omega⟩]; omega
            have i2 : (jn : Int) < (L : Int) := by omega
            have i3 : ((jn - 1 : Nat) : Int) < (L : Int) := by omega
            have i4 : (d : Int) < (n : Int) := by omega
            clear hdt hX hY f1 f3 f4 f5 f6
            have hcase : (x1 == y1) = false ∨ (x1 = y1 ∧ (x2 == y2) = false) ∨ (x1 = y1 ∧ x2 = y2) := by
              by_cases c1 : x1 = y1
              · by_cases c2 : x2 = y2
                · exact .inr (.inr ⟨c1, c2⟩)
                · exact .inr (.inl ⟨c1, by simpa using c2⟩)
              · exact .inl (by simpa using c1)
            rcases hcase with c | ⟨rfl, c⟩ | ⟨rfl, rfl⟩
            · have ed : dedup (ps.take (k + jn + 1)) = dedup (ps.take (k + jn)) ++ [(x1, x2)] := by
                rw [unhide HDT, if_neg (by intro e; simp at e; simp [e.1] at c)]
              have ST := hide (fun (w' : World) (hu : Up wr w') => inn_step (unhide HIN) ed hu hB hg (by omega))
              clear ed HDT
              go_wp2_with fail
              go_quiet (fail)
              go_wp2_with fail
              exact ⟨⟨jn + 1, d + 1, by omega, by omega, by go_num, by go_num, unhide ST _ (by repeat' (first | (with_reducible exact up_refl _) | (with_reducible assumption) | (with_reducible refine up_alloc ?_ _) | (with_reducible refine up_drewN ?_ _) | (with_reducible refine up_drew ?_) | (with_reducible refine up_set ?_ (by first | (simp; done) | (simp; omega) | omega) _) | (refine up_trans ?_ (by with_reducible assumption))))⟩, by simp [intOf]; omega⟩
            · have ed : dedup (ps.take (k + jn + 1)) = dedup (ps.take (k + jn)) ++ [(x1, x2)] := by
                rw [unhide HDT, if_neg (by intro e; simp at e; simp [e] at c)]
              have ST := hide (fun (w' : World) (hu : Up wr w') => inn_step (unhide HIN) ed hu hB hg (by omega))
              clear ed HDT
              go_wp2_with fail
              go_quiet (fail)
              go_wp2_with fail
              exact ⟨⟨jn + 1, d + 1, by omega, by omega, by go_num, by go_num, unhide ST _ (by repeat' (first | (with_reducible exact up_refl _) | (with_reducible assumption) | (with_reducible refine up_alloc ?_ _) | (with_reducible refine up_drewN ?_ _) | (with_reducible refine up_drew ?_) | (with_reducible refine up_set ?_ (by first | (simp; done) | (simp; omega) | omega) _) | (refine up_trans ?_ (by with_reducible assumption))))⟩, by simp [intOf]; omega⟩
            · have ed : dedup (ps.take (k + jn + 1)) = dedup (ps.take (k + jn)) := by
                rw [unhide HDT, if_pos rfl]
              have ST := hide (fun (w' : World) (hu : Up wr w') => inn_same (unhide HIN) ed hu hB)
              clear ed HDT
              go_wp2_with fail
              go_quiet (fail)
              go_wp2_with fail
              exact ⟨⟨jn + 1, d, by omega, by omega, by go_num, rfl, unhide ST _ (by repeat' (first | (with_reducible exact up_refl _) | (with_reducible assumption) | (with_reducible refine up_alloc ?_ _) | (with_reducible refine up_drewN ?_ _) | (with_reducible refine up_drew ?_) | (with_reducible refine up_set ?_ (by first | (simp; done) | (simp; omega) | omega) _) | (refine up_trans ?_ (by with_reducible assumption))))⟩, by simp [intOf]; omega⟩
          · obtain rfl : jn = L := by omega
            have ek : k + jn = n := by omega
            have ep : ps.take n = ps := List.take_of_length_le (by rw [← unhide HLN]; exact Nat.le_refl _)
            rw [ek, ep] at f1 f3
            have fz := fun j => f5.frozenAt j
            obtain ⟨vs, hvs⟩ := run_clear_pts wr 0 g (d * 2) (n - d) (cap - d) (by omega) (fun j hj => by
              rw [f5.cellAt _ (by omega)]
              have : d * 2 + j < (cellsPl cur).length := by rw [cellsPl_length]; omega
              rw [List.getElem?_eq_getElem this]; rfl) (fun j _ => fz _)
            have f7 := own_setCells vs wr (d * 2) (own_prefix f5 (m := d) (by omega)) (Nat.le_refl _) hg
            rw [cellsPl_take, f3] at f7
            have F7 := hide (show _ ∧ Below B W (wr.setCells g (d * 2) vs) from ⟨f7.1, f6.trans f7.2⟩)
            obtain ⟨WS, hWS⟩ : ∃ WS, wr.setCells g (d * 2) vs = WS := ⟨_, rfl⟩
            rw [hWS] at hvs F7
            have F1 := hide f1
            have i4 : (d : Int) < (n : Int) := by omega
            have i5 : d < n := by omega
            have i6 : d ≤ cap := by omega
            clear f1 f3 f4 f5 f6 f5l f7 fz hWS ep ek
            go_wp2_with fail
            go_ret
            rw [← unhide F1]
            exact ⟨rfl, unhide F7⟩
    · obtain rfl : k = n := by omega
      have e : dedup ps = ps := by
        have := hd
        rwa [List.take_of_length_le (by rw [← unhide HLN]; exact Nat.le_refl _)] at this
      have HF : Hid ((dedup ps).length = k) := hide (by rw [e]; exact (unhide HLN).symm)
      have HE := hide e
      clear hd e
      go_wp2_with fail
      go_ret
      refine ⟨?_, ?_, hu.mono hB⟩
      · rw [unhide HF]; rfl
      · rw [unhide HF, unhide HE]; exact own_up (unhide HO) hu
theorem p_compact_any {B n cap g : Nat} {ps : Pl} (W : World) (h : W.ownsRow B 62 2 (.slice (some ⟨g, 0, none⟩) n cap) n (cellsPl ps)) (hB : B ≤ W.heap.size) (hg : B ≤ g) (h1 : 1 ≤ n) (hn : n ≤ 70000) (hcap : n ≤ cap) (hcap2 : cap ≤ 9223372036854775807) :
    Calls Tryz.prog 89 #[.slice (some ⟨g, 0, none⟩) n cap] W fun e w' => e = .returned (.slice (some ⟨g, 0, none⟩) (dedup ps).length cap) ∧
      w'.ownsRow B 62 2 (.slice (some ⟨g, 0, none⟩) (dedup ps).length cap) (dedup ps).length (cellsPl (dedup ps)) ∧ Below B W w' := by
  rcases Nat.lt_or_ge n 2 with h2 | h2
  · obtain rfl : n = 1 := by omega
    have hl := own_len h
    match ps, hl with
    | [p], _ => exact (p_compact1 W).mono fun e w' ⟨he, hw⟩ => ⟨he, by rw [← hw]; exact h, by rw [← hw]; exact Below.refl _ _⟩
  · exact p_compact W h hB hg h2 hn hcap hcap2
end Go.Proofs.YthifcalemhpmoaaGreat
namespace Go.Proofs.YthifcalemhpmoaaGreat
open Go.RowKit Go.Proofs.Gn
/-- The corners that are left, in their order. -/
def turnsL (ss : Pl) : Pl := (Gx.chainR ss).reverse
theorem turnsL_snoc (ss : Pl) (p : Int × Int) : turnsL (ss ++ [p]) = leftS p (turnsL ss) ++ [p] := by
  unfold turnsL leftS
  rw [Gx.chainR_snoc, List.reverse_reverse]
  unfold Gx.pushS
  rw [List.reverse_cons]
theorem turnsL_sub (ss : Pl) : ∀ p ∈ turnsL ss, p ∈ ss := by
  intro p hp
  generalize hr : ss.reverse = r
  induction r generalizing ss p with
  | nil =>
    have : ss = [] := by simpa using hr
    subst this
    simp [turnsL, Gx.chainR] at hp
  | cons q r ih =>
    have e : ss = r.reverse ++ [q] := by rw [← List.reverse_reverse ss, hr]; simp
    rw [e] at hp ⊢
    rw [turnsL_snoc] at hp
    rcases List.mem_append.1 hp with hp | hp
    · exact List.mem_append_left _ (ih r.reverse p ((leftS_prefix _ _).subset hp) (by simp))
    · exact List.mem_append_right _ hp
theorem turnsL_len (ss : Pl) : (turnsL ss).length ≤ ss.length := by
  generalize hr : ss.reverse = r
  induction r generalizing ss with
  | nil =>
    have : ss = [] := by simpa using hr
    subst this
    simp [turnsL, Gx.chainR]
  | cons q r ih =>
    have e : ss = r.reverse ++ [q] := by rw [← List.reverse_reverse ss, hr]; simp
    rw [e, turnsL_snoc]
    have a := (leftS_prefix q (turnsL r.reverse)).length_le
    have b := ih r.reverse (by simp)
    simp only [List.length_append, List.length_cons, List.length_nil]
    omega
theorem turnsL_pos {ss : Pl} (h : 0 < ss.length) : 0 < (turnsL ss).length := by
  obtain ⟨t, q, e⟩ : ∃ t q, ss = t ++ [q] := by
    have hne : ss ≠ [] := by intro e; rw [e] at h; simp at h
    exact ⟨ss.dropLast, ss.getLast hne, (List.dropLast_concat_getLast hne).symm⟩
  rw [e, turnsL_snoc]
  simp
theorem bdL_sub {a b : Pl} (h : BdL b) (hs : ∀ p ∈ a, p ∈ b) : BdL a := fun p hp => h p (hs p hp)
theorem turns_own {W : World} {B : Nat} {v : Value} {m : Nat} {ss ps : Pl} {x y : Int} {k : Nat} (ht : turnsL (ss.take (k + 1)) = leftS (x, y) ps ++ [(x, y)]) (hq : leftS (x, y) ps = ps.take m) (hm : (leftS (x, y) ps).length = m)
    (ho : W.ownsRow B 62 2 v (m + 1) (cellsPl (ps.take m) ++ [.int .i64 x, .int .i64 y])) : W.ownsRow B 62 2 v (turnsL (ss.take (k + 1))).length (cellsPl (turnsL (ss.take (k + 1)))) := by
  rw [ht, cellsPl_snoc, List.length_append, hm, hq]
  exact ho
set_option maxRecDepth 100000 in
set_option maxHeartbeats 2000000 in
theorem p_leftTurns (A : Option Addr) (ss : Pl) (cap : Nat) (w : World) (h : Pts w A ss) (hn : ss.length ≤ 70000) (hb : BdL ss) :
    Calls Tryz.prog 90 #[.slice A ss.length cap] w fun e w' => ∃ v, e = .returned v ∧ w'.ownsRow w.heap.size 62 2 v (turnsL ss).length (cellsPl (turnsL ss)) ∧ Below w.heap.size w w' := by
  have HS := hide h
  have HBD := hide hb
  clear h hb
  obtain ⟨n, hN⟩ : ∃ n, ss.length = n := ⟨_, rfl⟩
  rw [hN] at hn ⊢
  have HN := hide hN
  clear hN
  obtain ⟨i0, hi, hz0, hz1, hz2⟩ := info_parts info_pt
  have HI := hide hi
  clear hi
  go_enter Tryz.func90, Tryz.ntmps90
  go_wp2_with fail
  go_loopw [3, 8] (fun v i wr => ∃ k : Nat, k ≤ n ∧ i = .int .i64 k ∧ wr.ownsRow w.heap.size 62 2 v (turnsL (ss.take k)).length (cellsPl (turnsL (ss.take k))) ∧ Below w.heap.size w wr ∧ (k = 0 → v = .slice none 0 0)) (fun _ i _ => n - (intOf i).toNat)
  case atStart => exact ⟨0, Nat.zero_le _, rfl, World.ownsRow_nil _ _ _ _, Below.refl _ _, fun _ => rfl⟩
  case round =>
    obtain ⟨k, hk, rfl, hown, hbe, hnil⟩ := hrel
    by_cases hlt : k < n
    · have hl : k < ss.length := by rw [unhide HN]; exact hlt
      obtain ⟨b, off, rfl, hc⟩ := (unhide HS).resolve_left (by intro e; rw [e] at hl; simp at hl)
      obtain ⟨c0, c1⟩ := hc k hl
      have bd := unhide HBD ss[k] (List.getElem_mem hl)
      have ht : ss.take (k + 1) = ss.take k ++ [(ss[k].1, ss[k].2)] := by rw [List.take_succ_eq_append_getElem hl]
      obtain ⟨x, hx⟩ : ∃ x, ss[k].1 = x := ⟨_, rfl⟩
      obtain ⟨y, hy⟩ : ∃ y, ss[k].2 = y := ⟨_, rfl⟩
      rw [hx] at c0 bd ht
      rw [hy] at c1 bd ht
      have hts := turnsL_snoc (ss.take k) (x, y)
      rw [← ht] at hts
      have d0 := up_cell hbe c0
      have d1 := up_cell hbe c1
      have bps : BdL (turnsL (ss.take k)) := bdL_sub (unhide HBD) fun p hp => List.mem_of_mem_take (turnsL_sub _ p hp)
      have lps : (turnsL (ss.take k)).length ≤ k := by have := turnsL_len (ss.take k); rw [List.length_take, unhide HN] at this; omega
      obtain ⟨ps, hps⟩ : ∃ ps, turnsL (ss.take k) = ps := ⟨_, rfl⟩
      rw [hps] at hown hts bps lps
      have lq := (leftS_prefix (x, y) ps).length_le
      have hq : leftS (x, y) ps = ps.take (leftS (x, y) ps).length := (List.prefix_iff_eq_take.1 (leftS_prefix (x, y) ps))
      have HTS := hide hts
      have HBE := hide hbe
      have HO := hide hown
      have HBP := hide bps
      have hk0 : k = 0 → ps = [] := fun e => by rw [← hps, e]; rfl
      by_cases hk1 : k = 0
      · subst hk1
        obtain rfl := hnil rfl
        obtain rfl := hk0 rfl
        simp only [Nat.zero_mul, Nat.add_zero] at d0 d1
        clear hown hbe hnil hk0 hps hts bps hx hy ht hc c0 c1 lps lq hq
        go_wp2_with (first
          | (go_at_call 122; refine (p_drop0 _ _ _).mono ?_; rintro e w2 ⟨rfl, hb2⟩; have x2 : w2.cell? ⟨wr.heap.size, 0, none⟩ = some (.int .i64 x) := up_cell hb2 (by go_cell); have y2 : w2.cell? ⟨wr.heap.size, 1, none⟩ = some (.int .i64 y) := up_cell hb2 (by go_cell))
          | (at_builtin; refine wpList_append_own _ rfl _ _ 63 rfl w.heap.size 62 i0 _ 2 16 Tryz.underlying63 (unhide HI) hz0 hz1 hz2 rfl (by decide) _ 0 (cellsPl (([] : Pl).take 0)) rfl (World.ownsRow_nil _ _ _ _) ⟨w2.heap.size, 0, none⟩ 1 1 [.int .i64 x, .int .i64 y] rfl rfl (two_new _ _ _ _) (by intro u hu; simp at hu; rcases hu with rfl | rfl <;> rfl) (by unfold maxLen; omega) (by omega) (by have := (unhide HBE).size; have := hb2.size; simp at this ⊢; omega) ?_; intro v' w3 hown' hgrow _))
        have R1 := turns_own (unhide HTS) (ps := []) (m := 0) rfl rfl hown'
        have R2 : Below w.heap.size w w3 := Below.grown (below_up (unhide HBE) (Nat.le_refl _) (up_alloc (up_trans (up_alloc (up_refl _) _) hb2) _)) hgrow (by have := (unhide HBE).size; have := hb2.size; simp at this ⊢; omega) (fun j hj => by cases hj)
        exact ⟨⟨1, by omega, by go_num, R1, R2, by omega⟩, by simp [intOf]; omega⟩
      · have hpos : 0 < ps.length := by
          rw [← hps]
          exact turnsL_pos (by rw [List.length_take, unhide HN]; omega)
        obtain ⟨g, cp, hv, hg, hcp, hcp2⟩ := own_some hown hpos
        subst hv
        obtain ⟨m, hm⟩ : ∃ m, (leftS (x, y) ps).length = m := ⟨_, rfl⟩
        have PD : ∀ W : World, W.ownsRow w.heap.size 62 2 (.slice (some ⟨g, 0, none⟩) ps.length cp) ps.length (cellsPl ps) → W.cell? ⟨wr.heap.size, 0, none⟩ = some (.int .i64 x) → W.cell? ⟨wr.heap.size, 1, none⟩ = some (.int .i64 y) →
            Calls Tryz.prog 122 #[.slice (some ⟨g, 0, none⟩) ps.length cp, .func (.func 123) #[] #[.pointer (some ⟨wr.heap.size, 0, none⟩)]] W fun e w' => e = .returned (.slice (some ⟨g, 0, none⟩) m cp) ∧ Up W w' := fun W hO hx hy => by
          have q := p_drop g ps cp wr.heap.size x y W (own_cells hO) hx hy hcp hcp2 bps bd.1 bd.2
          rwa [hm] at q
        rw [hm] at lq hq
        have HPD := hide PD
        have HQ := hide hq
        have HM := hide hm
        obtain ⟨N, hN2⟩ : ∃ N, ps.length = N := ⟨_, rfl⟩
        rw [hN2] at HO HPD lq lps ⊢
        clear hown hbe hnil hk0 hps hts bps hx hy ht hc c0 c1 PD hq hm hcp hcp2 hpos hN2
        go_wp2_with (first
          | (go_at_call 122; (with_reducible refine (unhide HPD _ ((unhide HO).alloc _) (by go_cell) (by go_cell)).mono ?_); rintro e w2 ⟨rfl, hb2⟩; have x2 : w2.cell? ⟨wr.heap.size, 0, none⟩ = some (.int .i64 x) := up_cell hb2 (by go_cell); have y2 : w2.cell? ⟨wr.heap.size, 1, none⟩ = some (.int .i64 y) := up_cell hb2 (by go_cell))
          | (at_builtin; refine wpList_append_own _ rfl _ _ 63 rfl w.heap.size 62 i0 _ 2 16 Tryz.underlying63 (unhide HI) hz0 hz1 hz2 rfl (by decide) _ m (cellsPl (ps.take m)) rfl (by rw [← cellsPl_take]; exact (own_prefix (own_up ((unhide HO).alloc _) hb2) lq).alloc _) ⟨w2.heap.size, 0, none⟩ 1 1 [.int .i64 x, .int .i64 y] rfl rfl (two_new _ _ _ _) (by intro u hu; simp at hu; rcases hu with rfl | rfl <;> rfl) (by unfold maxLen; omega) (by omega) (by have := (unhide HBE).size; have := hb2.size; simp at this ⊢; omega) ?_; intro v' w3 hown' hgrow _))
        have R1 := turns_own (unhide HTS) (unhide HQ) (unhide HM) hown'
        have R2 : Below w.heap.size w w3 := Below.grown (below_up (unhide HBE) (Nat.le_refl _) (up_alloc (up_trans (up_alloc (up_refl _) _) hb2) _)) hgrow (by have := (unhide HBE).size; have := hb2.size; simp at this ⊢; omega) (fun j hj => by cases hj; exact hg)
        exact ⟨⟨k + 1, by omega, by go_num, R1, R2, by omega⟩, by simp [intOf]; omega⟩
    · obtain rfl : k = n := by omega
      have e : ss.take k = ss := List.take_of_length_le (by rw [unhide HN]; exact Nat.le_refl _)
      rw [e] at hown
      have HO := hide hown
      have HBE := hide hbe
      clear e hown hbe hnil
      go_wp2_with fail
      exact bodyPost_ret (by simp [results, Tryz.results90, go_sem]) rfl ⟨_, rfl, unhide HO, unhide HBE⟩
end Go.Proofs.YthifcalemhpmoaaGreat
namespace Go.Proofs.YthifcalemhpmoaaGreat
open Go.RowKit Go.Proofs.Gn
theorem cellsPl_append (a b : Pl) : cellsPl (a ++ b) = cellsPl a ++ cellsPl b := by simp [cellsPl]
theorem hullF_eq {ps ss : Pl} (h : ss = Gx.sortU ps) : (ss.length = 1 → Gx.hullF ps = ss) ∧ (ss.length ≠ 1 → Gx.hullF ps = (turnsL ss).take ((turnsL ss).length - 1) ++ (turnsL ss.reverse).take ((turnsL ss.reverse).length - 1)) := by
  subst h
  unfold Gx.hullF Gx.hullS turnsL
  refine ⟨fun h => by rw [if_pos h], fun h => by rw [if_neg h, List.dropLast_eq_take, List.dropLast_eq_take]⟩
theorem own_one {W : World} {base e : Nat} {v : Value} {n : Nat} {ps : Pl} (h : W.ownsRow base e 2 v n (cellsPl ps)) : n = ps.length := own_len h
theorem sort_len (ps : Pl) : (Gx.sortU ps).length ≤ ps.length := by
  have : ∀ (l : Pl) (p : Int × Int), (Gx.insU p l).length ≤ l.length + 1 := by
    intro l p
    induction l with
    | nil => exact Nat.le_refl _
    | cons a l ih =>
      unfold Gx.insU
      split
      · simpa using ih
      · split <;> simp
  generalize hr : ps.reverse = r
  induction r generalizing ps with
  | nil =>
    have : ps = [] := by simpa using hr
    subst this
    exact Nat.le_refl _
  | cons q r ih =>
    have e : ps = r.reverse ++ [q] := by rw [← List.reverse_reverse ps, hr]; simp
    rw [e, Gx.sortU_snoc]
    have a := this (Gx.sortU r.reverse) q
    have b := ih r.reverse (by simp)
    simp only [List.length_append, List.length_cons, List.length_nil]
    omega
theorem own_base {W : World} {base b' e size n : Nat} {v : Value} {xs : List Value} (h : W.ownsRow base e size v n xs) (hb : b' ≤ base) : W.ownsRow b' e size v n xs := by
  rcases h with ⟨hl, h | ⟨g, cap, cur, rfl, h1, h2⟩⟩
  · exact ⟨hl, .inl h⟩
  · exact ⟨hl, .inr ⟨g, cap, cur, rfl, Nat.le_trans hb h1, h2⟩⟩
theorem own_lt {W : World} {base e size n m cap g : Nat} {xs : List Value} (h : W.ownsRow base e size (.slice (some ⟨g, 0, none⟩) n cap) m xs) : g < W.heap.size := by
  rcases h.2 with ⟨k, _⟩ | ⟨g', cap', cur, e1, _, hgg, _⟩
  · simp at k
  · simp only [Value.slice.injEq, Option.some.injEq, Addr.mk.injEq, and_true] at e1
    obtain ⟨rfl, _⟩ := e1
    exact (Array.getElem?_eq_some_iff.1 hgg).1
/-- leftTurns at a list of the call's own. -/
theorem p_turnsO {B m a cp g : Nat} {ss : Pl} (ha : (turnsL ss).length = a) (hm : ss.length = m) (h0 : 0 < m) (hn : m ≤ 70000) (hb : BdL ss) (W : World) (h : W.ownsRow B 62 2 (.slice (some ⟨g, 0, none⟩) m cp) m (cellsPl ss)) :
    Calls Tryz.prog 90 #[.slice (some ⟨g, 0, none⟩) m cp] W fun e w' => ∃ g4 c4, e = .returned (.slice (some ⟨g4, 0, none⟩) a c4) ∧ W.heap.size ≤ g4 ∧ a ≤ c4 ∧ c4 ≤ 9223372036854775807 ∧ w'.ownsRow W.heap.size 62 2 (.slice (some ⟨g4, 0, none⟩) a c4) a (cellsPl (turnsL ss)) ∧ Up W w' := by
  obtain ⟨A, c, e, hp⟩ := own_pts h
  rw [hm] at e
  simp only [Value.slice.injEq, true_and] at e
  obtain ⟨rfl, rfl⟩ := e
  have q := p_leftTurns (some ⟨g, 0, none⟩) ss cp W hp (by omega) hb
  rw [hm, ha] at q
  refine q.mono fun e w' ⟨v, he, ho, hb⟩ => ?_
  have := turnsL_pos (ss := ss) (by omega)
  obtain ⟨g4, c4, rfl, h1, h2, h3⟩ := own_some ho (by omega)
  exact ⟨g4, c4, he, h1, h2, h3, ho, hb⟩
set_option maxRecDepth 100000 in
set_option maxHeartbeats 2000000 in
theorem p_hull (A : Option Addr) (ps : Pl) (cap : Nat) (w : World) (h : Pts w A ps) (h0 : 0 < ps.length) (hn : ps.length ≤ 60000) (hb : BdL ps) :
    Calls Tryz.prog 52 #[.slice A ps.length cap] w fun e w' => ∃ v, e = .returned v ∧ w'.ownsRow w.heap.size 62 2 v (Gx.hullF ps).length (cellsPl (Gx.hullF ps)) ∧ Below w.heap.size w w' := by
  have PC := p_clone A ps cap w h h0 (by omega)
  obtain ⟨ss, hss⟩ : ∃ ss, Gx.sortU ps = ss := ⟨_, rfl⟩
  have hssl : ss.length ≤ ps.length := by rw [← hss]; exact sort_len ps
  have hss0 : 0 < ss.length := by
    rw [← hss]
    exact List.length_pos_iff.2 (Gx.sortU_ne (by intro e; rw [e] at h0; simp at h0))
  have hbs : BdL ss := by rw [← hss]; exact fun p hp => hb p (((Gx.sortU_ok ps).2 p).1 hp)
  have hF := hullF_eq hss.symm
  have PS : ∀ (W : World) (g cp : Nat), W.ownsRow w.heap.size 62 2 (.slice (some ⟨g, 0, none⟩) ps.length cp) ps.length (cellsPl ps) → Below w.heap.size w W → w.heap.size ≤ g → ps.length ≤ cp → cp ≤ 9223372036854775807 →
      Calls Tryz.prog 87 #[.slice (some ⟨g, 0, none⟩) ps.length cp, .func (.func 88) #[] #[]] W fun e w' => e = .returned (.tuple #[]) ∧
        (∃ qs : Pl, Gx.dedup qs = ss ∧ w'.ownsRow w.heap.size 62 2 (.slice (some ⟨g, 0, none⟩) ps.length cp) ps.length (cellsPl qs)) ∧ Below w.heap.size w w' := fun W g cp ho hb hg hc hc2 => by
    have hgl : g < W.heap.size := by
      rcases ho.2 with ⟨k, _⟩ | ⟨g', cap', cur, e1, _, hgg, _⟩
      · simp at k
      · simp only [Value.slice.injEq, Option.some.injEq, Addr.mk.injEq, and_true, true_and] at e1
        obtain ⟨rfl, rfl⟩ := e1
        exact (Array.getElem?_eq_some_iff.1 hgg).1
    refine (p_sort W ho hb.size hg hgl (by omega)).mono fun e w' ⟨he, qs, hp, hq, ho', hb'⟩ => ⟨he, ⟨qs, ?_, ho'⟩, hb.trans hb'⟩
    rw [← hss]
    exact Gx.dedup_sort hp hq
  have PK : ∀ (W : World) (g cp : Nat) (qs : Pl), Gx.dedup qs = ss → W.ownsRow w.heap.size 62 2 (.slice (some ⟨g, 0, none⟩) ps.length cp) ps.length (cellsPl qs) → Below w.heap.size w W → w.heap.size ≤ g → ps.length ≤ cp → cp ≤ 9223372036854775807 →
      Calls Tryz.prog 89 #[.slice (some ⟨g, 0, none⟩) ps.length cp] W fun e w' => e = .returned (.slice (some ⟨g, 0, none⟩) ss.length cp) ∧
        w'.ownsRow w.heap.size 62 2 (.slice (some ⟨g, 0, none⟩) ss.length cp) ss.length (cellsPl ss) ∧ Below w.heap.size w w' := fun W g cp qs hq ho hb hg hc hc2 => by
    refine (p_compact_any W ho hb.size hg (by omega) (by omega) hc hc2).mono fun e w' ⟨he, ho', hb'⟩ => ?_
    rw [hq] at he ho'
    exact ⟨he, ho', hb.trans hb'⟩
  obtain ⟨n, hN⟩ : ∃ n, ps.length = n := ⟨_, rfl⟩
  obtain ⟨m, hM⟩ : ∃ m, ss.length = m := ⟨_, rfl⟩
  rw [hN] at h0 hn hssl PC PS PK
  rw [hN]
  rw [hM] at hssl hss0 hF PK
  have HPC := hide PC
  have HPS := hide PS
  have HPK := hide PK
  have HBS := hide hbs
  have HM := hide hM
  have HF := hide hF
  clear PC PS PK h hb hss hbs hN hM hF
  have g1 : (1 : Int) ≤ (n : Int) := by omega
  by_cases h1 : m = 1
  · subst h1
    have e := (unhide HF).1 rfl
    rw [e, unhide HM]
    clear HBS HF e
    go_enter Tryz.func52, Tryz.ntmps52
    go_wp2_with (first
      | (go_at_call 86; (with_reducible refine (unhide HPC).mono ?_); rintro e w1 ⟨v, rfl, ho1, hb1⟩; obtain ⟨g, cp, rfl, hg, hcp, hcp2⟩ := own_some ho1 (by omega); have O1 := hide ho1; have B1 := hide hb1; clear ho1 hb1 HPC)
      | (go_at_call 87; (with_reducible refine (unhide HPS _ _ _ (unhide O1) (unhide B1) hg hcp hcp2).mono ?_); rintro e w2 ⟨rfl, ⟨qs, hq, ho2⟩, hb2⟩; have O2 := hide ho2; have B2 := hide hb2; have HQ := hide hq; clear ho2 hb2 hq HPS)
      | (go_at_call 89; (with_reducible refine (unhide HPK _ _ _ _ (unhide HQ) (unhide O2) (unhide B2) hg hcp hcp2).mono ?_); rintro e w3 ⟨rfl, ho3, hb3⟩; have O3 := hide ho3; have B3 := hide hb3; clear ho3 hb3 HPK))
    exact bodyPost_ret (by simp [results, Tryz.results52, go_sem]) rfl ⟨_, rfl, unhide O3, unhide B3⟩
  · have h2 : (m : Int) ≠ 1 := by omega
    have h3 : ((m : Int) == 1) = false := by simpa using h2
    obtain ⟨a, ha⟩ : ∃ a, (turnsL ss).length = a := ⟨_, rfl⟩
    obtain ⟨b, hb⟩ : ∃ b, (turnsL ss.reverse).length = b := ⟨_, rfl⟩
    have e := (unhide HF).2 h1
    rw [ha, hb] at e
    have ha0 : 0 < a := by rw [← ha]; exact turnsL_pos (by rw [unhide HM]; exact hss0)
    have hb0 : 0 < b := by rw [← hb]; exact turnsL_pos (by simp [unhide HM]; exact hss0)
    have ha1 : a ≤ m := by rw [← ha, ← unhide HM]; exact turnsL_len ss
    have hb1 : b ≤ m := by rw [← hb, ← unhide HM]; have := turnsL_len ss.reverse; simpa using this
    have P1 : ∀ (W : World) (g cp : Nat), W.ownsRow w.heap.size 62 2 (.slice (some ⟨g, 0, none⟩) m cp) m (cellsPl ss) → _ := fun W g cp ho => p_turnsO (cp := cp) ha (unhide HM) hss0 (by omega) (unhide HBS) W ho
    have P2 : ∀ (W : World) (g cp : Nat), W.ownsRow w.heap.size 62 2 (.slice (some ⟨g, 0, none⟩) m cp) m (cellsPl ss.reverse) → _ := fun W g cp ho => p_turnsO (cp := cp) hb (by rw [List.length_reverse]; exact unhide HM) hss0 (by omega) (bdL_sub (unhide HBS) fun p hp => List.mem_reverse.1 hp) W ho
    have HP1 := hide P1
    have HP2 := hide P2
    have HE := hide e
    clear HF P1 P2 e h2
    go_enter Tryz.func52, Tryz.ntmps52
    go_wp2_with (first
      | (go_at_call 86; (with_reducible refine (unhide HPC).mono ?_); rintro e w1 ⟨v, rfl, ho1, hb1⟩; obtain ⟨g, cp, rfl, hg, hcp, hcp2⟩ := own_some ho1 (by omega); have O1 := hide ho1; have B1 := hide hb1; clear ho1 hb1 HPC)
      | (go_at_call 87; (with_reducible refine (unhide HPS _ _ _ (unhide O1) (unhide B1) hg hcp hcp2).mono ?_); rintro e w2 ⟨rfl, ⟨qs, hq, ho2⟩, hb2⟩; have O2 := hide ho2; have B2 := hide hb2; have HQ := hide hq; clear ho2 hb2 hq HPS)
      | (go_at_call 89; (with_reducible refine (unhide HPK _ _ _ _ (unhide HQ) (unhide O2) (unhide B2) hg hcp hcp2).mono ?_); rintro e w3 ⟨rfl, ho3, hb3⟩; have O3 := hide ho3; have B3 := hide hb3; clear ho3 hb3 HPK)
      | (go_at_call 90; (with_reducible refine (unhide HP1 _ _ _ (unhide O3)).mono ?_); rintro e w4 ⟨g4, c4, rfl, hg4, hc4, hc4', ho4, hb4⟩; have O4 := hide ho4; have B4 := hide hb4; clear ho4 hb4 HP1)
      | (go_at_call 91; (with_reducible refine (p_reverse _ (own_up (unhide O3) (unhide B4)) (Nat.le_trans (unhide B3).size (up_size (unhide B4))) hg (by omega)).mono ?_); rintro e w5 ⟨rfl, ho5, hb5, hgr⟩; have O5 := hide ho5; have B5 := hide hb5; have GR := hide hgr; clear ho5 hb5 hgr)
      | (go_at_call 90; (with_reducible refine (unhide HP2 _ _ _ (unhide O5)).mono ?_); rintro e w6 ⟨g6, c6, rfl, hg6, hc6, hc6', ho6, hb6⟩; have O6 := hide ho6; have B6 := hide hb6; clear ho6 hb6 HP2))
    obtain ⟨i0, hi, hz0, hz1, hz2⟩ := info_parts info_pt
    have gne : g4 ≠ g := by
      have := own_lt (unhide O3)
      omega
    have OL : w6.ownsRow w.heap.size 62 2 (.slice (some ⟨g4, 0, none⟩) (a - 1) c4) (a - 1) (cellsPl ((turnsL ss).take (a - 1))) := by
      rw [← cellsPl_take]
      exact own_prefix (own_base (own_up ((unhide O4).kept (unhide GR) (.inr (by intro e; cases e; exact gne rfl))) (unhide B6)) (unhide B3).size) (Nat.sub_le _ _)
    have CR := cells_at (own_cells (own_prefix (unhide O6) (Nat.sub_le b 1)  |> (fun h => by rw [cellsPl_take] at h; exact h)))
    have BB : Below w.heap.size w w6 := (((unhide B3).trans ((unhide B4).mono (unhide B3).size)).trans (unhide B5)).trans ((unhide B6).mono (Nat.le_trans (unhide B3).size (Nat.le_trans (up_size (unhide B4)) (unhide B5).size)))
    have lr : ((turnsL ss.reverse).take (b - 1)).length = b - 1 := by rw [List.length_take]; omega
    have HI := hide hi
    have HOL := hide OL
    have HCR := hide CR
    have HBB := hide BB
    have HLR := hide lr
    have HLA := hide ha
    clear hi OL CR BB lr ha hb
    have w1' : IntKind.i64.wrap ((a : Int) - 1) = ((a - 1 : Nat) : Int) := by rw [IntWalk.i64_in _ ⟨by omega, by omega⟩]; omega
    have w2' : IntKind.i64.wrap ((b : Int) - 1) = ((b - 1 : Nat) : Int) := by rw [IntWalk.i64_in _ ⟨by omega, by omega⟩]; omega
    have w3' : ((a - 1 : Nat) : Int) ≤ (c4 : Int) := by omega
    have w4' : ((b - 1 : Nat) : Int) ≤ (c6 : Int) := by omega
    have w5' : a - 1 ≤ c4 := by omega
    have w6' : b - 1 ≤ c6 := by omega
    go_region_law (refine step_append_mine _ rfl (.tmp 26) (.tmp 31) 63 rfl w.heap.size 62 i0 _ 2 16 Tryz.underlying63 (unhide HI) hz0 hz1 hz2 rfl (Nat.zero_lt_succ _) (.slice (some ⟨g4, 0, none⟩) (a - 1) c4) (a - 1) (cellsPl ((turnsL ss).take (a - 1))) (by go_simp; done) (by exact unhide HOL) ⟨g6, 0, none⟩ (b - 1) c6 (cellsPl ((turnsL ss.reverse).take (b - 1))) (by go_simp; done) (by rw [cellsPl_length, unhide HLR]) (by intro j u hj; rw [show (⟨g6, 0, none⟩ : Addr).add j = ⟨g6, 0 + j, none⟩ from Go.WideShapes.add_plain _ _ _]; exact unhide HCR j u hj) (cellsPl_one _) (by unfold maxLen; omega) (by omega) (by exact (unhide HBB).size) ?_; intro v' w7 hown' hgrow)
    have hfin : w7.ownsRow w.heap.size 62 2 v' (Gx.hullF ps).length (cellsPl (Gx.hullF ps)) := by
      rw [unhide HE, cellsPl_append, List.length_append, unhide HLR, List.length_take, unhide HLA, Nat.min_eq_left (Nat.sub_le _ _)]
      exact hown'
    have hbel : Below w.heap.size w w7 := Below.grown (Below.drew (unhide HBB)) hgrow (Below.drew (unhide HBB)).size (fun j hj => by cases hj; exact Nat.le_trans (unhide B3).size hg4)
    have HFIN := hide hfin
    have HBEL := hide hbel
    clear hfin hbel hown' hgrow
    go_wp2
    exact bodyPost_ret (by simp [results, Tryz.results52, go_sem]) rfl ⟨_, rfl, unhide HFIN, unhide HBEL⟩
end Go.Proofs.YthifcalemhpmoaaGreat
namespace Go.Proofs.YthifcalemhpmoaaGreat
open Go.RowKit Go.Proofs.Gn
theorem okL_bdL {ps : Pl} (h : okL ps = true) : BdL ps := fun p hp => okp_bd (List.all_eq_true.1 h p hp)
/-- The errors of hulls. -/
noncomputable def hulE (ls : List Lst) : Int := if chkLL ls = 0 then if (ls.all fun l => isHB l.ps) then 0 else 2 else chkLL ls
theorem chkLL_zero {ls : List Lst} (h : chkLL ls = 0) : ∀ l ∈ ls, l.ps.length ≤ 256 ∧ okL l.ps = true := by
  unfold chkLL at h
  intro l hl
  cases h1 : fewB ls with
  | false => rw [h1] at h; simp at h
  | true =>
    cases h2 : okLL ls with
    | false => rw [h1, h2] at h; simp at h
    | true => exact ⟨by simpa using List.all_eq_true.1 h1 l hl, List.all_eq_true.1 h2 l hl⟩
theorem hulE_one {A : Option Addr} {ps : Pl} {cap : Nat} (hl : ps.length ≤ 256) (ho : okL ps = true) : hulE [⟨A, ps, cap⟩] = if isHB ps then 0 else 2 := by
  have : chkLL [⟨A, ps, cap⟩] = 0 := by rw [chkLL_one, if_pos hl, ho]; rfl
  unfold hulE
  rw [if_pos this]
  simp
theorem p_HullNone (A : Option Addr) (cap : Nat) (w : World) :
    Calls Tryz.prog 22 #[.slice A 0 cap] w fun e w' => e = .returned (.tuple #[.slice none 0 0, .int .i64 5]) ∧ Up w w' := by
  have PC : ∀ W, Up w W → W.cell? ⟨w.heap.size, 0, none⟩ = some (.slice A 0 cap) → Calls Tryz.prog 51 #[.slice (some ⟨w.heap.size, 0, none⟩) 1 1] W fun e w' => e = .returned (.int .i64 0) ∧ Up W w' := fun W hu hw =>
    p_checkLists (some ⟨w.heap.size, 0, none⟩) [⟨A, [], cap⟩] 1 W (lss_one (l := ⟨A, [], cap⟩) hw (.inl rfl) (by simp)) (by simp)
  have HPC := hide PC
  clear PC
  go_enter Tryz.func22, Tryz.ntmps22
  go_wp2_with (go_at_call 51; (with_reducible refine (unhide HPC _ (by repeat' (first | (with_reducible exact up_refl _) | (with_reducible assumption) | (with_reducible refine up_alloc ?_ _) | (with_reducible refine up_drewN ?_ _) | (with_reducible refine up_drew ?_) | (with_reducible refine up_set ?_ (by first | (simp; done) | (simp; omega) | omega) _) | (refine up_trans ?_ (by with_reducible assumption)))) ?_).mono ?_); (· go_cell); rintro e w1 ⟨rfl, hb1⟩)
  go_ret2
  exact ⟨rfl, (by repeat' (first | (with_reducible exact up_refl _) | (with_reducible assumption) | (with_reducible refine up_alloc ?_ _) | (with_reducible refine up_drewN ?_ _) | (with_reducible refine up_drew ?_) | (with_reducible refine up_set ?_ (by first | (simp; done) | (simp; omega) | omega) _) | (refine up_trans ?_ (by with_reducible assumption))))⟩
theorem p_Hull (A : Option Addr) (ps : Pl) (cap : Nat) (w : World) (h : Pts w A ps) (h0 : 0 < ps.length) (hl : ps.length ≤ 256) (ho : okL ps = true) :
    Calls Tryz.prog 22 #[.slice A ps.length cap] w fun e w' => ∃ v, e = .returned (.tuple #[v, .int .i64 0]) ∧ w'.ownsRow w.heap.size 62 2 v (Gx.hullF ps).length (cellsPl (Gx.hullF ps)) ∧ Below w.heap.size w w' := by
  have PC : ∀ W, Up w W → W.cell? ⟨w.heap.size, 0, none⟩ = some (.slice A ps.length cap) → Calls Tryz.prog 51 #[.slice (some ⟨w.heap.size, 0, none⟩) 1 1] W fun e w' => e = .returned (.int .i64 0) ∧ Up W w' := fun W hu hw => by
    have q := p_checkLists (some ⟨w.heap.size, 0, none⟩) [⟨A, ps, cap⟩] 1 W (lss_one (l := ⟨A, ps, cap⟩) hw (pts_up h hu) (by show ps.length ≤ _; omega)) (by simp)
    rw [chkLL_one, if_pos hl, ho] at q
    exact q
  have PH : ∀ W, Up w W → Calls Tryz.prog 52 #[.slice A ps.length cap] W fun e w' => ∃ v, e = .returned v ∧ w'.ownsRow w.heap.size 62 2 v (Gx.hullF ps).length (cellsPl (Gx.hullF ps)) ∧ Up w w' := fun W hu =>
    (p_hull A ps cap W (pts_up h hu) h0 (by omega) (okL_bdL ho)).mono fun e w' ⟨v, he, hown, hb⟩ => ⟨v, he, own_base hown hu.size, up_trans hu hb⟩
  have HPC := hide PC
  have HPH := hide PH
  clear PC PH h ho
  obtain ⟨n, hN⟩ : ∃ n, ps.length = n := ⟨_, rfl⟩
  rw [hN] at HPC HPH h0 hl ⊢
  obtain ⟨R, hR⟩ : ∃ R, Gx.hullF ps = R := ⟨_, rfl⟩
  rw [hR] at HPH ⊢
  clear hN hR
  have n0 : ((n : Int) == 0) = false := by simp; omega
  go_enter Tryz.func22, Tryz.ntmps22
  go_wp2_with (first | (go_at_call 51; (with_reducible refine (unhide HPC _ (by repeat' (first | (with_reducible exact up_refl _) | (with_reducible assumption) | (with_reducible refine up_alloc ?_ _) | (with_reducible refine up_drewN ?_ _) | (with_reducible refine up_drew ?_) | (with_reducible refine up_set ?_ (by first | (simp; done) | (simp; omega) | omega) _) | (refine up_trans ?_ (by with_reducible assumption)))) ?_).mono ?_); (· go_cell); rintro e w1 ⟨rfl, hb1⟩) | (go_at_call 52; (with_reducible refine (unhide HPH _ (by repeat' (first | (with_reducible exact up_refl _) | (with_reducible assumption) | (with_reducible refine up_alloc ?_ _) | (with_reducible refine up_drewN ?_ _) | (with_reducible refine up_drew ?_) | (with_reducible refine up_set ?_ (by first | (simp; done) | (simp; omega) | omega) _) | (refine up_trans ?_ (by with_reducible assumption))))).mono ?_); rintro e w2 ⟨v, rfl, hown, hb2⟩))
  go_ret2
  exact ⟨v, rfl, hown, hb2⟩
end Go.Proofs.YthifcalemhpmoaaGreat
namespace Go.Proofs.YthifcalemhpmoaaGreat
open Go.RowKit Go.Proofs.Gn Go.ChangeShapes Go.WideShapes Go.Deep Go.Joins Go.ChangeAt
structure Lgg where
  (x y g : Int)
def okLgg (b : Lgg) : Prop := (-128 ≤ b.x ∧ b.x ≤ 127) ∧ (-128 ≤ b.y ∧ b.y ≤ 127) ∧ (0 ≤ b.g ∧ b.g ≤ 255)
def LggAt (w : World) (b o : Nat) (e : Lgg) : Prop := w.cell? ⟨b, o, none⟩ = some (.int .i8 e.x) ∧ w.cell? ⟨b, o + 1, none⟩ = some (.int .i8 e.y) ∧ w.cell? ⟨b, o + 2, none⟩ = some (.int .u8 e.g)
/-- Where legs lie. -/
def Lggs (w : World) (A : Option Addr) (bs : List Lgg) : Prop := bs = [] ∨ ∃ b off, A = some ⟨b, off, none⟩ ∧ ∀ k (h : k < bs.length), LggAt w b (off + k * 3) bs[k]
/-- Legs that are read, and their bounds. -/
def LgsOk (w : World) (A : Option Addr) (bs : List Lgg) : Prop := Lggs w A bs ∧ ∀ k (h : k < bs.length), okLgg bs[k]
instance : Inhabited Lgg := ⟨⟨0, 0, 0⟩⟩
theorem Tryz.laidOutLg : laidOutB Tryz.prog = true := by kernel_rfl
theorem Tryz.cellsU8L : Tryz.prog.cellsOf 5 = 1 := by kernel_rfl
theorem add_atG {a : Addr} (h : a.spot = none) (n : Nat) : a.add n = ⟨a.block, a.off + n, none⟩ := by
  obtain ⟨b, o, s⟩ := a
  subst h
  unfold Addr.add
  split
  · subst n; rfl
  · rfl
end Go.Proofs.YthifcalemhpmoaaGreat
namespace Go.Proofs.YthifcalemhpmoaaGreat
open Go.RowKit Go.Proofs.Gn
attribute [local go_sem] Oper.semAt_some
set_option linter.unusedVariables false
section
variable {P : Program} (w : World)
theorem wp_append_mineL {o : Oper} {a : Act} {K : Act → World → Prop} {Q : Exit → Act → World → Prop} (s x : Operand) (t : TypeId)
    (ho : o.op = .call { callee := .builtin .append, args := #[s, x], argTypes := #[t, t] })
    (base : Nat) (e : TypeId) (i : TypeInfo) (z : Value) (size bytes : Nat) (ht : P.underlying t = some (.slice e)) (hi : P.info? e = some i) (hz : i.zero = some z)
    (hsize : i.size = size) (hby : i.bytes = bytes) (hzs : z.cells.size = size) (hsz : 0 < size)
    (v : Value) (n : Nat) (xs : List Value) (hs : a.eval s = v) (hown : w.ownsRow base e size v n xs)
    (ad : Addr) (m c : Nat) (news : List Value) (hx : a.eval x = .slice (some ad) m c) (hl : news.length = m * size) (hnews : ∀ j u, news[j]? = some u → w.cell? (ad.add j) = some u) (h1 : ∀ u ∈ news, u.oneCell' = true)
    (h63 : n + m ≤ maxLen) (hbytes : (n + m) * bytes ≤ 140737488355328) (hbase : base ≤ w.heap.size)
    (h : ∀ v' w', w'.ownsRow base e size v' (n + m) (xs ++ news) → w.grownBy w' v.ownBlock → K (a.put o.dst v') w') : o.wp P a w K Q := by
  obtain ⟨v', w', hrun, h2, h3, _⟩ := run_append_own (P := P) w base t o.type e i z size bytes ht hi hz hsize hby hzs hsz v n xs hown ad m c news hl hnews h1 h63 hbytes hbase
  unfold Oper.wp execOp
  simp only [ho, resolve, invoke, builtin, Sem.run_bind, Sem.run_pure, Result.andThen_ok, List.map_toArray, List.map_cons, List.map_nil, hs, hx, hrun]
  exact h v' w' h2 h3
theorem step_append_mineL {ops : Array Oper} {o : Oper} {a : Act} {K : Act → World → Prop} {Q : Exit → Act → World → Prop} {E : Prop} (hgd : o.guard = none) (s x : Operand) (t : TypeId)
    (ho : o.op = .call { callee := .builtin .append, args := #[s, x], argTypes := #[t, t] })
    (base : Nat) (e : TypeId) (i : TypeInfo) (z : Value) (size bytes : Nat) (ht : P.underlying t = some (.slice e)) (hi : P.info? e = some i) (hz : i.zero = some z)
    (hsize : i.size = size) (hby : i.bytes = bytes) (hzs : z.cells.size = size) (hsz : 0 < size)
    (v : Value) (n : Nat) (xs : List Value) (hs : a.eval s = v) (hown : w.ownsRow base e size v n xs)
    (ad : Addr) (m c : Nat) (news : List Value) (hx : a.eval x = .slice (some ad) m c) (hl : news.length = m * size) (hnews : ∀ j u, news[j]? = some u → w.cell? (ad.add j) = some u) (h1 : ∀ u ∈ news, u.oneCell' = true)
    (h63 : n + m ≤ maxLen) (hbytes : (n + m) * bytes ≤ 140737488355328) (hbase : base ≤ w.heap.size)
    (h : ∀ v' w', w'.ownsRow base e size v' (n + m) (xs ++ news) → w.grownBy w' v.ownBlock → K (a.put o.dst v') w') :
    if Region.wanted o (yielded ops a.tmps) = true then Oper.wp P o a w K Q else E := by
  have hw : Region.wanted o (yielded ops a.tmps) = true := by simp [Region.wanted, hgd]
  rw [if_pos hw]
  exact wp_append_mineL w s x t ho base e i z size bytes ht hi hz hsize hby hzs hsz v n xs hs hown ad m c news hx hl hnews h1 h63 hbytes hbase h
end
theorem lggs_up {W W' : World} {A : Option Addr} {bs : List Lgg} (h : Lggs W A bs) (hu : Up W W') : Lggs W' A bs := by
  rcases h with h | ⟨b, off, e, hc⟩
  · exact .inl h
  · refine .inr ⟨b, off, e, fun k hk => ?_⟩
    obtain ⟨a0, a1, a2⟩ := hc k hk
    exact ⟨up_cell hu a0, up_cell hu a1, up_cell hu a2⟩
/-- The support that a leg is. -/
def pfS (l : Lgg) : Gs.Sup := ⟨100 * l.x, 50 * l.y, l.g % 3, 1048576, 0, 100⟩
def pfL (ls : List Lgg) : List Gs.Sup := (ls.take 12).map pfS
def cellsSp (ps : List Gs.Sup) : List Value := ps.flatMap fun s => [.int .i64 s.x, .int .i64 s.y, .int .i64 s.g, .int .i64 s.lim, .int .i64 s.lo, .int .i64 s.hi]
theorem cellsSp_snoc (ps : List Gs.Sup) (s : Gs.Sup) : cellsSp (ps ++ [s]) = cellsSp ps ++ [.int .i64 s.x, .int .i64 s.y, .int .i64 s.g, .int .i64 s.lim, .int .i64 s.lo, .int .i64 s.hi] := by simp [cellsSp]
theorem info_sp : (Tryz.prog.info? 39).map (fun i => (i.zero, i.size, i.bytes)) = some (some (.agg #[.int .i64 0, .int .i64 0, .int .i64 0, .int .i64 0, .int .i64 0, .int .i64 0]), 6, 48) := by kernel_rfl
theorem news_sp (W : World) (vs : List Value) (t : TypeId) : ∀ j u, vs[j]? = some u → (W.alloc (.cells vs.toArray t)).cell? ((⟨W.heap.size, 0, none⟩ : Addr).add j) = some u := fun j u hj => by
  have e : (⟨W.heap.size, 0, none⟩ : Addr).add j = ⟨W.heap.size, j, none⟩ := by unfold Addr.add; split <;> simp_all
  rw [e]
  exact (bx_new W vs t j u hj).1
theorem cellsSp_len (ps : List Gs.Sup) : (cellsSp ps).length = ps.length * 6 := by
  induction ps with
  | nil => rfl
  | cons p ps ih => unfold cellsSp at ih ⊢; rw [List.flatMap_cons, List.length_append, ih]; simp; omega
theorem cellsSp_at {ps : List Gs.Sup} : ∀ {k : Nat} (h : k < ps.length), (cellsSp ps)[k * 6]? = some (.int .i64 ps[k].x) ∧ (cellsSp ps)[k * 6 + 1]? = some (.int .i64 ps[k].y) ∧ (cellsSp ps)[k * 6 + 2]? = some (.int .i64 ps[k].g) ∧ (cellsSp ps)[k * 6 + 3]? = some (.int .i64 ps[k].lim) ∧ (cellsSp ps)[k * 6 + 4]? = some (.int .i64 ps[k].lo) ∧ (cellsSp ps)[k * 6 + 5]? = some (.int .i64 ps[k].hi) := by
  induction ps with
  | nil => intro k h; simp at h
  | cons p ps ih =>
    intro k h
    have e : cellsSp (p :: ps) = .int .i64 p.x :: .int .i64 p.y :: .int .i64 p.g :: .int .i64 p.lim :: .int .i64 p.lo :: .int .i64 p.hi :: cellsSp ps := rfl
    rw [e]
    cases k with
    | zero => exact ⟨rfl, rfl, rfl, rfl, rfl, rfl⟩
    | succ k =>
      have q := ih (k := k) (by simpa using h)
      rw [show (k + 1) * 6 = k * 6 + 6 by omega]
      exact q
theorem own_sps {W : World} {base e n : Nat} {v : Value} {ps : List Gs.Sup} (h : W.ownsRow base e 6 v n (cellsSp ps)) : ∃ A cap, v = .slice A ps.length cap ∧ Sups W A ps := by
  have hl : (cellsSp ps).length = n * 6 := h.1
  rw [cellsSp_len] at hl
  obtain rfl : n = ps.length := by omega
  rcases h.2 with ⟨h1, h2⟩ | ⟨g, cap, cur, h1, _⟩
  · rw [h1]
    exact ⟨none, 0, by rw [h2], .inl (List.eq_nil_of_length_eq_zero h2)⟩
  · subst h1
    refine ⟨_, cap, rfl, .inr ⟨g, 0, rfl, fun k hk => ?_⟩⟩
    obtain ⟨a0, a1, a2, a3, a4, a5⟩ := cellsSp_at hk
    simp only [Nat.zero_add]
    exact ⟨(h.cellAt (k * 6) (by omega)).trans a0, (h.cellAt (k * 6 + 1) (by omega)).trans a1, (h.cellAt (k * 6 + 2) (by omega)).trans a2, (h.cellAt (k * 6 + 3) (by omega)).trans a3, (h.cellAt (k * 6 + 4) (by omega)).trans a4, (h.cellAt (k * 6 + 5) (by omega)).trans a5⟩
end Go.Proofs.YthifcalemhpmoaaGreat
