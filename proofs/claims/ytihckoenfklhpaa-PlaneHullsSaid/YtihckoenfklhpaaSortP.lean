/- The library's sort, reversal and copy at lists of points. -/
import Derived.Test.YtihckoenfklhpaaOwn
import Derived.Test.YtihckoenfklhpaaCmp
import Derived.Test.YtihckoenfklhpaaShelf
namespace Go.Proofs.Ytihckoenfklhpaa
open Go.RowKit Go.Proofs.Gn Go.Shelf Go.Sort
def encP (x : Int × Int) : List Value := [.int .i64 x.1, .int .i64 x.2]
theorem flatK_encP (ps : Pl) : (flatK encP 2 ps.toArray).toList = cellsPl ps := by
  apply List.ext_getElem?
  intro i
  rcases Nat.lt_or_ge i (ps.length * 2) with h | h
  · have hs : (flatK encP 2 ps.toArray).size = ps.length * 2 := by simp
    have hg := get_flatK encP 2 ps.toArray i (by simpa using h)
    rw [getElem!_pos _ i (by rw [hs]; exact h)] at hg
    rw [Array.getElem?_toList, Array.getElem?_eq_getElem (by rw [hs]; exact h), hg]
    have hk : i / 2 < ps.length := by omega
    have c := cellsPl_at hk
    have ee : (ps.toArray)[i / 2]! = ps[i / 2] := by rw [getElem!_pos _ _ (by simpa using hk)]; simp
    rw [ee]
    rcases Nat.mod_two_eq_zero_or_one i with m | m
    · rw [m]
      have e : i = i / 2 * 2 := by omega
      rw [← e] at c
      rw [c.1]; rfl
    · rw [m]
      have e : i = i / 2 * 2 + 1 := by omega
      have c2 := c.2
      rw [← e] at c2
      rw [c2]; rfl
  · rw [List.getElem?_eq_none (by simp; omega), List.getElem?_eq_none (by rw [cellsPl_length]; omega)]
theorem own_holds {W : World} {base e n cap g : Nat} {ps : Pl} (h : W.ownsRow base e 2 (.slice (some ⟨g, 0, none⟩) n cap) n (cellsPl ps)) : HoldsK encP 2 W g 0 ps.toArray := by
  intro j hj
  have hl : (cellsPl ps).length = n * 2 := h.1
  have hl2 := hl
  rw [cellsPl_length] at hl2
  have hj2 : j < n * 2 := by simp at hj; omega
  rw [Nat.zero_add, h.cellAt j hj2, h.frozenAt j]
  refine ⟨?_, rfl⟩
  rw [getElem!_pos _ j hj, id, ← flatK_encP, Array.getElem?_toList, Array.getElem?_eq_getElem hj]
/-- Other points of the same number laid into the row. -/
theorem own_put {W : World} {base e n cap g m : Nat} {ps qs : Pl} {os : Array Obj} (h : W.ownsRow base e 2 (.slice (some ⟨g, 0, none⟩) n cap) n (cellsPl ps)) (hq : qs.length = ps.length) :
    (grow (putRowK encP 2 (Go.Sort.ahead W m) g 0 qs.toArray) os).ownsRow base e 2 (.slice (some ⟨g, 0, none⟩) n cap) n (cellsPl qs) := by
  have hn := own_len h
  rcases h with ⟨hl, h | ⟨g', cap', cur, e1, hb, hg, h1, h2, h3, h4⟩⟩
  · simp at h
  · simp only [Value.slice.injEq, Option.some.injEq, Addr.mk.injEq, and_true, true_and] at e1
    obtain ⟨rfl, rfl⟩ := e1
    have hlt : g < W.heap.size := (Array.getElem?_eq_some_iff.1 hg).1
    refine ⟨by rw [cellsPl_length]; omega, .inr ⟨g, cap, putCells id 0 (flatK encP 2 qs.toArray) cur, rfl, hb, ?_, h1, h2, by simp [putCells, h3], ?_⟩⟩
    · unfold grow putRowK putRow mapBlock
      simp only [Array.getElem?_append, Array.size_modify]
      have hlt2 : g < (Go.Sort.ahead W m).heap.size := hlt
      rw [if_pos hlt2]
      have hh : (Go.Sort.ahead W m).heap[g]? = some (.cells cur e (0, 0)) := hg
      rw [Array.getElem?_modify, if_pos rfl, hh]
      rfl
    · have hs : (flatK encP 2 qs.toArray).size = n * 2 := by simp [hq, hn]
      rw [← flatK_encP]
      apply List.ext_getElem?
      intro i
      have hcs : n * 2 ≤ cur.size := by rw [h3]; exact Nat.mul_le_mul_right _ h1
      rcases Nat.lt_or_ge i (n * 2) with k | k
      · rw [List.getElem?_take, if_pos k, Array.getElem?_toList]
        unfold putCells
        rw [Array.getElem?_mapIdx, Array.getElem?_eq_getElem (by omega)]
        simp only [Option.map_some, hs]
        rw [if_pos ⟨Nat.zero_le _, by omega⟩, Array.getElem?_toList, Array.getElem?_eq_getElem (by rw [hs]; exact k), Nat.sub_zero, getElem!_pos _ i (by rw [hs]; exact k)]
        rfl
      · rw [List.getElem?_take, if_neg (by omega), List.getElem?_eq_none (by simp at hs ⊢; omega)]
theorem below_put {W : World} {B g m : Nat} {qs : Pl} {os : Array Obj} (hg : B ≤ g) (hB : B ≤ W.heap.size) : Go.RowKit.Below B W (grow (putRowK encP 2 (Go.Sort.ahead W m) g 0 qs.toArray) os) := by
  refine ⟨rfl, rfl, rfl, by simp [putRowK, Go.Sort.ahead], fun k hk => ?_⟩
  unfold grow putRowK putRow mapBlock
  simp only [Array.getElem?_append, Array.size_modify]
  have : k < (Go.Sort.ahead W m).heap.size := by show k < W.heap.size; omega
  rw [if_pos this, Array.getElem?_modify, if_neg (by omega)]
  rfl
/-! ### Sorting -/
theorem swoP : SWO (ltOf fun a b : Int × Int => cmp2 a.1 a.2 b.1 b.2) where
  irrefl x := by unfold ltOf; rw [decide_eq_false_iff_not, cmp2_neg]; exact Gx.lt2_irrefl x
  trans x y z h1 h2 := by
    unfold ltOf at *
    rw [decide_eq_true_eq, cmp2_neg] at *
    exact Gx.lt2_trans h1 h2
  ntrans x y z h1 h2 := by
    unfold ltOf at *
    rw [decide_eq_false_iff_not, cmp2_neg] at *
    intro h
    rcases Gx.lt2_tri y x with k | k | k
    · exact h2 (Gx.lt2_trans k h)
    · subst k; exact h2 h
    · exact h1 k
theorem cmpLaysP (blk off size : Nat) (w : World) : CmpLays Try.prog 65 #[] encP 2 (fun a b : Int × Int => cmp2 a.1 a.2 b.1 b.2) blk off size w :=
  fun _ _ _ _ x y => (p_compareG x.1 x.2 y.1 y.2 _).mono fun _ _ ⟨he, hg⟩ => ⟨he, hg⟩
theorem encP_one : ∀ x, ∀ v ∈ encP x, v.oneCell' = true := fun x v hv => by simp [encP] at hv; rcases hv with rfl | rfl <;> rfl
theorem p_sort {B n cap g : Nat} {ps : Pl} (W : World) (h : W.ownsRow B 24 2 (.slice (some ⟨g, 0, none⟩) n cap) n (cellsPl ps)) (hB : B ≤ W.heap.size) (hg : B ≤ g) (hgl : g < W.heap.size) (hn : n ≤ 70000) :
    Calls Try.prog 64 #[.slice (some ⟨g, 0, none⟩) n cap, .func (.func 65) #[] #[]] W fun e w' => e = .returned (.tuple #[]) ∧
      ∃ qs : Pl, qs.Perm ps ∧ qs.Pairwise Gx.le2 ∧ w'.ownsRow B 24 2 (.slice (some ⟨g, 0, none⟩) n cap) n (cellsPl qs) ∧ Go.RowKit.Below B W w' := by
  have eg : ∀ args w, (callFunc 65 args).run Try.prog w = .ok (.enter 65 args) w := enters_of Try.func65 (by kernel_rfl) rfl
  have hln := own_len h
  have hcon := AnyQ.slices_SortFunc Try.sortP 2 Try.isAgg24 Try.sizeOf24 encP (fun _ => rfl) encP_one (fun a b : Int × Int => cmp2 a.1 a.2 b.1 b.2) swoP 65 #[] g 0 cap ps.toArray W eg (cmpLaysP g 0 _ W) (own_holds h) hgl (by simp; omega)
  change Calls Try.prog 64 _ _ _ at hcon
  have e1 : (ps.toArray).size = n := by simp [hln]
  rw [e1] at hcon
  refine hcon.mono fun e w' ⟨he, d', m, os, hp, hs, hw⟩ => ⟨he, d'.toList, ?_, ?_, ?_, ?_⟩
  · obtain ⟨h1, _, h3⟩ := hp
    have h1' : d'.size = n := by rw [h1, e1]
    rw [← h1'] at h3
    simp only [Array.extract_size] at h3
    have : (ps.toArray).extract 0 d'.size = ps.toArray := by rw [h1', ← e1, Array.extract_size]
    rw [this] at h3
    simpa using h3
  · have h1' : d'.size = n := by rw [hp.1, e1]
    rw [List.pairwise_iff_getElem]
    intro i j hi hj hij
    have k := hs i j (Nat.zero_le _) hij (by simp at hj; omega)
    rw [getElem!_pos d' i (by simpa using hi), getElem!_pos d' j (by simpa using hj)] at k
    unfold ltOf at k
    rw [decide_eq_false_iff_not, cmp2_neg] at k
    simp only [Array.getElem_toList]
    rcases Gx.lt2_tri d'[i] d'[j] with t | t | t
    · exact .inr t
    · exact .inl t
    · exact absurd t k
  · have h1' : d'.toList.length = ps.length := by have := hp.1; simp at this ⊢; omega
    have := own_put (m := m) (os := os) h h1'
    rw [Array.toArray_toList] at this
    rw [hw]; exact this
  · have := below_put (W := W) (m := m) (qs := d'.toList) (os := os) hg hB
    rw [Array.toArray_toList] at this
    rw [hw]; exact this
theorem p_reverse {B n cap g : Nat} {ps : Pl} (W : World) (h : W.ownsRow B 24 2 (.slice (some ⟨g, 0, none⟩) n cap) n (cellsPl ps)) (hB : B ≤ W.heap.size) (hg : B ≤ g) (hn : n ≤ 70000) :
    Calls Try.prog 68 #[.slice (some ⟨g, 0, none⟩) n cap] W fun e w' => e = .returned (.tuple #[]) ∧
      w'.ownsRow B 24 2 (.slice (some ⟨g, 0, none⟩) n cap) n (cellsPl ps.reverse) ∧ Go.RowKit.Below B W w' ∧ W.grownBy w' (some g) := by
  have hln := own_len h
  have hcon := AnyQ.slices_Reverse Try.revP 2 Try.isAgg24 Try.sizeOf24 encP (fun _ => rfl) encP_one g 0 cap ps.toArray W (own_holds h) (by simp; omega)
  change Calls Try.prog 68 _ _ _ at hcon
  have e1 : (ps.toArray).size = n := by simp [hln]
  rw [e1] at hcon
  refine hcon.mono fun e w' ⟨he, m, hw⟩ => ⟨he, ?_, ?_, ?_⟩
  · have := own_put (m := m) (os := #[]) (qs := ps.reverse) h (by simp)
    rw [grow_empty] at this
    rw [hw]; simpa using this
  · have := below_put (W := W) (m := m) (qs := ps.reverse) (os := #[]) hg hB
    rw [grow_empty] at this
    rw [hw]; simpa using this
  · rw [hw]
    refine ⟨rfl, rfl, rfl, by simp [putRowK, Go.Sort.ahead], fun k hk hne => ?_⟩
    unfold putRowK putRow mapBlock
    have : g ≠ k := fun e => hne (by rw [e])
    simp only [Array.getElem?_modify]
    rw [if_neg this]
    rfl
theorem cells_at {w : World} {b off : Nat} {ps : Pl} (hc : ∀ k (h : k < ps.length), w.cell? ⟨b, off + k * 2, none⟩ = some (.int .i64 ps[k].1) ∧ w.cell? ⟨b, off + k * 2 + 1, none⟩ = some (.int .i64 ps[k].2)) :
    ∀ j u, (cellsPl ps)[j]? = some u → w.cell? ⟨b, off + j, none⟩ = some u := by
  intro j u hj
  have hl : j < ps.length * 2 := by rw [← cellsPl_length]; exact (List.getElem?_eq_some_iff.1 hj).1
  have hk : j / 2 < ps.length := by omega
  have c := cellsPl_at hk
  have d := hc _ hk
  rcases Nat.mod_two_eq_zero_or_one j with m | m
  · have e : j = j / 2 * 2 := by omega
    rw [← e] at c d
    rw [c.1] at hj
    rw [d.1, ← hj]
  · have e : j / 2 * 2 + 1 = j := by omega
    have c2 := c.2
    have d2 := d.2
    rw [Nat.add_assoc, e] at d2
    rw [e] at c2
    rw [c2] at hj
    rw [d2, ← hj]
theorem cellsPl_one (ps : Pl) : ∀ u ∈ cellsPl ps, u.oneCell' = true := by
  intro u hu
  simp only [cellsPl, List.mem_flatMap] at hu
  obtain ⟨p, _, hp⟩ := hu
  exact encP_one p u hp
theorem p_clone (A : Option Addr) (ps : Pl) (cap : Nat) (W : World) (h : Pts W A ps) (h0 : 0 < ps.length) (hn : ps.length ≤ 70000) :
    Calls Try.prog 63 #[.slice A ps.length cap] W fun e w' => ∃ v, e = .returned v ∧ w'.ownsRow W.heap.size 24 2 v ps.length (cellsPl ps) ∧ Go.RowKit.Below W.heap.size W w' := by
  rcases h with rfl | ⟨b, off, rfl, hc⟩
  · simp at h0
  obtain ⟨i0, hi, hz0, hz1, hz2⟩ := info_parts info_pt
  have hcon := AnyE.slices_Clone Try.cloneP i0 _ 2 16 hi hz0 hz1 hz2 rfl (by decide) Try.sizeOf24 b off ps.length cap (cellsPl ps) W (cellsPl_length ps) (by unfold maxLen; omega) (by omega) (cells_at hc) (cellsPl_one ps)
  change Calls Try.prog 63 _ _ _ at hcon
  exact hcon.mono fun e w' ⟨v, he, ho, _, hb⟩ => ⟨v, he, ho, hb⟩
end Go.Proofs.Ytihckoenfklhpaa
