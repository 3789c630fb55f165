/- The library's sort at lists of indexes, with inOrder's closure. -/
import Derived.Test.YtepblnnebeglbaaInOrd
import Derived.Test.YtepblnnebeglbaaShelfI
namespace Go.Proofs.Ytepblnnebeglbaa
open Go.RowKit Go.Proofs.Gn Go.Shelf Go.Sort
theorem one_O (n : Nat) : OneCell (encO n) := fun _ => rfl
theorem sortsO : SortsO := by
  intro base n cap g B b off cpp ps w ho hl h0 hn hB hc hgB hgb
  subst hl
  have eg : ∀ args w, (callFunc 60 args).run Try.prog w = .ok (.enter 60 args) w := enters_of Try.func60 (by kernel_rfl) rfl
  have ho2 := ho
  rw [← cells_encO (n := ps.length) (fun i hi => List.mem_range.1 hi)] at ho2
  have hgl : g < w.heap.size := by
    rcases ho.2 with ⟨h, _⟩ | ⟨g', cap', cur, e1, hb, hg, _⟩
    · simp at h
    · simp only [Value.slice.injEq, Option.some.injEq, Addr.mk.injEq, and_true, true_and] at e1
      obtain ⟨rfl, rfl⟩ := e1
      exact (Array.getElem?_eq_some_iff.1 hg).1
  have hcon := Any.slices_SortFunc Try.sortI (encO ps.length) (one_O _) (cfC ps.length ps) (swoO ps.length ps) 60 #[.pointer (some ⟨B, 0, none⟩)] g 0 cap (List.range ps.length).toArray w eg (lays_O B b off cpp g ps w hB hn h0 hc hgB hgb _) (holds_O _ ho2) hgl (by simp; omega)
  change Calls Try.prog 59 _ _ _ at hcon
  have e1 : ((List.range ps.length).toArray).size = ps.length := by simp
  rw [e1] at hcon
  refine hcon.mono fun e w' ⟨he, d', m, os, hp, hs, hw⟩ => ?_
  obtain ⟨p1, _, p3⟩ := hp
  rw [e1] at p1
  have p4 : d'.toList.Perm (List.range ps.length) := by
    have x1 : d'.extract 0 ps.length = d' := by rw [← p1, Array.extract_size]
    have x2 : (List.range ps.length).toArray.extract 0 ps.length = (List.range ps.length).toArray := by
      have t : (List.range ps.length).toArray.extract 0 ((List.range ps.length).toArray).size = (List.range ps.length).toArray := Array.extract_size
      rwa [e1] at t
    rw [x1, x2] at p3
    exact p3
  have hin : ∀ i ∈ d'.toList, i < ps.length := fun i hi => List.mem_range.1 (p4.mem_iff.1 hi)
  have hnd : d'.toList.Nodup := p4.nodup_iff.2 List.nodup_range
  refine ⟨he, d'.toList, p4, ?_, ?_, ?_⟩
  · rw [List.pairwise_iff_getElem]
    intro i j hi hj hij
    have k := hs i j (Nat.zero_le _) hij (by simp at hj; omega)
    rw [getElem!_pos d' i (by simpa using hi), getElem!_pos d' j (by simpa using hj)] at k
    unfold ltOf cfC at k
    have q1 := hin _ (List.getElem_mem hi)
    have q2 := hin _ (List.getElem_mem hj)
    simp only [Array.getElem_toList] at q1 q2 ⊢
    rw [decide_eq_false_iff_not, cfO_neg, clO_in q1, clO_in q2] at k
    rcases ltS_tri ps d'[i] d'[j] with t | t | t
    · exact t
    · exfalso
      have ne := (List.pairwise_iff_getElem.1 hnd) i j hi hj hij
      simp only [Array.getElem_toList] at ne
      exact ne t
    · exact absurd t k
  · have q := own_sortO (m := m) (os := os) (encO ps.length) (ts := d'.toList) ho2 (by simp [p1])
    rw [cells_encO hin, Array.toArray_toList] at q
    rw [hw]; exact q
  · rw [hw]; exact grown_sortO _ _
end Go.Proofs.Ytepblnnebeglbaa
