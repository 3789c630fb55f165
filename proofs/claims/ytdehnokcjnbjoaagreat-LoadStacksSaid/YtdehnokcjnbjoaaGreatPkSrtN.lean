/- slices.Sort at a list of ints of the call's own. slices.Index and slices.Contains at lists of int. -/
import Derived.Test.YtdehnokcjnbjoaaGreatPkOwnN
import Derived.Test.YtdehnokcjnbjoaaGreatLdX
import Derived.Test.YtdehnokcjnbjoaaGreatShelfN
namespace Go.Proofs.YtdehnokcjnbjoaaGreat
open Go.RowKit Go.Proofs.Gn
attribute [local go_sem] Oper.semAt_some
set_option linter.unusedVariables false
theorem mem_lt {l : List Int} {x : Int} {k : Nat} (h : ∀ j (hj : j < l.length), j < k → l[j] ≠ x) (hk : l.length ≤ k) : ¬ x ∈ l := by
  intro hm
  obtain ⟨j, hj, e⟩ := List.getElem_of_mem hm
  exact h j hj (by omega) e
set_option maxRecDepth 100000 in
set_option maxHeartbeats 8000000 in
theorem p_IndexN (A : Option Addr) (l : List Int) (c : Nat) (x : Int) (w : World) (hA : Nms w A l) (hn : l.length ≤ 9223372036854775807) :
    Calls Tryz.prog 141 #[.slice A l.length c, .int .i64 x] w fun e w' => (∃ z : Int, e = .returned (.int .i64 z) ∧ (0 ≤ z ↔ x ∈ l)) ∧ Up w w' := by
  have HA := hide (fun (k : Nat) (hk : k < l.length) => (show ∃ b off, A = some ⟨b, off, none⟩ ∧ ∀ W, Up w W → W.cell? ⟨b, off + k, none⟩ = some (.int .i64 (l.getD k 0)) by
    rcases hA with h | ⟨b, off, e, hc⟩
    · rw [h] at hk; simp at hk
    · refine ⟨b, off, e, fun W hW => ?_⟩
      have q := up_cell hW (hc k hk)
      rw [List.getD_eq_getElem?_getD, List.getElem?_eq_getElem hk]
      exact q))
  have HY := hide (fun (k : Nat) (hk : k < l.length) (e : l.getD k 0 = x) => (show x ∈ l by
    rw [List.getD_eq_getElem?_getD, List.getElem?_eq_getElem hk] at e
    exact e ▸ List.getElem_mem hk))
  have HNo := hide (fun (h : ∀ k, k < l.length → l.getD k 0 ≠ x) => (show ¬ x ∈ l by
    intro hm
    obtain ⟨j, hj, e⟩ := List.getElem_of_mem hm
    refine h j hj ?_
    rw [List.getD_eq_getElem?_getD, List.getElem?_eq_getElem hj]
    exact e))
  clear hA
  generalize hV : (x ∈ l) = V at *
  clear hV
  generalize l.length = n at *
  go_enter Tryz.func141, Tryz.ntmps141
  go_upto_region 2 with fail
  go_loopw [8] (fun s9 wr => ∃ k : Nat, k ≤ n ∧ s9 = .int .i64 k ∧ (∀ j, j < k → l.getD j 0 ≠ x) ∧ Up w wr) (fun s9 _ => n - (intOf s9).toNat)
  case atStart => exact ⟨0, by omega, rfl, fun j hj => by omega, up_refl _⟩
  case round =>
    obtain ⟨k, hk, rfl, hnot, hu⟩ := hrel
    by_cases hlt : k < n
    · obtain ⟨b, off, rfl, hc⟩ := unhide HA k hlt
      have hy := hide (unhide HY k hlt)
      have hno := hide hnot
      have c0 := hc _ hu
      generalize hv : l.getD k 0 = v at *
      have HV := hide hv
      have i0 : (0 : Int) ≤ (k : Int) := by omega
      have i1 : (k : Int) < (n : Int) := by omega
      have i3 : (k : Int).toNat = k := by omega
      have hwk : IntKind.i64.wrap ((k : Int) + 1) = (k : Int) + 1 := IntWalk.i64_in _ ⟨by omega, by omega⟩
      clear hc hnot hv
      by_cases e : v = x
      · have e1 : (x == v) = true := by simp [e]
        have e2 : (v == x) = true := by simp [e]
        have he := hide e
        clear e
        go_wp2_with fail
        go_ret
        refine ⟨⟨k, rfl, ?_⟩, hu⟩
        have := unhide hy (unhide he)
        simp [this]
      · have e1 : (x == v) = false := by simp [Ne.symm e]
        have e2 : (v == x) = false := by simp [e]
        have he := hide e
        clear e
        go_wp2_with fail
        go_roundw
        case rel => exact ⟨k + 1, by omega, by go_num, fun j hj => by
          by_cases h : j < k
          · exact unhide hno j h
          · obtain rfl : j = k := by omega
            rw [unhide HV]
            exact unhide he, (by repeat' (first | (with_reducible exact up_refl _) | (with_reducible assumption) | (with_reducible refine up_alloc ?_ _) | (with_reducible refine up_drewN ?_ _) | (with_reducible refine up_drew ?_) | (with_reducible refine up_set ?_ (by first | (simp; done) | (simp; omega) | omega) _) | (refine up_trans ?_ (by with_reducible assumption))))⟩
        case measure => simp [intOf]; omega
    · obtain rfl : k = n := by omega
      have i1 : ¬ (k : Int) < (k : Int) := by omega
      have hno := hide (unhide HNo hnot)
      clear hnot
      go_wp2_with fail
      go_ret
      refine ⟨⟨-1, rfl, ?_⟩, hu⟩
      have := unhide hno
      simp [this]
set_option maxRecDepth 100000 in
set_option maxHeartbeats 8000000 in
theorem p_ContainsN (A : Option Addr) (l : List Int) (c : Nat) (x : Int) (w : World) (hA : Nms w A l) (hn : l.length ≤ 9223372036854775807) :
    Calls Tryz.prog 112 #[.slice A l.length c, .int .i64 x] w fun e w' => e = .returned (.bool (l.contains x)) ∧ Up w w' := by
  have HI := hide (fun W (hW : Up w W) => p_IndexN A l c x W (nms_up hA hW) hn)
  have HV : Hid (∀ z : Int, (0 ≤ z ↔ x ∈ l) → decide (0 ≤ z) = l.contains x) := hide fun z h => by
    by_cases hm : x ∈ l
    · simp [hm, h.2 hm]
    · have : ¬ 0 ≤ z := fun k => hm (h.1 k)
      simp [hm, this]
  generalize l.contains x = V at *
  generalize (x ∈ l) = M at *
  generalize l.length = n at *
  clear hA hn
  go_enter Tryz.func112, Tryz.ntmps112
  have hu := up_refl w
  go_wp2_with (go_at_call 141; (with_reducible refine (unhide HI _ hu).mono ?_); rintro e w1 ⟨⟨z, rfl, hz⟩, v1⟩; have HZ := hide hz; clear hz)
  go_ret
  exact ⟨by rw [← unhide HV z (unhide HZ)]; rfl, v1⟩
end Go.Proofs.YtdehnokcjnbjoaaGreat
namespace Go.Proofs.YtdehnokcjnbjoaaGreat
open Go.RowKit Go.Proofs.Gn Go.Shelf Go.Sort
attribute [local go_sem] Oper.semAt_some
set_option linter.unusedVariables false
theorem heap_srtN {w : World} {g n : Nat} {os : Array Obj} {cur : Array Value} {e : TypeId} {fr : Nat × Nat} (enc : Int → Value) (d : Array Int) (hb : w.heap[g]? = some (.cells cur e fr)) :
    (grow (putRow enc (Go.Sort.ahead w n) g 0 d) os).heap[g]? = some (.cells (putCells enc 0 d cur) e fr) := by
  have hg : g < w.heap.size := (Array.getElem?_eq_some_iff.1 hb).1
  rw [heap_grow_old _ _ (by simpa using hg)]
  simp [putRow, mapBlock, Go.Sort.ahead, Array.getElem?_modify, hb, onCells]
theorem grown_srtN {w : World} {g n : Nat} {os : Array Obj} (enc : Int → Value) (d : Array Int) : w.grownBy (grow (putRow enc (Go.Sort.ahead w n) g 0 d) os) (some g) := by
  refine ⟨rfl, rfl, rfl, by simp, fun k hk hne => ?_⟩
  rw [heap_grow_old _ _ (by simpa using hk)]
  have : g ≠ k := fun e => hne (by rw [e])
  simp [putRow, mapBlock, Go.Sort.ahead, Array.getElem?_modify, this]
theorem take_putN (enc : Int → Value) (cur : Array Value) (ts : List Int) (h : ts.length ≤ cur.size) : (putCells enc 0 ts.toArray cur).toList.take ts.length = ts.map enc := by
  apply List.ext_getElem?
  intro j
  by_cases hj : j < ts.length
  · rw [List.getElem?_take_of_lt hj, Array.getElem?_toList]
    simp [putCells, hj, show j < cur.size by omega]
  · rw [List.getElem?_take_eq_none (by omega), List.getElem?_eq_none (by simp; omega)]
theorem own_srtN {w : World} {base g cap n m : Nat} {e : TypeId} {os : Array Obj} {xs : List Value} (enc : Int → Value) {ts : List Int} (h : w.ownsRow base e 1 (.slice (some ⟨g, 0, none⟩) n cap) n xs) (hl : ts.length = n) :
    (grow (putRow enc (Go.Sort.ahead w m) g 0 ts.toArray) os).ownsRow base e 1 (.slice (some ⟨g, 0, none⟩) n cap) n (ts.map enc) := by
  rcases h with ⟨_, h | ⟨g', cap', cur, e1, hb, hg, h1, h2, h3, h4⟩⟩
  · simp at h
  · simp only [Value.slice.injEq, Option.some.injEq, Addr.mk.injEq, and_true, true_and] at e1
    obtain ⟨rfl, rfl⟩ := e1
    refine ⟨by simp [hl], .inr ⟨g, cap, _, rfl, hb, heap_srtN enc _ hg, h1, h2, by simp [putCells, h3], ?_⟩⟩
    rw [Nat.mul_one, ← hl]
    exact take_putN enc cur ts (by omega)
theorem holds_N {w : World} {base g cap n : Nat} {e : TypeId} (enc : Int → Value) {ts : List Int} (h : w.ownsRow base e 1 (.slice (some ⟨g, 0, none⟩) n cap) n (ts.map enc)) : Holds enc w g 0 ts.toArray := by
  intro j hj
  have hl : (ts.map enc).length = n * 1 := h.1
  have hj' : j < ts.length := by simpa using hj
  have hj2 : j < n * 1 := by rw [← hl]; simpa using hj'
  rw [Nat.zero_add, h.cellAt j hj2, h.frozenAt j]
  exact ⟨by simp [hj'], rfl⟩
theorem p_SortN {base : Nat} {g cap : Nat} {l : List Int} {w0 w : World} {e : TypeId} (h : w.ownsRow base e 1 (.slice (some ⟨g, 0, none⟩) l.length cap) l.length (cellsN l)) (h0 : 0 < l.length) (hn : l.length ≤ 1000000) (hb : w0.heap.size ≤ base) (hu : Up w0 w) :
    Calls Tryz.prog 113 #[.slice (some ⟨g, 0, none⟩) l.length cap] w fun e1 w' => e1 = .returned (.tuple #[]) ∧ w'.ownsRow base e 1 (.slice (some ⟨g, 0, none⟩) l.length cap) l.length (cellsN (l.mergeSort fun x y => decide (x ≤ y))) ∧ Up w0 w' := by
  have hg : base ≤ g ∧ g < w.heap.size := h.lt g rfl
  have c := Any.slices_Sort_int Tryz.sortN g 0 cap l w (holds_N _ h) hg.2 (by omega)
  refine Calls.mono (show Calls Tryz.prog 113 #[.slice (some ⟨g, 0, none⟩) l.length cap] w _ from c) ?_
  rintro e1 w' ⟨rfl, n, os, rfl⟩
  refine ⟨rfl, ?_, ?_⟩
  · exact own_srtN (Value.int .i64) h (List.length_mergeSort _)
  · exact hu.grown (grown_srtN _ _) hu.size fun j hj => by injection hj with hj; subst hj; omega
end Go.Proofs.YtdehnokcjnbjoaaGreat
