/- The library's Compact at a list of points that the call itself has made: equal neighbours become one. -/
import Derived.Test.YtihckoenfklhpaaSortP
import Derived.Test.YtihckoenfklhpaaDrop
import Derived.Test.YtihckoenfklhpaaHullM
import Derived.Deep.DeepCutAuto
import Derived.WalkLawsBesides
import Derived.WalkSpells
namespace Go.Proofs.Ytihckoenfklhpaa
open Go.RowKit Go.Proofs.Gn
open Gx (dedup)
theorem dedup_snoc : ∀ (l : Pl) (a b : Int × Int), dedup (l ++ [a, b]) = if a = b then dedup (l ++ [a]) else dedup (l ++ [a]) ++ [b] := by
  intro l
  induction l with
  | nil =>
    intro a b
    simp only [List.nil_append, dedup]
    split
    · rename_i h; subst h; rfl
    · rfl
  | cons x l ih =>
    intro a b
    match l, ih with
    | [], ih =>
      have := ih a b
      simp only [List.nil_append] at this
      simp only [List.cons_append, List.nil_append]
      unfold dedup
      split
      · rename_i h
        subst h
        exact this
      · rw [this]
        split
        · rfl
        · rfl
    | y :: l, ih =>
      have := ih a b
      simp only [List.cons_append] at this ⊢
      conv => lhs; unfold dedup
      conv => rhs; unfold dedup
      split
      · exact this
      · rw [this]
        split <;> rfl
theorem dedup_take {ps : Pl} {k : Nat} (h0 : 0 < k) (h : k < ps.length) : dedup (ps.take (k + 1)) = if Gx.g ps (k - 1) = Gx.g ps k then dedup (ps.take k) else dedup (ps.take k) ++ [Gx.g ps k] := by
  obtain ⟨j, rfl⟩ : ∃ j, k = j + 1 := ⟨k - 1, by omega⟩
  have e1 : ps.take (j + 1 + 1) = ps.take j ++ [ps[j], ps[j + 1]] := by
    rw [List.take_succ_eq_append_getElem h, List.take_succ_eq_append_getElem (by omega), List.append_assoc]; rfl
  have e2 : ps.take (j + 1) = ps.take j ++ [ps[j]] := by rw [List.take_succ_eq_append_getElem (by omega)]
  rw [e1, dedup_snoc, Gx.g_eq h, Nat.add_sub_cancel, Gx.g_eq (by omega), e2]
theorem dedup_len : ∀ l : Pl, (dedup l).length ≤ l.length := by
  intro l
  induction l with
  | nil => exact Nat.le_refl _
  | cons a l ih =>
    match l, ih with
    | [], _ => exact Nat.le_refl _
    | b :: t, ih =>
      unfold dedup
      split
      · exact Nat.le_trans ih (by simp)
      · simp only [List.length_cons] at ih ⊢; omega
/-- Where the library stands behind the first equal neighbours: d points are kept of the first k + j. -/
def Inn (B : Nat) (W : World) (n k : Nat) (ps : Pl) (g cap : Nat) (wx : World) (d j : Nat) : Prop :=
  ∃ cur : Pl, d = (dedup (ps.take (k + j))).length ∧ d + 1 ≤ k + j ∧ cur.take d = dedup (ps.take (k + j)) ∧ (∀ t, k + j ≤ t + 1 → t < n → Gx.g cur t = Gx.g ps t) ∧
    wx.ownsRow B 24 2 (.slice (some ⟨g, 0, none⟩) n cap) n (cellsPl cur) ∧ Below B W wx
theorem cellsPl_set2 {ps : Pl} {k : Nat} (h : k < ps.length) (x y : Int) : ((cellsPl ps).set (k * 2) (.int .i64 x)).set (k * 2 + 1) (.int .i64 y) = cellsPl (ps.set k (x, y)) := by
  induction ps generalizing k with
  | nil => simp at h
  | cons p ps ih =>
    cases k with
    | zero => rfl
    | succ k =>
      have := ih (k := k) (by simpa using h)
      rw [show (k + 1) * 2 = k * 2 + 2 by omega, show k * 2 + 2 + 1 = k * 2 + 1 + 2 by omega]
      show .int .i64 p.1 :: .int .i64 p.2 :: ((cellsPl ps).set (k * 2) (.int .i64 x)).set (k * 2 + 1) (.int .i64 y) = _
      rw [this]
      rfl
theorem g_set_ne {l : Pl} {i j : Nat} {x : Int × Int} (h : i ≠ j) : Gx.g (l.set i x) j = Gx.g l j := by
  unfold Gx.g
  rw [List.getD_eq_getElem?_getD, List.getD_eq_getElem?_getD, List.getElem?_set_ne h]
theorem inn_same {B : Nat} {W : World} {n k : Nat} {ps : Pl} {g cap : Nat} {wx w' : World} {d j : Nat} (h : Inn B W n k ps g cap wx d j) (e : dedup (ps.take (k + j + 1)) = dedup (ps.take (k + j))) (hu : Up wx w') (hB : B ≤ W.heap.size) : Inn B W n k ps g cap w' d (j + 1) := by
  obtain ⟨cur, f1, f2, f3, f4, f5, f6⟩ := h
  exact ⟨cur, by rw [← Nat.add_assoc, e]; exact f1, by omega, by rw [← Nat.add_assoc, e]; exact f3, fun t h1 h2 => f4 t (by omega) h2, own_up f5 hu, below_up f6 hB hu⟩
theorem inn_step {B : Nat} {W : World} {n k : Nat} {ps : Pl} {g cap : Nat} {wx w' : World} {d j : Nat} {x y : Int} (h : Inn B W n k ps g cap wx d j) (e : dedup (ps.take (k + j + 1)) = dedup (ps.take (k + j)) ++ [(x, y)]) (hu : Up wx w') (hB : B ≤ W.heap.size) (hg : B ≤ g) (hkj : k + j < n) :
    Inn B W n k ps g cap ((w'.setCell ⟨g, d * 2, none⟩ (.int .i64 x)).setCell ⟨g, d * 2 + 1, none⟩ (.int .i64 y)) (d + 1) (j + 1) := by
  obtain ⟨cur, f1, f2, f3, f4, f5, f6⟩ := h
  have hl := own_len f5
  have f5' := own_up f5 hu
  have s1 := ((f5'.stored (d * 2) (.int .i64 x)).1.stored (d * 2 + 1) (.int .i64 y)).1
  rw [cellsPl_set2 (by omega)] at s1
  refine ⟨cur.set d (x, y), by rw [← Nat.add_assoc, e, List.length_append, ← f1]; rfl, by omega, ?_, fun t h1 h2 => ?_, s1, ?_⟩
  · rw [← Nat.add_assoc, e, ← f3, List.take_succ_eq_append_getElem (by simp; omega), List.take_set, List.set_eq_of_length_le (by rw [List.length_take]; omega)]
    simp
  · rw [g_set_ne (by omega)]
    exact f4 t (by omega) h2
  · exact ((below_up f6 hB hu).setCell hg _).setCell hg _
theorem own_setCells {B T d cap g : Nat} {xs : List Value} : ∀ (vs : List Value) (W : World) (o : Nat), W.ownsRow B T 2 (.slice (some ⟨g, 0, none⟩) d cap) d xs → d * 2 ≤ o → B ≤ g →
    (W.setCells g o vs).ownsRow B T 2 (.slice (some ⟨g, 0, none⟩) d cap) d xs ∧ Below B W (W.setCells g o vs) := by
  intro vs
  induction vs with
  | nil => intro W o h _ _; exact ⟨h, Below.refl _ _⟩
  | cons v r ih =>
    intro W o h ho hg
    have s1 := (h.stored o v).1
    rw [List.set_eq_of_length_le (by rw [h.1]; exact ho)] at s1
    have := ih _ (o + 1) s1 (by omega) hg
    exact ⟨this.1, ((Below.refl B W).setCell (p := ⟨g, o, none⟩) hg v).trans this.2⟩
theorem run_clear_pts (W : World) (ty : TypeId) (b o n c : Nat) (hn : 0 < n) (hc : ∀ j, j < n * 2 → (W.cell? ⟨b, o + j, none⟩).isSome = true) (hf : ∀ j, j < n * 2 → W.frozen? ⟨b, o + j, none⟩ = false) :
    ∃ vs, (Builtin.clear_ #[22] ty #[.slice (some ⟨b, o, none⟩) n c]).run Try.prog W = .ok (.tuple #[]) (W.setCells b o vs) := by
  have hz : ∀ v ∈ (Builtin.zeroCells (Value.agg #[Value.int IntKind.i64 0, Value.int IntKind.i64 0]).cells n).toList, v.oneCell' = true := by
    intro v hv
    simp only [Builtin.zeroCells, Array.mem_toList_iff, Array.mem_map, Array.mem_range] at hv
    obtain ⟨i, hi, rfl⟩ := hv
    have : i % (Value.agg #[Value.int IntKind.i64 0, Value.int IntKind.i64 0]).cells.size < 2 := Nat.mod_lt _ (by decide)
    generalize i % (Value.agg #[Value.int IntKind.i64 0, Value.int IntKind.i64 0]).cells.size = r at this ⊢
    match r, this with
    | 0, _ => rfl
    | 1, _ => rfl
  have hl : (Builtin.zeroCells (Value.agg #[Value.int IntKind.i64 0, Value.int IntKind.i64 0]).cells n).toList.length = n * 2 := by
    rw [Array.length_toList, size_zeroCells]; rfl
  refine ⟨(Builtin.zeroCells (Value.agg #[Value.int IntKind.i64 0, Value.int IntKind.i64 0]).cells n).toList, ?_⟩
  have hst := run_storeCells_cells (P := Try.prog) b o (Builtin.zeroCells (Value.agg #[Value.int IntKind.i64 0, Value.int IntKind.i64 0]).cells n).toList 0 W (by rw [hl]; simpa using hc) (by rw [hl]; simpa using hf) hz
  rw [Nat.add_zero] at hst
  obtain ⟨m, rfl⟩ : ∃ m, n = m + 1 := ⟨n - 1, by omega⟩
  simp [Builtin.clear_, run_underlying Try.underlying22, Try.zeroValue24, hst]
theorem p_compact1 {cap g : Nat} (W : World) :
    Calls Try.prog 66 #[.slice (some ⟨g, 0, none⟩) 1 cap] W fun e w' => e = .returned (.slice (some ⟨g, 0, none⟩) 1 cap) ∧ W = w' := by
  go_enter Try.func66, Try.ntmps66
  go_wp2
  go_ret
  exact ⟨rfl, rfl⟩
set_option maxRecDepth 100000 in
set_option maxHeartbeats 2000000 in
theorem p_compact {B n cap g : Nat} {ps : Pl} (W : World) (h : W.ownsRow B 24 2 (.slice (some ⟨g, 0, none⟩) n cap) n (cellsPl ps)) (hB : B ≤ W.heap.size) (hg : B ≤ g) (h2 : 2 ≤ n) (hn : n ≤ 70000) (hcap : n ≤ cap) (hcap2 : cap ≤ 9223372036854775807) :
    Calls Try.prog 66 #[.slice (some ⟨g, 0, none⟩) n cap] W fun e w' => e = .returned (.slice (some ⟨g, 0, none⟩) (dedup ps).length cap) ∧
      w'.ownsRow B 24 2 (.slice (some ⟨g, 0, none⟩) (dedup ps).length cap) (dedup ps).length (cellsPl (dedup ps)) ∧ Below B W w' := by
  have hln := own_len h
  have HO := hide h
  have HLN := hide hln
  clear h hln
  have g1 : (2 : Int) ≤ (n : Int) := by omega
  go_enter Try.func66, Try.ntmps66
  go_wp2_with fail
  go_loopw [3] (fun i wr => ∃ k : Nat, 1 ≤ k ∧ k ≤ n ∧ i = .int .i64 k ∧ Up W wr ∧ dedup (ps.take k) = ps.take k) (fun i _ => n - (intOf i).toNat)
  case atStart => exact ⟨1, by omega, by omega, rfl, up_refl _, by
    match ps with
    | [] => rfl
    | a :: t => rfl⟩
  case round =>
    obtain ⟨k, k1, kn, rfl, hu, hd⟩ := hrel
    by_cases hlt : k < n
    · have hl : k < ps.length := by rw [← unhide HLN]; exact hlt
      have hc := own_cells (own_up (unhide HO) hu)
      obtain ⟨a0, a1⟩ := pts_g hc (k := k - 1) (by omega)
      obtain ⟨b0, b1⟩ := pts_g hc (k := k) hl
      have hdt := dedup_take k1 hl
      have ht : ps.take k ++ [Gx.g ps k] = ps.take (k + 1) := by rw [List.take_succ_eq_append_getElem hl, Gx.g_eq hl]
      obtain ⟨P, hP⟩ : ∃ P, Gx.g ps (k - 1) = P := ⟨_, rfl⟩
      obtain ⟨Q, hQ⟩ : ∃ Q, Gx.g ps k = Q := ⟨_, rfl⟩
      rw [hP] at a0 a1 hdt
      rw [hQ] at b0 b1 hdt ht
      obtain ⟨p1, p2⟩ := P
      obtain ⟨q1, q2⟩ := Q
      simp only [Nat.zero_add] at a0 a1 b0 b1
      have HD := hide hd
      have HDT := hide hdt
      have HT := hide ht
      have j1 : IntKind.i64.wrap ((k : Int) - 1) = ((k - 1 : Nat) : Int) := by rw [IntWalk.i64_in _ ⟨by omega, by omega⟩]; omega
      have j2 : (k : Int) < (n : Int) := by omega
      have j3 : ((k - 1 : Nat) : Int) < (n : Int) := by omega
      clear hc hP hQ hd hdt ht
      have hcase : (q1 == p1) = false ∨ (q1 = p1 ∧ (q2 == p2) = false) ∨ (q1 = p1 ∧ q2 = p2) := by
        by_cases c1 : q1 = p1
        · by_cases c2 : q2 = p2
          · exact .inr (.inr ⟨c1, c2⟩)
          · exact .inr (.inl ⟨c1, by simpa using c2⟩)
        · exact .inl (by simpa using c1)
      rcases hcase with c | ⟨rfl, c⟩ | ⟨rfl, rfl⟩
      · have hd2 : dedup (ps.take (k + 1)) = ps.take (k + 1) := by
          rw [unhide HDT, if_neg (by intro e; simp at e; simp [e.1] at c), unhide HD, unhide HT]
        have HD2 := hide hd2
        clear hd2
        go_wp2_with fail
        go_quiet (fail)
        go_wp2_with fail
        go_roundw
        case rel => exact ⟨k + 1, by omega, by omega, by go_num, (by repeat' (first | (with_reducible exact up_refl _) | (with_reducible assumption) | (with_reducible refine up_alloc ?_ _) | (with_reducible refine up_drewN ?_ _) | (with_reducible refine up_drew ?_) | (with_reducible refine up_set ?_ (by first | (simp; done) | (simp; omega) | omega) _) | (refine up_trans ?_ (by with_reducible assumption)))), unhide HD2⟩
        case measure => simp [intOf]; omega
      · have hd2 : dedup (ps.take (k + 1)) = ps.take (k + 1) := by
          rw [unhide HDT, if_neg (by intro e; simp at e; simp [e] at c), unhide HD, unhide HT]
        have HD2 := hide hd2
        clear hd2
        go_wp2_with fail
        go_quiet (fail)
        go_wp2_with fail
        go_roundw
        case rel => exact ⟨k + 1, by omega, by omega, by go_num, (by repeat' (first | (with_reducible exact up_refl _) | (with_reducible assumption) | (with_reducible refine up_alloc ?_ _) | (with_reducible refine up_drewN ?_ _) | (with_reducible refine up_drew ?_) | (with_reducible refine up_set ?_ (by first | (simp; done) | (simp; omega) | omega) _) | (refine up_trans ?_ (by with_reducible assumption)))), unhide HD2⟩
        case measure => simp [intOf]; omega
      · have hd2 : dedup (ps.take (k + 1)) = ps.take k := by
          have := unhide HDT
          simp only [if_true] at this
          rw [this, unhide HD]
        have hlk : (ps.take k).length = k := by rw [List.length_take, ← unhide HLN]; omega
        go_wp2_with fail
        go_quiet (fail)
        go_wp2_with fail
        obtain ⟨L, hL⟩ : ∃ L, n - k = L := ⟨_, rfl⟩
        rw [hL]
        obtain ⟨wo, hwo⟩ : ∃ wo : World, wo = wr.drewN nq := ⟨_, rfl⟩
        have huo : Up W wo := by rw [hwo]; exact up_drewN hu _
        rw [← hwo]
        clear hwo
        have HS : Hid (Inn B W n k ps g cap wo k 1) := hide ⟨ps, by rw [hd2, hlk], Nat.le_refl _, by rw [hd2], fun _ _ _ => rfl, own_up (unhide HO) huo, huo.mono hB⟩
        clear hd2 hlk b0 b1 a0 a1 huo hu HT HD HDT
        go_loopw [3, 5] (fun i j wx => ∃ jn d : Nat, 1 ≤ jn ∧ jn ≤ L ∧ j = .int .i64 jn ∧ i = .int .i64 d ∧ Inn B W n k ps g cap wx d jn) (fun _ j _ => L - (intOf j).toNat)
        case atStart => exact ⟨1, k, by omega, by omega, rfl, rfl, unhide HS⟩
        case round =>
          obtain ⟨jn, d, e1, e2, rfl, rfl, hin⟩ := hrel
          have HIN := hide hin
          obtain ⟨cur, f1, f2, f3, f4, f5, f6⟩ := hin
          have f5l := own_len f5
          by_cases hlj : jn < L
          · obtain ⟨a0, a1⟩ := pts_g (own_cells f5) (k := k + jn) (by omega)
            obtain ⟨b0, b1⟩ := pts_g (own_cells f5) (k := k + (jn - 1)) (by omega)
            obtain ⟨d0, d1⟩ := pts_g (own_cells f5) (k := d) (by omega)
            have z0 := f5.frozenAt (d * 2)
            have z1 := f5.frozenAt (d * 2 + 1)
            rw [f4 (k + jn) (by omega) (by omega)] at a0 a1
            rw [f4 (k + (jn - 1)) (by omega) (by omega)] at b0 b1
            simp only [Nat.zero_add, Nat.add_mul] at a0 a1 b0 b1 d0 d1
            have hdt := dedup_take (ps := ps) (k := k + jn) (by omega) (by rw [← unhide HLN]; omega)
            rw [show k + jn - 1 = k + (jn - 1) by omega] at hdt
            obtain ⟨X, hX⟩ : ∃ X, Gx.g ps (k + jn) = X := ⟨_, rfl⟩
            obtain ⟨Y, hY⟩ : ∃ X, Gx.g ps (k + (jn - 1)) = X := ⟨_, rfl⟩
            rw [hX] at a0 a1 hdt
            rw [hY] at b0 b1 hdt
            obtain ⟨x1, x2⟩ := X
            obtain ⟨y1, y2⟩ := Y
            simp only at a0 a1 b0 b1
            have HDT := hide hdt
            have HX := hide hX
            have i1 : IntKind.i64.wrap ((jn : Int) - 1) = ((jn - 1 : Nat) : Int) := by rw [IntWalk.i64_in _ ⟨by omega, by omega⟩]; omega
            have i2 : (jn : Int) < (L : Int) := by omega
            have i3 : ((jn - 1 : Nat) : Int) < (L : Int) := by omega
            have i4 : (d : Int) < (n : Int) := by omega
            clear hdt hX hY f1 f3 f4 f5 f6
            have hcase : (x1 == y1) = false ∨ (x1 = y1 ∧ (x2 == y2) = false) ∨ (x1 = y1 ∧ x2 = y2) := by
              by_cases c1 : x1 = y1
              · by_cases c2 : x2 = y2
                · exact .inr (.inr ⟨c1, c2⟩)
                · exact .inr (.inl ⟨c1, by simpa using c2⟩)
              · exact .inl (by simpa using c1)
            rcases hcase with c | ⟨rfl, c⟩ | ⟨rfl, rfl⟩
            · have ed : dedup (ps.take (k + jn + 1)) = dedup (ps.take (k + jn)) ++ [(x1, x2)] := by
                rw [unhide HDT, if_neg (by intro e; simp at e; simp [e.1] at c)]
              have ST := hide (fun (w' : World) (hu : Up wr w') => inn_step (unhide HIN) ed hu hB hg (by omega))
              clear ed HDT
              go_wp2_with fail
              go_quiet (fail)
              go_wp2_with fail
              exact ⟨⟨jn + 1, d + 1, by omega, by omega, by go_num, by go_num, unhide ST _ (by repeat' (first | (with_reducible exact up_refl _) | (with_reducible assumption) | (with_reducible refine up_alloc ?_ _) | (with_reducible refine up_drewN ?_ _) | (with_reducible refine up_drew ?_) | (with_reducible refine up_set ?_ (by first | (simp; done) | (simp; omega) | omega) _) | (refine up_trans ?_ (by with_reducible assumption))))⟩, by simp [intOf]; omega⟩
            · have ed : dedup (ps.take (k + jn + 1)) = dedup (ps.take (k + jn)) ++ [(x1, x2)] := by
                rw [unhide HDT, if_neg (by intro e; simp at e; simp [e] at c)]
              have ST := hide (fun (w' : World) (hu : Up wr w') => inn_step (unhide HIN) ed hu hB hg (by omega))
              clear ed HDT
              go_wp2_with fail
              go_quiet (fail)
              go_wp2_with fail
              exact ⟨⟨jn + 1, d + 1, by omega, by omega, by go_num, by go_num, unhide ST _ (by repeat' (first | (with_reducible exact up_refl _) | (with_reducible assumption) | (with_reducible refine up_alloc ?_ _) | (with_reducible refine up_drewN ?_ _) | (with_reducible refine up_drew ?_) | (with_reducible refine up_set ?_ (by first | (simp; done) | (simp; omega) | omega) _) | (refine up_trans ?_ (by with_reducible assumption))))⟩, by simp [intOf]; omega⟩
            · have ed : dedup (ps.take (k + jn + 1)) = dedup (ps.take (k + jn)) := by
                rw [unhide HDT, if_pos rfl]
              have ST := hide (fun (w' : World) (hu : Up wr w') => inn_same (unhide HIN) ed hu hB)
              clear ed HDT
              go_wp2_with fail
              go_quiet (fail)
              go_wp2_with fail
              exact ⟨⟨jn + 1, d, by omega, by omega, by go_num, rfl, unhide ST _ (by repeat' (first | (with_reducible exact up_refl _) | (with_reducible assumption) | (with_reducible refine up_alloc ?_ _) | (with_reducible refine up_drewN ?_ _) | (with_reducible refine up_drew ?_) | (with_reducible refine up_set ?_ (by first | (simp; done) | (simp; omega) | omega) _) | (refine up_trans ?_ (by with_reducible assumption))))⟩, by simp [intOf]; omega⟩
          · obtain rfl : jn = L := by omega
            have ek : k + jn = n := by omega
            have ep : ps.take n = ps := List.take_of_length_le (by rw [← unhide HLN]; exact Nat.le_refl _)
            rw [ek, ep] at f1 f3
            have fz := fun j => f5.frozenAt j
            obtain ⟨vs, hvs⟩ := run_clear_pts wr 0 g (d * 2) (n - d) (cap - d) (by omega) (fun j hj => by
              rw [f5.cellAt _ (by omega)]
              have : d * 2 + j < (cellsPl cur).length := by rw [cellsPl_length]; omega
              rw [List.getElem?_eq_getElem this]; rfl) (fun j _ => fz _)
            have f7 := own_setCells vs wr (d * 2) (own_prefix f5 (m := d) (by omega)) (Nat.le_refl _) hg
            rw [cellsPl_take, f3] at f7
            have F7 := hide (show _ ∧ Below B W (wr.setCells g (d * 2) vs) from ⟨f7.1, f6.trans f7.2⟩)
            obtain ⟨WS, hWS⟩ : ∃ WS, wr.setCells g (d * 2) vs = WS := ⟨_, rfl⟩
            rw [hWS] at hvs F7
            have F1 := hide f1
            have i4 : (d : Int) < (n : Int) := by omega
            have i5 : d < n := by omega
            have i6 : d ≤ cap := by omega
            clear f1 f3 f4 f5 f6 f5l f7 fz hWS ep ek
            go_wp2_with fail
            go_ret
            rw [← unhide F1]
            exact ⟨rfl, unhide F7⟩
    · obtain rfl : k = n := by omega
      have e : dedup ps = ps := by
        have := hd
        rwa [List.take_of_length_le (by rw [← unhide HLN]; exact Nat.le_refl _)] at this
      have HF : Hid ((dedup ps).length = k) := hide (by rw [e]; exact (unhide HLN).symm)
      have HE := hide e
      clear hd e
      go_wp2_with fail
      go_ret
      refine ⟨?_, ?_, hu.mono hB⟩
      · rw [unhide HF]; rfl
      · rw [unhide HF, unhide HE]; exact own_up (unhide HO) hu
theorem p_compact_any {B n cap g : Nat} {ps : Pl} (W : World) (h : W.ownsRow B 24 2 (.slice (some ⟨g, 0, none⟩) n cap) n (cellsPl ps)) (hB : B ≤ W.heap.size) (hg : B ≤ g) (h1 : 1 ≤ n) (hn : n ≤ 70000) (hcap : n ≤ cap) (hcap2 : cap ≤ 9223372036854775807) :
    Calls Try.prog 66 #[.slice (some ⟨g, 0, none⟩) n cap] W fun e w' => e = .returned (.slice (some ⟨g, 0, none⟩) (dedup ps).length cap) ∧
      w'.ownsRow B 24 2 (.slice (some ⟨g, 0, none⟩) (dedup ps).length cap) (dedup ps).length (cellsPl (dedup ps)) ∧ Below B W w' := by
  rcases Nat.lt_or_ge n 2 with h2 | h2
  · obtain rfl : n = 1 := by omega
    have hl := own_len h
    match ps, hl with
    | [p], _ => exact (p_compact1 W).mono fun e w' ⟨he, hw⟩ => ⟨he, by rw [← hw]; exact h, by rw [← hw]; exact Below.refl _ _⟩
  · exact p_compact W h hB hg h2 hn hcap hcap2
end Go.Proofs.Ytihckoenfklhpaa
