/- The order of the supports: what the program's closure inOrder$1 returns. The order of the supports: what the library's sort asks of the closure, and what it leaves behind. The order of the supports: what the program's inOrder returns. -/
import Derived.Test.YtepblnnebeglbaaDvd
import Derived.Sort.Grow
import Derived.StillTailTactics
import Derived.Test.YtepblnnebeglbaaDvdM
import Derived.Shelf.SlSortCmp.Kit1
import Derived.Deep.AppendLies
set_option linter.unusedVariables false
namespace Go.Proofs.Ytepblnnebeglbaa
open Go.RowKit Go.Proofs.Gn
def or3 (x y z : Int) : Int := if x = 0 then (if y = 0 then z else y) else x
theorem c_CompareI (a b : Int) (w : World) :
    Calls Try.prog 62 #[.int .i64 a, .int .i64 b] w fun e w' => e = .returned (.int .i64 (cmpV a b)) ∧ w = w' := by
  unfold cmpV
  by_cases c1 : a < b
  · go_enter Try.func62, Try.ntmps62
    go_wp2
    go_ret
    exact ⟨rfl, rfl⟩
  by_cases c2 : b < a
  · go_enter Try.func62, Try.ntmps62
    go_wp2
    go_ret
    exact ⟨rfl, rfl⟩
  · go_enter Try.func62, Try.ntmps62
    go_wp2
    go_ret
    exact ⟨rfl, rfl⟩
theorem c_Or3 {b off : Nat} {x y z : Int} (w : World) (h0 : w.cell? ⟨b, off, none⟩ = some (.int .i64 x)) (h1 : w.cell? ⟨b, off + 1, none⟩ = some (.int .i64 y)) (h2 : w.cell? ⟨b, off + 2, none⟩ = some (.int .i64 z)) :
    Calls Try.prog 61 #[.slice (some ⟨b, off, none⟩) 3 3] w fun e w' => e = .returned (.int .i64 (or3 x y z)) ∧ w = w' := by
  unfold or3
  by_cases hx : x = 0
  · subst hx
    by_cases hy : y = 0
    · subst hy
      by_cases hz : z = 0
      · subst hz
        go_enter Try.func61, Try.ntmps61
        go_wp2
        go_rounds 4
        go_ret
        exact ⟨rfl, rfl⟩
      · have e1 : (z == 0) = false := by simp; exact hz
        go_enter Try.func61, Try.ntmps61
        go_wp2
        go_rounds 3
        go_ret
        exact ⟨rfl, rfl⟩
    · have e1 : (y == 0) = false := by simp; exact hy
      rw [if_neg hy]
      go_enter Try.func61, Try.ntmps61
      go_wp2
      go_rounds 2
      go_ret
      exact ⟨rfl, rfl⟩
  · have e1 : (x == 0) = false := by simp; exact hx
    rw [if_neg hx]
    go_enter Try.func61, Try.ntmps61
    go_wp2
    go_rounds 1
    go_ret
    exact ⟨rfl, rfl⟩
/-- New blocks and draws, and nothing else. -/
def GrI (w w' : World) : Prop := ∃ q os, w' = Go.Sort.grow (w.drewN q) os
theorem grI_refl (w : World) : GrI w w := ⟨0, #[], by simp [Go.Sort.grow, World.drewN]⟩
theorem grI_alloc {a b : World} (h : GrI a b) (o : Obj) : GrI a (b.alloc o) := by
  obtain ⟨q, os, rfl⟩ := h
  exact ⟨q, os ++ #[o], by rw [Go.Sort.alloc_eq_grow, Go.Sort.grow_grow]⟩
theorem grI_drew {a b : World} (h : GrI a b) : GrI a b.drew := by
  obtain ⟨q, os, rfl⟩ := h
  exact ⟨q + 1, os, rfl⟩
set_option maxRecDepth 100000 in
set_option maxHeartbeats 8000000 in
theorem p_inO1 (B b off n cap a c : Nat) (ax ay cx cy : Int) (w : World) (hB : w.cell? ⟨B, 0, none⟩ = some (.slice (some ⟨b, off, none⟩) n cap)) (hn : n ≤ 48) (ha : a < n) (hc : c < n)
    (h0 : w.cell? ⟨b, off + a * 6, none⟩ = some (.int .i64 ax)) (h1 : w.cell? ⟨b, off + a * 6 + 1, none⟩ = some (.int .i64 ay))
    (h2 : w.cell? ⟨b, off + c * 6, none⟩ = some (.int .i64 cx)) (h3 : w.cell? ⟨b, off + c * 6 + 1, none⟩ = some (.int .i64 cy)) :
    Calls Try.prog 60 #[.int .i64 a, .int .i64 c, .pointer (some ⟨B, 0, none⟩)] w fun e w' => e = .returned (.int .i64 (or3 (cmpV ax cx) (cmpV ay cy) (cmpV a c))) ∧ GrI w w' := by
  have CX : ∀ W : World, Calls Try.prog 42 #[.int .i64 ax, .int .i64 cx] W fun e w' => e = .returned (.int .i64 (cmpV ax cx)) ∧ W = w' := fun W => c_Compare ax cx W
  have CY : ∀ W : World, Calls Try.prog 42 #[.int .i64 ay, .int .i64 cy] W fun e w' => e = .returned (.int .i64 (cmpV ay cy)) ∧ W = w' := fun W => c_Compare ay cy W
  have CI : ∀ W : World, Calls Try.prog 62 #[.int .i64 a, .int .i64 c] W fun e w' => e = .returned (.int .i64 (cmpV a c)) ∧ W = w' := fun W => c_CompareI a c W
  obtain ⟨X, hX⟩ : ∃ X, cmpV ax cx = X := ⟨_, rfl⟩
  obtain ⟨Y, hY⟩ : ∃ X, cmpV ay cy = X := ⟨_, rfl⟩
  obtain ⟨I, hI⟩ : ∃ X, cmpV a c = X := ⟨_, rfl⟩
  rw [hX, hY, hI]
  rw [hX] at CX
  rw [hY] at CY
  rw [hI] at CI
  clear hX hY hI
  have CO : ∀ (W : World) (g : Nat), W.cell? ⟨g, 0, none⟩ = some (.int .i64 X) → W.cell? ⟨g, 1, none⟩ = some (.int .i64 Y) → W.cell? ⟨g, 2, none⟩ = some (.int .i64 I) → Calls Try.prog 61 #[.slice (some ⟨g, 0, none⟩) 3 3] W fun e w' => e = .returned (.int .i64 (or3 X Y I)) ∧ W = w' := fun W g k0 k1 k2 => c_Or3 W k0 k1 k2
  have HCX := hide CX
  have HCY := hide CY
  have HCI := hide CI
  have HCO := hide CO
  clear CX CY CI CO
  generalize or3 X Y I = R at *
  have i0 : (0 : Int) ≤ (a : Int) := by omega
  have i1 : (a : Int) < (n : Int) := by omega
  have i2 : (0 : Int) ≤ (c : Int) := by omega
  have i3 : (c : Int) < (n : Int) := by omega
  have t1 : (a : Int).toNat = a := by omega
  have t2 : (c : Int).toNat = c := by omega
  obtain ⟨W, hW⟩ : ∃ W, W = w := ⟨_, rfl⟩
  rw [← hW] at hB h0 h1 h2 h3 
  have c5 : GrI w W := by rw [hW]; exact grI_refl w
  rw [show Calls Try.prog 60 #[.int .i64 a, .int .i64 c, .pointer (some ⟨B, 0, none⟩)] w = Calls Try.prog 60 #[.int .i64 a, .int .i64 c, .pointer (some ⟨B, 0, none⟩)] W by rw [hW]]
  clear hW
  go_enter Try.func60, Try.ntmps60
  go_upto_region 1 with fail
  go_region_held3 (fun wx => wx.cell? ⟨B, 0, none⟩ = some (.slice (some ⟨b, off, none⟩) n cap) ∧ wx.cell? ⟨b, off + a * 6, none⟩ = some (.int .i64 ax) ∧ wx.cell? ⟨b, off + a * 6 + 1, none⟩ = some (.int .i64 ay) ∧ wx.cell? ⟨b, off + c * 6, none⟩ = some (.int .i64 cx) ∧ wx.cell? ⟨b, off + c * 6 + 1, none⟩ = some (.int .i64 cy) ∧ GrI w wx)
    ((first | exact ⟨hB, h0, h1, h2, h3, grI_drew c5⟩ | exact ⟨alloc_cell _ hB, alloc_cell _ h0, alloc_cell _ h1, alloc_cell _ h2, alloc_cell _ h3, grI_drew (grI_alloc c5 _)⟩ | (with_reducible assumption)))
    (first | (go_at_call 42; (with_reducible refine (unhide HCX _).mono ?_); rintro e w1 ⟨rfl, rfl⟩) | (go_at_call 42; (with_reducible refine (unhide HCY _).mono ?_); rintro e w1 ⟨rfl, rfl⟩) | (go_at_call 62; (with_reducible refine (unhide HCI _).mono ?_); rintro e w1 ⟨rfl, rfl⟩) | (go_at_call 61; (with_reducible refine (unhide HCO _ _ (by go_cell) (by go_cell) (by go_cell)).mono ?_); rintro e w2 ⟨rfl, rfl⟩))
  all_goals go_wp2
  all_goals go_ret
  all_goals exact ⟨rfl, grI_drew (grI_alloc c5 _)⟩
end Go.Proofs.Ytepblnnebeglbaa
namespace Go.Proofs.Ytepblnnebeglbaa
open Go.RowKit Go.Proofs.Gn Go.Shelf Go.Sort
/-- An index, drawn into the range. -/
def clO (n i : Nat) : Nat := if i < n then i else 0
theorem clO_in {n i : Nat} (h : i < n) : clO n i = i := if_pos h
theorem clO_lt {n : Nat} (h : 0 < n) (i : Nat) : clO n i < n := by unfold clO; split <;> omega
def encO (n : Nat) (i : Nat) : Value := .int .i64 (clO n i : Int)
def cfO (ps : List Gs.Sup) (i j : Nat) : Int := or3 (cmpV (xA ps i) (xA ps j)) (cmpV (yA ps i) (yA ps j)) (cmpV i j)
theorem cfO_neg (ps : List Gs.Sup) (i j : Nat) : cfO ps i j < 0 ↔ ltS ps i j := by
  unfold cfO or3 ltS cmpV
  repeat' split
  all_goals omega
def cfC (n : Nat) (ps : List Gs.Sup) (i j : Nat) : Int := cfO ps (clO n i) (clO n j)
theorem swoO (n : Nat) (ps : List Gs.Sup) : SWO (ltOf (cfC n ps)) where
  irrefl x := by unfold ltOf cfC; rw [decide_eq_false_iff_not, cfO_neg]; exact ltS_irrefl _ _
  trans x y z h1 h2 := by
    unfold ltOf cfC at *
    rw [decide_eq_true_eq, cfO_neg] at *
    exact ltS_trans h1 h2
  ntrans x y z h1 h2 := by
    unfold ltOf cfC at *
    rw [decide_eq_false_iff_not, cfO_neg] at *
    intro h
    rcases ltS_tri ps (clO n y) (clO n x) with k | k | k
    · exact h2 (ltS_trans k h)
    · rw [← k] at h; exact h2 h
    · exact h1 k
theorem heap_sortO {w : World} {g n : Nat} {os : Array Obj} {cur : Array Value} {e : TypeId} {fr : Nat × Nat} (enc : Nat → Value) (d : Array Nat) (hb : w.heap[g]? = some (.cells cur e fr)) :
    (grow (putRow enc (Go.Sort.ahead w n) g 0 d) os).heap[g]? = some (.cells (putCells enc 0 d cur) e fr) := by
  have hg : g < w.heap.size := (Array.getElem?_eq_some_iff.1 hb).1
  rw [heap_grow_old _ _ (by simpa using hg)]
  simp [putRow, mapBlock, Go.Sort.ahead, Array.getElem?_modify, hb, onCells]
theorem grown_sortO {w : World} {g n : Nat} {os : Array Obj} (enc : Nat → Value) (d : Array Nat) : w.grownBy (grow (putRow enc (Go.Sort.ahead w n) g 0 d) os) (some g) := by
  refine ⟨rfl, rfl, rfl, by simp, fun k hk hne => ?_⟩
  rw [heap_grow_old _ _ (by simpa using hk)]
  have : g ≠ k := fun e => hne (by rw [e])
  simp [putRow, mapBlock, Go.Sort.ahead, Array.getElem?_modify, this]
theorem take_putO (enc : Nat → Value) (cur : Array Value) (ts : List Nat) (h : ts.length ≤ cur.size) : (putCells enc 0 ts.toArray cur).toList.take ts.length = ts.map enc := by
  apply List.ext_getElem?
  intro j
  by_cases hj : j < ts.length
  · rw [List.getElem?_take_of_lt hj, Array.getElem?_toList]
    simp [putCells, hj, show j < cur.size by omega]
  · rw [List.getElem?_take_eq_none (by omega), List.getElem?_eq_none (by simp; omega)]
theorem own_sortO {w : World} {base g cap n m : Nat} {e : TypeId} {os : Array Obj} {xs : List Value} (enc : Nat → Value) {ts : List Nat} (h : w.ownsRow base e 1 (.slice (some ⟨g, 0, none⟩) n cap) n xs) (hl : ts.length = n) :
    (grow (putRow enc (Go.Sort.ahead w m) g 0 ts.toArray) os).ownsRow base e 1 (.slice (some ⟨g, 0, none⟩) n cap) n (ts.map enc) := by
  rcases h with ⟨_, h | ⟨g', cap', cur, e1, hb, hg, h1, h2, h3, h4⟩⟩
  · simp at h
  · simp only [Value.slice.injEq, Option.some.injEq, Addr.mk.injEq, and_true, true_and] at e1
    obtain ⟨rfl, rfl⟩ := e1
    refine ⟨by simp [hl], .inr ⟨g, cap, _, rfl, hb, heap_sortO enc _ hg, h1, h2, by simp [putCells, h3], ?_⟩⟩
    rw [Nat.mul_one, ← hl]
    exact take_putO enc cur ts (by omega)
theorem holds_O {w : World} {base g cap n : Nat} {e : TypeId} (enc : Nat → Value) {ts : List Nat} (h : w.ownsRow base e 1 (.slice (some ⟨g, 0, none⟩) n cap) n (ts.map enc)) : Holds enc w g 0 ts.toArray := by
  intro j hj
  have hl : (ts.map enc).length = n * 1 := h.1
  have hj' : j < ts.length := by simpa using hj
  have hj2 : j < n * 1 := by rw [← hl]; simpa using hj'
  rw [Nat.zero_add, h.cellAt j hj2, h.frozenAt j]
  exact ⟨by simp [hj'], rfl⟩
theorem cells_encO {n : Nat} {l : List Nat} (h : ∀ i ∈ l, i < n) : l.map (encO n) = cellsI (ixs l) := by
  unfold cellsI ixs
  rw [List.map_map]
  apply List.map_congr_left
  intro i hi
  simp [encO, clO_in (h i hi)]
/-- What the sort asks of the closure. -/
theorem lays_O (B b off cap g : Nat) (ps : List Gs.Sup) (w : World) (hB : w.cell? ⟨B, 0, none⟩ = some (.slice (some ⟨b, off, none⟩) ps.length cap)) (hn : ps.length ≤ 48) (h0 : 0 < ps.length) (hc : ∀ k (h : k < ps.length), SupAt w b (off + k * 6) ps[k]) (hgB : B ≠ g) (hgb : b ≠ g) (size : Nat) :
    CmpLays1 Try.prog 60 #[.pointer (some ⟨B, 0, none⟩)] (encO ps.length) (cfC ps.length ps) g 0 size w := by
  intro m os dk hs x y
  have hx := clO_lt h0 x
  have hy := clO_lt h0 y
  have G : w.grownBy (sortWorld (encO ps.length) w g 0 m dk os) (some g) := grown_sortO _ _
  have far : ∀ {p : Addr} {v : Value}, w.cell? p = some v → p.block ≠ g → (sortWorld (encO ps.length) w g 0 m dk os).cell? p = some v := fun {p v} h hp => (G.cell_far p (World.block_lt_of_cell? _ _ h) (by intro e; injection e with e; exact hp e)).trans h
  have a := hc _ hx
  have c := hc _ hy
  have ex : xA ps (clO ps.length x) = ps[clO ps.length x].x := by unfold xA; rw [List.getElem?_eq_getElem hx]; rfl
  have ey : xA ps (clO ps.length y) = ps[clO ps.length y].x := by unfold xA; rw [List.getElem?_eq_getElem hy]; rfl
  have t := p_inO1 B b off ps.length cap (clO ps.length x) (clO ps.length y) _ _ _ _ (sortWorld (encO ps.length) w g 0 m dk os) (far hB hgB) hn hx hy (far a.1 hgb) (far a.2.1 hgb) (far c.1 hgb) (far c.2.1 hgb)
  rw [← ex, ← ey, ← yA_at hx, ← yA_at hy] at t
  exact t.mono fun _ _ ⟨he, hg⟩ => ⟨he, hg⟩
end Go.Proofs.Ytepblnnebeglbaa
namespace Go.Proofs.Ytepblnnebeglbaa
open Go.RowKit Go.Proofs.Gn Go.Shelf Go.Sort
/-- The supports lie here. -/
def SupsO (W : World) (b off : Nat) (ps : List Gs.Sup) : Prop := ∀ k (h : k < ps.length), SupAt W b (off + k * 6) ps[k]
theorem supsO_up {w w' : World} {b off : Nat} {ps : List Gs.Sup} (h : SupsO w b off ps) (hu : Up w w') : SupsO w' b off ps := fun k hk => supAt_up (h k hk) hu
/-- What the library's sort does with the indexes. -/
def SortsO : Prop := ∀ (base n cap g B b off cpp : Nat) (ps : List Gs.Sup) (w : World), w.ownsRow base 3 1 (.slice (some ⟨g, 0, none⟩) n cap) n (cellsI (ixs (List.range n))) → ps.length = n → 0 < n → n ≤ 48 →
  w.cell? ⟨B, 0, none⟩ = some (.slice (some ⟨b, off, none⟩) n cpp) → SupsO w b off ps → B ≠ g → b ≠ g →
  Calls Try.prog 59 #[.slice (some ⟨g, 0, none⟩) n cap, .func (.func 60) #[] #[.pointer (some ⟨B, 0, none⟩)]] w fun e w' => e = .returned (.tuple #[]) ∧
    ∃ l : List Nat, l.Perm (List.range n) ∧ l.Pairwise (ltS ps) ∧ w'.ownsRow base 3 1 (.slice (some ⟨g, 0, none⟩) n cap) n (cellsI (ixs l)) ∧ w.grownBy w' (some g)
theorem ixs_range (k : Nat) : cellsI (ixs (List.range (k + 1))) = cellsI (ixs (List.range k)) ++ [.int .i64 (k : Int)] := by
  rw [List.range_succ]; unfold ixs cellsI; rw [List.map_append, List.map_append]; rfl
theorem own_someO {W : World} {base e n : Nat} {v : Value} {xs : List Value} (h : W.ownsRow base e 1 v n xs) (h0 : 0 < n) : ∃ g c, v = .slice (some ⟨g, 0, none⟩) n c ∧ base ≤ g := by
  rcases h.2 with ⟨_, h1⟩ | ⟨g, c, cur, h1, hb, _⟩
  · have hl : xs.length = n * 1 := h.1
    rw [h1] at hl; simp at hl; omega
  · exact ⟨g, c, h1, hb⟩
theorem own_baseO {W : World} {base b' e size n : Nat} {v : Value} {xs : List Value} (h : W.ownsRow base e size v n xs) (hb : b' ≤ base) : W.ownsRow b' e size v n xs := by
  rcases h with ⟨hl, h | ⟨g, cap, cur, rfl, hg, h⟩⟩
  · exact ⟨hl, .inl h⟩
  · exact ⟨hl, .inr ⟨g, cap, cur, rfl, Nat.le_trans hb hg, h⟩⟩
set_option maxRecDepth 100000 in
set_option maxHeartbeats 8000000 in
theorem p_inOrder (HS : SortsO) (b off cap : Nat) (ps : List Gs.Sup) (w : World) (hc : SupsO w b off ps) (h0 : 0 < ps.length) (hn : ps.length ≤ 48) :
    Calls Try.prog 48 #[.slice (some ⟨b, off, none⟩) ps.length cap] w fun e w' => ∃ (g c : Nat) (l : List Nat), e = .returned (.slice (some ⟨g, 0, none⟩) ps.length c) ∧ l.Perm (List.range ps.length) ∧ l.Pairwise (ltS ps) ∧ w'.ownsRow w.heap.size 3 1 (.slice (some ⟨g, 0, none⟩) ps.length c) ps.length (cellsI (ixs l)) ∧ Up w w' := by
  have hb : b < w.heap.size := World.block_lt_of_cell? _ _ (hc 0 h0).1
  have H1 : ∀ (W : World) (g c : Nat), SupsO W b off ps → W.ownsRow (w.heap.size + 1) 3 1 (.slice (some ⟨g, 0, none⟩) ps.length c) ps.length (cellsI (ixs (List.range ps.length))) → W.cell? ⟨w.heap.size, 0, none⟩ = some (.slice (some ⟨b, off, none⟩) ps.length cap) → w.heap.size + 1 ≤ g → _ :=
    fun W g c hp ho hx hg => HS (w.heap.size + 1) ps.length c g w.heap.size b off cap ps W ho rfl h0 hn hx hp (by omega) (by omega)
  have HS' := hide H1
  have HC := hide hc
  clear H1 HS hc
  obtain ⟨i0', hi, hz0, hz1, hz2⟩ := info_parts info_intD
  have HI := hide hi
  clear hi
  obtain ⟨n, hN⟩ : ∃ n, ps.length = n := ⟨_, rfl⟩
  have HN := hide hN
  rw [hN] at h0 hn HS' ⊢
  clear hN
  go_enter Try.func48, Try.ntmps48
  go_wp2_with fail
  obtain ⟨wo, hwo⟩ : ∃ wo, wo = w.alloc (.cells #[.slice (some ⟨b, off, none⟩) n cap] 22) := ⟨_, rfl⟩
  have hsz : wo.heap.size = w.heap.size + 1 := by rw [hwo]; simp
  have U0 : Up w wo := by rw [hwo]; exact (by repeat' (first | (with_reducible exact up_refl _) | (with_reducible assumption) | (with_reducible refine up_alloc ?_ _) | (with_reducible refine up_drewN ?_ _) | (with_reducible refine up_drew ?_) | (with_reducible refine up_set ?_ (by first | (simp; done) | (simp; omega) | omega) _) | (refine up_trans ?_ (by with_reducible assumption))))
  have B0 : Bx wo w.heap.size [.slice (some ⟨b, off, none⟩) n cap] := by rw [hwo]; exact bx_new w _ _
  rw [← hwo]
  clear hwo
  go_loopw [3, 7] (fun s3 s7 wr => ∃ k : Nat, k ≤ n ∧ s7 = .int .i64 k ∧ wr.ownsRow wo.heap.size 3 1 s3 k (cellsI (ixs (List.range k))) ∧ Up wo wr) (fun _ s7 _ => n - (intOf s7).toNat)
  case atStart => exact ⟨0, by omega, rfl, World.ownsRow_nil _ _ _ _, up_refl _⟩
  case round =>
    obtain ⟨k, hk, rfl, hown, hu⟩ := hrel
    by_cases hlt : k < n
    · have HO := hide hown
      clear hown
      have hwk : IntKind.i64.wrap ((k : Int) + 1) = (k : Int) + 1 := IntWalk.i64_in _ ⟨by omega, by omega⟩
      go_wp2_with (at_builtin; refine wpList_append_own _ rfl _ _ 26 rfl wo.heap.size 3 i0' _ 1 8 Try.underlying26 (unhide HI) hz0 hz1 hz2 rfl (by decide) _ k (cellsI (ixs (List.range k))) rfl ((unhide HO).alloc _) ⟨wr.heap.size, 0, none⟩ 1 1 [.int .i64 (k : Int)] rfl rfl (one_newI _ _ _) (by intro u hu; simp at hu; rcases hu with rfl; rfl) (by unfold maxLen; omega) (by omega) (by have := hu.size; simp; omega) ?_; intro v' w8 hown' hgrow _)
      have R1 := own_grown (v' := v') (ys := []) (unhide HO) (up_alloc hu _) hgrow
      rw [← ixs_range] at hown'
      have R2 := hide hown'
      clear hown' hgrow HO
      go_wp2_with fail
      go_roundw
      case rel => exact ⟨k + 1, by omega, by first | rfl | trivial | go_num, unhide R2, R1⟩
      case measure => simp [intOf]; omega
    · obtain rfl : k = n := by omega
      have hw0 := up_trans U0 hu
      have c0 := (bx_up B0 hu 0 _ rfl).1
      obtain ⟨g, c, hv, hg⟩ := own_someO hown h0
      subst hv
      rw [hsz] at hown hg
      have HO := hide hown
      have HCC := hide (supsO_up (unhide HC) hw0)
      clear hown HC
      go_wp2_with (go_at_call 59; (with_reducible refine (unhide HS' _ g c (unhide HCC) (unhide HO) c0 hg).mono ?_); rintro e w9 ⟨rfl, l, hp, hs, ho9, hgr⟩)
      go_ret
      exact ⟨g, c, l, rfl, hp, hs, own_baseO ho9 (by omega), Below.grown hw0 hgr hw0.size (fun j hj => by cases hj; omega)⟩
end Go.Proofs.Ytepblnnebeglbaa
