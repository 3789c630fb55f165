/- Appending, one operation of a region of open order, to a list of numbers of the call's own. -/
import Derived.Test.YtepblnnebeglbaaInOrd
import Derived.Deep.RegionLaw
import Derived.OwnWalk
namespace Go.Proofs.Ytepblnnebeglbaa
open Go.RowKit Go.Proofs.Gn
section
variable {P : Program} (w : World)
theorem wp_append_mineO {o : Oper} {a : Act} {K : Act → World → Prop} {Q : Exit → Act → World → Prop} (s x : Operand) (t : TypeId)
    (ho : o.op = .call { callee := .builtin .append, args := #[s, x], argTypes := #[t, t] })
    (base : Nat) (e : TypeId) (i : TypeInfo) (z : Value) (size bytes : Nat) (ht : P.underlying t = some (.slice e)) (hi : P.info? e = some i) (hz : i.zero = some z)
    (hsize : i.size = size) (hby : i.bytes = bytes) (hzs : z.cells.size = size) (hsz : 0 < size)
    (v : Value) (n : Nat) (xs : List Value) (hs : a.eval s = v) (hown : w.ownsRow base e size v n xs)
    (ad : Addr) (m c : Nat) (news : List Value) (hx : a.eval x = .slice (some ad) m c) (hl : news.length = m * size) (hnews : ∀ j u, news[j]? = some u → w.cell? (ad.add j) = some u) (h1 : ∀ u ∈ news, u.oneCell' = true)
    (h63 : n + m ≤ maxLen) (hbytes : (n + m) * bytes ≤ 140737488355328) (hbase : base ≤ w.heap.size)
    (h : ∀ v' w', w'.ownsRow base e size v' (n + m) (xs ++ news) → w.grownBy w' v.ownBlock → K (a.put o.dst v') w') : o.wp P a w K Q := by
  obtain ⟨v', w', hrun, h2, h3, _⟩ := run_append_own (P := P) w base t o.type e i z size bytes ht hi hz hsize hby hzs hsz v n xs hown ad m c news hl hnews h1 h63 hbytes hbase
  unfold Oper.wp execOp
  simp only [ho, resolve, invoke, builtin, Sem.run_bind, Sem.run_pure, Result.andThen_ok, List.map_toArray, List.map_cons, List.map_nil, hs, hx, hrun]
  exact h v' w' h2 h3
theorem step_append_mineO {ops : Array Oper} {o : Oper} {a : Act} {K : Act → World → Prop} {Q : Exit → Act → World → Prop} {E : Prop} (hgd : o.guard = none) (s x : Operand) (t : TypeId)
    (ho : o.op = .call { callee := .builtin .append, args := #[s, x], argTypes := #[t, t] })
    (base : Nat) (e : TypeId) (i : TypeInfo) (z : Value) (size bytes : Nat) (ht : P.underlying t = some (.slice e)) (hi : P.info? e = some i) (hz : i.zero = some z)
    (hsize : i.size = size) (hby : i.bytes = bytes) (hzs : z.cells.size = size) (hsz : 0 < size)
    (v : Value) (n : Nat) (xs : List Value) (hs : a.eval s = v) (hown : w.ownsRow base e size v n xs)
    (ad : Addr) (m c : Nat) (news : List Value) (hx : a.eval x = .slice (some ad) m c) (hl : news.length = m * size) (hnews : ∀ j u, news[j]? = some u → w.cell? (ad.add j) = some u) (h1 : ∀ u ∈ news, u.oneCell' = true)
    (h63 : n + m ≤ maxLen) (hbytes : (n + m) * bytes ≤ 140737488355328) (hbase : base ≤ w.heap.size)
    (h : ∀ v' w', w'.ownsRow base e size v' (n + m) (xs ++ news) → w.grownBy w' v.ownBlock → K (a.put o.dst v') w') :
    if Region.wanted o (yielded ops a.tmps) = true then Oper.wp P o a w K Q else E := by
  have hw : Region.wanted o (yielded ops a.tmps) = true := by simp [Region.wanted, hgd]
  rw [if_pos hw]
  exact wp_append_mineO w s x t ho base e i z size bytes ht hi hz hsize hby hzs hsz v n xs hs hown ad m c news hx hl hnews h1 h63 hbytes hbase h
end
section
variable {P : Program} (w : World)
theorem run_append_emptyO (t ty e : TypeId) (i : TypeInfo) (ht : P.underlying t = some (.slice e)) (hi : P.info? e = some i) (b : Option Addr) (n c : Nat) (h : n ≤ c) :
    (Builtin.append_ #[t, t] ty #[.slice b n c, .slice none 0 0]).run P w = .ok (.slice b n c) w := by
  cases b <;> simp [Builtin.append_, run_underlying ht, sizeOf, typeInfo, hi, Builtin.lenOf, Builtin.firstCells, h, storeCells]
end
theorem step_append_emptyO {P : Program} {w : World} {ops : Array Oper} {o : Oper} {a : Act} {K : Act → World → Prop} {Q : Exit → Act → World → Prop} {E : Prop} (hgd : o.guard = none) (s x : Operand) (t : TypeId)
    (ho : o.op = .call { callee := .builtin .append, args := #[s, x], argTypes := #[t, t] })
    (e : TypeId) (i : TypeInfo) (ht : P.underlying t = some (.slice e)) (hi : P.info? e = some i)
    (b : Option Addr) (n c : Nat) (hs : a.eval s = .slice b n c) (hx : a.eval x = .slice none 0 0) (hnc : n ≤ c) (h : K (a.put o.dst (.slice b n c)) w) :
    if Region.wanted o (yielded ops a.tmps) = true then Oper.wp P o a w K Q else E := by
  have hw : Region.wanted o (yielded ops a.tmps) = true := by simp [Region.wanted, hgd]
  rw [if_pos hw]
  have hrun := run_append_emptyO (P := P) w t o.type e i ht hi b n c hnc
  unfold Oper.wp execOp
  simp only [ho, resolve, invoke, builtin, Sem.run_bind, Sem.run_pure, Result.andThen_ok, List.map_toArray, List.map_cons, List.map_nil, hs, hx, hrun]
  exact h
theorem szO (w : World) (o : Obj) : (w.alloc o).heap.size = w.heap.size + 1 := by
  unfold World.alloc
  exact Array.size_push _
theorem heap_newO (w : World) (o : Obj) : (w.alloc o).heap[w.heap.size]? = some o := by unfold World.alloc; simp
theorem own_emptyO (W : World) (e B : Nat) (hB : B ≤ W.heap.size) : (W.alloc (.cells #[] e)).ownsRow B e 1 (.slice (some ⟨W.heap.size, 0, none⟩) 0 0) 0 [] :=
  ⟨rfl, .inr ⟨W.heap.size, 0, #[], rfl, hB, heap_newO W _, Nat.le_refl _, Nat.zero_le _, rfl, rfl⟩⟩
theorem own_emptyOD (W : World) (e B : Nat) (hB : B ≤ W.heap.size) : (W.alloc (.cells #[] e)).drew.ownsRow B e 1 (.slice (some ⟨W.heap.size, 0, none⟩) 0 0) 0 [] := own_emptyO W e B hB
theorem own_empty2O (W : World) (o : Obj) (e B : Nat) (hB : B ≤ W.heap.size) : ((W.alloc o).alloc (.cells #[] e)).ownsRow B e 1 (.slice (some ⟨W.heap.size + 1, 0, none⟩) 0 0) 0 [] := by
  have q := own_emptyO (W.alloc o) e B (by rw [szO]; omega)
  rw [szO] at q
  exact q
theorem own_empty2OD (W : World) (o : Obj) (e B : Nat) (hB : B ≤ W.heap.size) : ((W.alloc o).alloc (.cells #[] e)).drew.ownsRow B e 1 (.slice (some ⟨W.heap.size + 1, 0, none⟩) 0 0) 0 [] := own_empty2O W o e B hB
theorem one_new2O (W : World) (o : Obj) (x : Value) (t : TypeId) : ∀ j u, [x][j]? = some u → ((W.alloc o).alloc (.cells #[x] t)).cell? ((⟨W.heap.size + 1, 0, none⟩ : Addr).add j) = some u := by
  have q := one_newI (W.alloc o) x t
  rw [szO] at q
  exact q
theorem cell_grownO {W W' : World} {row : Option Nat} (hg : W.grownBy W' row) {p : Addr} {v : Value} (hc : W.cell? p = some v) (hne : some p.block ≠ row) : W'.cell? p = some v := by
  have hlt := World.block_lt_of_cell? _ _ hc
  have e := hg.block p.block hlt hne
  unfold World.cell? at hc ⊢
  rw [e]
  exact hc
theorem one_grownO {W W' : World} {row : Option Nat} (hg : W.grownBy W' row) {b : Nat} {x : Value} (h : ∀ j u, [x][j]? = some u → W.cell? ((⟨b, 0, none⟩ : Addr).add j) = some u) (hne : some b ≠ row) : ∀ j u, [x][j]? = some u → W'.cell? ((⟨b, 0, none⟩ : Addr).add j) = some u := fun j u hj => by
  have e : ((⟨b, 0, none⟩ : Addr).add j).block = b := by unfold Addr.add; split <;> rfl
  exact cell_grownO hg (h j u hj) (by rw [e]; exact hne)
theorem one_allocO {W : World} {b : Nat} {x : Value} (h : ∀ j u, [x][j]? = some u → W.cell? ((⟨b, 0, none⟩ : Addr).add j) = some u) (o : Obj) : ∀ j u, [x][j]? = some u → (W.alloc o).cell? ((⟨b, 0, none⟩ : Addr).add j) = some u := fun j u hj => alloc_cell o (h j u hj)
theorem own_growO {B : Nat} {w W w1 : World} {v : Value} {e n : Nat} {xs : List Value} (ho : W.ownsRow B e 1 v n xs) (hB : B ≤ w.heap.size) (hb : Below B w W) (hg : W.grownBy w1 v.ownBlock) : Below B w w1 := hb.grown hg (Nat.le_trans hB hb.size) fun j hj => (ho.lt j hj).1
/-! ### Insertion -/
theorem ins_ord {ps : List Gs.Sup} {l : List Nat} {k j : Nat} (hjl : j ≤ l.length) (hp : l.Perm (List.range k)) (hs : l.Pairwise (ltS ps)) (h1 : ∀ i (h : i < l.length), i + 1 = j → ltS ps l[i] k) (h2 : ∀ i (h : i < l.length), j ≤ i → ltS ps k l[i]) :
    (l.take j ++ k :: l.drop j).Perm (List.range (k + 1)) ∧ (l.take j ++ k :: l.drop j).Pairwise (ltS ps) := by
  refine ⟨?_, ?_⟩
  · rw [List.range_succ]
    refine List.perm_middle.trans ?_
    rw [List.take_append_drop]
    exact (List.Perm.cons k hp).trans (List.perm_append_comm (l₁ := [k]))
  · rw [List.pairwise_iff_getElem] at hs
    have a1 : ∀ x ∈ l.take j, ltS ps x k := by
      intro x hx
      obtain ⟨i, hi, rfl⟩ := List.getElem_of_mem hx
      rw [List.length_take] at hi
      rw [List.getElem_take]
      by_cases e : i + 1 = j
      · exact h1 i (by omega) e
      · exact ltS_trans (hs i (j - 1) (by omega) (by omega) (by omega)) (h1 (j - 1) (by omega) (by omega))
    have a2 : ∀ x ∈ l.drop j, ltS ps k x := by
      intro x hx
      obtain ⟨i, hi, rfl⟩ := List.getElem_of_mem hx
      rw [List.getElem_drop]
      exact h2 _ _ (by omega)
    rw [List.pairwise_append, List.pairwise_cons]
    refine ⟨List.Pairwise.sublist (List.take_sublist j l) (List.pairwise_iff_getElem.2 hs), ⟨a2, List.Pairwise.sublist (List.drop_sublist j l) (List.pairwise_iff_getElem.2 hs)⟩, ?_⟩
    intro x hx y hy
    rcases List.mem_cons.1 hy with rfl | hy
    · exact a1 x hx
    · exact ltS_trans (a1 x hx) (a2 y hy)
end Go.Proofs.Ytepblnnebeglbaa
