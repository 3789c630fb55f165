/- Lists of points that the call itself has made: what is left when they are cut, and when other memory is written. A list of the call's own whose first coordinates are scaled in place. The first few points of a list of small points: a list of the call's own. A parameter that is a list of points, or of small points, opened: its points. -/
import Derived.Test.YtdehnokcjnbjoaaGreatSl
import Derived.Deep.SlicePairs
import Derived.WideKeyArgs
import Derived.ProofKit
import Derived.OpenShut
import Derived.Test.YtdehnokcjnbjoaaGreatNum
import Derived.Test.YtdehnokcjnbjoaaGreatBx
import Derived.Deep.RegionLaw
import Derived.OwnWalk
import Derived.Laws.OwnMore
import Derived.Test.YtdehnokcjnbjoaaGreatHullM
namespace Go.Proofs.YtdehnokcjnbjoaaGreat
open Go.RowKit Go.Proofs.Gn Go.ChangeShapes Go.WideShapes Go.Deep
theorem Tryz.laidOutS : laidOutB Tryz.prog = true := by kernel_rfl
theorem Tryz.readPts : Tryz.prog.readableRec 37 = true := by kernel_rfl
theorem Tryz.cellsPt : Tryz.prog.cellsOf 55 = 2 := by kernel_rfl
theorem Tryz.cellsI64 : Tryz.prog.cellsOf 2 = 1 := by kernel_rfl
theorem add_at {a : Addr} (h : a.spot = none) (n : Nat) : a.add n = ⟨a.block, a.off + n, none⟩ := by
  obtain ⟨b, o, s⟩ := a
  subst h
  unfold Addr.add
  split
  · subst n; rfl
  · rfl
theorem pts_open {H : Type} {enc : TypeId × Value → H} {W : World} {base : Nat} {v : Value} {d : DataW H} {p : List MemPlace} (h : DataW.Trod enc Tryz.prog W base (fun _ => true) true 37 v d p) (hv : ∃ a len cap, v = .slice a len cap) :
    ∃ A ps cap, v = .slice A ps.length cap ∧ Pts W A ps ∧ ps.length ≤ 9223372036854775807 := by
  obtain ⟨a0, len0, cap0, rfl⟩ := hv
  obtain ⟨fuel, hf⟩ := h
  simp only [Value.cells] at hf
  rcases open_slice_pairs Tryz.underlying37 Tryz.underlying55 Tryz.cellsPt rfl rfl Tryz.cellsI64 Tryz.cellsI64 hf with ⟨hc, _⟩ | ⟨a, len, cap, m, n, V0, V1, D0, D1, P0, P1, hc, hb, hl, hm, hmm, hx, hi⟩
  · simp only [List.cons.injEq, and_true] at hc
    exact ⟨none, [], 0, hc, .inl rfl, by simp⟩
  · simp only [List.cons.injEq, and_true] at hc
    have hlm : len ≤ m := by rw [hmm]; split <;> omega
    refine ⟨some a, (List.range len).map fun i => (intOf (V0 i), intOf (V1 i)), cap, by simpa using hc, ?_, by simp [maxLen] at hm ⊢; omega⟩
    by_cases h0 : len = 0
    · exact .inl (by simp [h0])
    · have hsp := World.cell?_spot (hi 0 (by omega)).1
      have hs : a.spot = none := by simpa [Addr.add] using hsp
      refine .inr ⟨a.block, a.off, by obtain ⟨_, _, _⟩ := a; subst hs; rfl, fun k hk => ?_⟩
      have hk2 : k < len := by simpa using hk
      obtain ⟨c0, c1, t0, t1⟩ := hi k (by omega)
      obtain ⟨x, ex, _, _⟩ := DataW.trod_int Tryz.underlying2 t0
      obtain ⟨y, ey, _, _⟩ := DataW.trod_int Tryz.underlying2 t1
      simp only [List.cons.injEq, and_true] at ex ey
      rw [add_at hs, ex] at c0
      rw [add_at hs, ey] at c1
      refine ⟨?_, ?_⟩
      · rw [c0]; simp [ex, intOf]
      · rw [← Nat.add_assoc] at c1
        rw [c1]; simp [ey, intOf]
/-- A list reads as it did. -/
theorem pts_shut {H : Type} {enc : TypeId × Value → H} {W W' : World} {sp : Nat → Bool} {v : Value} {d : DataW H} {p : List MemPlace} (h : DataW.Trod enc Tryz.prog W 0 (fun _ => true) true 37 v d p) (hb : Below W.heap.size W W') (hlt : ∀ x ∈ p, x.block < W.heap.size) (hsp : ∀ x ∈ p, sp x.block = true) :
    DataW.Trod enc Tryz.prog W' 0 sp true 37 v d p :=
  WideElems.Trod_stays Tryz.laidOutS Tryz.readPts (of_decide_eq_true (by kernel_rfl)) h (fun x hx => hb.same (hlt x hx)) hsp
end Go.Proofs.YtdehnokcjnbjoaaGreat
namespace Go.Proofs.YtdehnokcjnbjoaaGreat
open Go.RowKit Go.Proofs.Gn
section
variable {P : Program} (w : World)
theorem wp_append_mine {o : Oper} {a : Act} {K : Act → World → Prop} {Q : Exit → Act → World → Prop} (s x : Operand) (t : TypeId)
    (ho : o.op = .call { callee := .builtin .append, args := #[s, x], argTypes := #[t, t] })
    (base : Nat) (e : TypeId) (i : TypeInfo) (z : Value) (size bytes : Nat) (ht : P.underlying t = some (.slice e)) (hi : P.info? e = some i) (hz : i.zero = some z)
    (hsize : i.size = size) (hby : i.bytes = bytes) (hzs : z.cells.size = size) (hsz : 0 < size)
    (v : Value) (n : Nat) (xs : List Value) (hs : a.eval s = v) (hown : w.ownsRow base e size v n xs)
    (ad : Addr) (m c : Nat) (news : List Value) (hx : a.eval x = .slice (some ad) m c) (hl : news.length = m * size) (hnews : ∀ j u, news[j]? = some u → w.cell? (ad.add j) = some u) (h1 : ∀ u ∈ news, u.oneCell' = true)
    (h63 : n + m ≤ maxLen) (hbytes : (n + m) * bytes ≤ 140737488355328) (hbase : base ≤ w.heap.size)
    (h : ∀ v' w', w'.ownsRow base e size v' (n + m) (xs ++ news) → w.grownBy w' v.ownBlock → K (a.put o.dst v') w') : o.wp P a w K Q := by
  obtain ⟨v', w', hrun, h2, h3, _⟩ := run_append_own (P := P) w base t o.type e i z size bytes ht hi hz hsize hby hzs hsz v n xs hown ad m c news hl hnews h1 h63 hbytes hbase
  unfold Oper.wp execOp
  simp only [ho, resolve, invoke, builtin, Sem.run_bind, Sem.run_pure, Result.andThen_ok, List.map_toArray, List.map_cons, List.map_nil, hs, hx, hrun]
  exact h v' w' h2 h3
theorem step_append_mine {ops : Array Oper} {o : Oper} {a : Act} {K : Act → World → Prop} {Q : Exit → Act → World → Prop} {E : Prop} (hgd : o.guard = none) (s x : Operand) (t : TypeId)
    (ho : o.op = .call { callee := .builtin .append, args := #[s, x], argTypes := #[t, t] })
    (base : Nat) (e : TypeId) (i : TypeInfo) (z : Value) (size bytes : Nat) (ht : P.underlying t = some (.slice e)) (hi : P.info? e = some i) (hz : i.zero = some z)
    (hsize : i.size = size) (hby : i.bytes = bytes) (hzs : z.cells.size = size) (hsz : 0 < size)
    (v : Value) (n : Nat) (xs : List Value) (hs : a.eval s = v) (hown : w.ownsRow base e size v n xs)
    (ad : Addr) (m c : Nat) (news : List Value) (hx : a.eval x = .slice (some ad) m c) (hl : news.length = m * size) (hnews : ∀ j u, news[j]? = some u → w.cell? (ad.add j) = some u) (h1 : ∀ u ∈ news, u.oneCell' = true)
    (h63 : n + m ≤ maxLen) (hbytes : (n + m) * bytes ≤ 140737488355328) (hbase : base ≤ w.heap.size)
    (h : ∀ v' w', w'.ownsRow base e size v' (n + m) (xs ++ news) → w.grownBy w' v.ownBlock → K (a.put o.dst v') w') :
    if Region.wanted o (yielded ops a.tmps) = true then Oper.wp P o a w K Q else E := by
  have hw : Region.wanted o (yielded ops a.tmps) = true := by simp [Region.wanted, hgd]
  rw [if_pos hw]
  exact wp_append_mine w s x t ho base e i z size bytes ht hi hz hsize hby hzs hsz v n xs hs hown ad m c news hx hl hnews h1 h63 hbytes hbase h
end
/-- The slice at A holds these small points. -/
def Smalls (w : World) (A : Option Addr) (ps : Pl) : Prop :=
  ps = [] ∨ ∃ b off, A = some ⟨b, off, none⟩ ∧ ∀ k (h : k < ps.length), w.cell? ⟨b, off + k * 2, none⟩ = some (.int .i8 ps[k].1) ∧ w.cell? ⟨b, off + k * 2 + 1, none⟩ = some (.int .i8 ps[k].2) ∧ (-128 ≤ ps[k].1 ∧ ps[k].1 ≤ 127) ∧ (-128 ≤ ps[k].2 ∧ ps[k].2 ≤ 127)
/-- The cells of points that lie one after another. -/
def cellsPl (ps : Pl) : List Value := ps.flatMap fun p => [.int .i64 p.1, .int .i64 p.2]
theorem cellsPl_snoc (ps : Pl) (x y : Int) : cellsPl (ps ++ [(x, y)]) = cellsPl ps ++ [.int .i64 x, .int .i64 y] := by simp [cellsPl]
theorem info_pt : (Tryz.prog.info? 55).map (fun i => (i.zero, i.size, i.bytes)) = some (some (.agg #[.int .i64 0, .int .i64 0]), 2, 16) := by kernel_rfl
theorem two_new (W : World) (x y : Value) (t : TypeId) : ∀ j u, [x, y][j]? = some u → (W.alloc (.cells #[x, y] t)).cell? ((⟨W.heap.size, 0, none⟩ : Addr).add j) = some u := by
  intro j u hj
  have b := bx_new W [x, y] t
  match j, hj with
  | 0, hj => simp at hj; subst hj; exact (bx2 b).1
  | 1, hj => simp at hj; subst hj; exact (bx2 b).2
  | (j + 2), hj => simp at hj
theorem few_rel {w W W' w1 : World} {v v' : Value} {k : Nat} {ps : Pl} {x y : Int} (ht : ps.take (k + 1) = ps.take k ++ [(x, y)]) (ho : W'.ownsRow w.heap.size 55 2 v k (cellsPl (ps.take k))) (hb : Below w.heap.size w W)
    (hown : w1.ownsRow w.heap.size 55 2 v' (k + 1) (cellsPl (ps.take k) ++ [.int .i64 x, .int .i64 y])) (hg : W.grownBy w1 v.ownBlock) :
    w1.ownsRow w.heap.size 55 2 v' (k + 1) (cellsPl (ps.take (k + 1))) ∧ Below w.heap.size w w1 := by
  rw [ht, cellsPl_snoc]
  exact ⟨hown, hb.grown hg hb.size fun j hj => (ho.lt j hj).1⟩
end Go.Proofs.YtdehnokcjnbjoaaGreat
namespace Go.Proofs.YtdehnokcjnbjoaaGreat
open Go.RowKit Go.Proofs.Gn
theorem cellsPl_length (ps : Pl) : (cellsPl ps).length = ps.length * 2 := by
  induction ps with
  | nil => rfl
  | cons p ps ih => simp only [cellsPl, List.flatMap_cons, List.length_append, List.length_cons, List.length_nil] at ih ⊢; omega
theorem cellsPl_at {ps : Pl} {k : Nat} (h : k < ps.length) : (cellsPl ps)[k * 2]? = some (.int .i64 ps[k].1) ∧ (cellsPl ps)[k * 2 + 1]? = some (.int .i64 ps[k].2) := by
  induction ps generalizing k with
  | nil => simp at h
  | cons p ps ih =>
    cases k with
    | zero => exact ⟨rfl, rfl⟩
    | succ k =>
      have := ih (k := k) (by simpa using h)
      rw [show (k + 1) * 2 = k * 2 + 2 by omega, show k * 2 + 2 + 1 = k * 2 + 1 + 2 by omega]
      exact this
theorem cellsPl_set {ps : Pl} {k : Nat} (h : k < ps.length) (z : Int) : (cellsPl ps).set (k * 2) (.int .i64 z) = cellsPl (ps.set k (z, ps[k].2)) := by
  induction ps generalizing k with
  | nil => simp at h
  | cons p ps ih =>
    cases k with
    | zero => rfl
    | succ k =>
      have := ih (k := k) (by simpa using h)
      rw [show (k + 1) * 2 = k * 2 + 2 by omega]
      show .int .i64 p.1 :: .int .i64 p.2 :: (cellsPl ps).set (k * 2) (.int .i64 z) = _
      rw [this]
      rfl
theorem pts_bx {W : World} {g : Nat} {ps : Pl} (h : Bx W g (cellsPl ps)) : Pts W (some ⟨g, 0, none⟩) ps := .inr ⟨g, 0, rfl, fun k hk => by
  have c := cellsPl_at hk
  simp only [Nat.zero_add]
  exact ⟨(h _ _ c.1).1, (h _ _ c.2).1⟩⟩
theorem bx_own {W : World} {base n : Nat} {v : Value} {e : TypeId} {ps : Pl} (h : W.ownsRow base e 2 v n (cellsPl ps)) (h0 : 0 < n) : ∃ g cap, v = .slice (some ⟨g, 0, none⟩) n cap ∧ base ≤ g ∧ Bx W g (cellsPl ps) := by
  rcases h.2 with ⟨_, h1⟩ | ⟨g, cap, cur, rfl, hb, hg, _⟩
  · omega
  · refine ⟨g, cap, rfl, hb, fun j u hj => ⟨?_, frozen_of_row W g j cur e hg⟩⟩
    have := h.cells (g := g) rfl j u hj
    have e : (⟨g, 0, none⟩ : Addr).add j = ⟨g, j, none⟩ := by unfold Addr.add; split <;> simp_all
    rwa [e] at this
/-- The first k of them are scaled. -/
def scl (c : Int) (k : Nat) (ps : Pl) : Pl := (ps.take k).map (fun p => (p.1 * c, p.2)) ++ ps.drop k
theorem scl_length (c : Int) (k : Nat) (ps : Pl) : (scl c k ps).length = ps.length := by simp [scl]; omega
theorem scl_zero (c : Int) (ps : Pl) : scl c 0 ps = ps := by simp [scl]
theorem scl_here {c : Int} {k : Nat} {ps : Pl} (h : k < ps.length) (h2 : k < (scl c k ps).length) : (scl c k ps)[k] = ps[k] := by
  have e : (scl c k ps)[k]? = some ps[k] := by
    unfold scl
    rw [List.getElem?_append_right (by simp; omega)]
    simp [Nat.min_eq_left (Nat.le_of_lt h)]
  obtain ⟨_, e⟩ := List.getElem?_eq_some_iff.1 e
  exact e
theorem scl_step {c : Int} {k : Nat} {ps : Pl} (h : k < ps.length) : (scl c k ps).set k (ps[k].1 * c, ps[k].2) = scl c (k + 1) ps := by
  unfold scl
  have hl : ((ps.take k).map (fun p => (p.1 * c, p.2))).length = k := by simp; omega
  rw [List.set_append_right _ _ (by omega), hl, Nat.sub_self, List.drop_eq_getElem_cons h, List.take_succ_eq_append_getElem h]
  simp only [List.set_cons_zero, List.map_append, List.map_cons, List.map_nil, List.append_assoc, List.cons_append, List.nil_append]
theorem bx_scl {W : World} {g k : Nat} {c : Int} {ps : Pl} (hk : k < ps.length) (h : Bx W g (cellsPl (scl c k ps))) : Bx (W.setCell ⟨g, k * 2, none⟩ (.int .i64 (ps[k].1 * c))) g (cellsPl (scl c (k + 1) ps)) := by
  have hl : k < (scl c k ps).length := by rw [scl_length]; exact hk
  have := bx_set h (k * 2) (.int .i64 (ps[k].1 * c))
  rw [cellsPl_set hl, scl_here hk hl, scl_step hk] at this
  exact this
theorem bx_scl_at {W : World} {g k : Nat} {c : Int} {ps : Pl} (hk : k < ps.length) (h : Bx W g (cellsPl (scl c k ps))) : W.cell? ⟨g, k * 2, none⟩ = some (.int .i64 ps[k].1) ∧ W.frozen? ⟨g, k * 2, none⟩ = false := by
  have hl : k < (scl c k ps).length := by rw [scl_length]; exact hk
  have c := cellsPl_at hl
  rw [scl_here hk hl] at c
  exact h _ _ c.1
theorem okL_scl {c : Int} {ps : Pl} (hc : 1 ≤ c) (hc2 : c ≤ 256) (h : ∀ p ∈ ps, (-128 ≤ p.1 ∧ p.1 ≤ 127) ∧ (-128 ≤ p.2 ∧ p.2 ≤ 127)) : okL (scl c ps.length ps) = true := by
  unfold okL scl
  rw [List.take_length, List.drop_length, List.append_nil, List.all_eq_true]
  intro q hq
  obtain ⟨p, hp, rfl⟩ := List.mem_map.1 hq
  have b := h p hp
  have m1 := Int.mul_le_mul_of_nonneg_right (c := c) b.1.2 (by omega)
  have m2 := Int.mul_le_mul_of_nonneg_right (c := c) b.1.1 (by omega)
  have u1 : okc (p.1 * c) = true := by unfold okc; simp only [decide_eq_true_eq]; omega
  have u2 : okc p.2 = true := by unfold okc; simp only [decide_eq_true_eq]; omega
  simp only [okp, u1, u2, Bool.and_self]
end Go.Proofs.YtdehnokcjnbjoaaGreat
namespace Go.Proofs.YtdehnokcjnbjoaaGreat
open Go.RowKit Go.Proofs.Gn
theorem own_up {W W' : World} {base e size n : Nat} {v : Value} {xs : List Value} (h : W.ownsRow base e size v n xs) (hu : Up W W') : W'.ownsRow base e size v n xs := by
  rcases h with ⟨hl, h | ⟨g, cap, cur, rfl, hb, hg, h⟩⟩
  · exact ⟨hl, .inl h⟩
  · refine ⟨hl, .inr ⟨g, cap, cur, rfl, hb, ?_, h⟩⟩
    rw [hu.block g (Array.getElem?_eq_some_iff.1 hg).1]
    exact hg
theorem own_prefix {W : World} {base e size n m cap g : Nat} {xs : List Value} (h : W.ownsRow base e size (.slice (some ⟨g, 0, none⟩) n cap) n xs) (hm : m ≤ n) : W.ownsRow base e size (.slice (some ⟨g, 0, none⟩) m cap) m (xs.take (m * size)) := by
  have hms : m * size ≤ n * size := Nat.mul_le_mul_right _ hm
  rcases h with ⟨hl, h | ⟨g', cap', cur, e1, hb, hg, h1, h2, h3, h4⟩⟩
  · simp at h
  · simp only [Value.slice.injEq, Option.some.injEq, Addr.mk.injEq, and_true, true_and] at e1
    obtain ⟨rfl, rfl⟩ := e1
    refine ⟨by rw [List.length_take, hl]; omega, .inr ⟨g, cap, cur, rfl, hb, hg, by omega, h2, h3, ?_⟩⟩
    rw [← h4, List.take_take, Nat.min_eq_left hms]
theorem cellsPl_take (ps : Pl) (m : Nat) : (cellsPl ps).take (m * 2) = cellsPl (ps.take m) := by
  induction ps generalizing m with
  | nil => simp [cellsPl]
  | cons p ps ih =>
    cases m with
    | zero => simp [cellsPl]
    | succ m =>
      have := ih m
      simp only [cellsPl, List.take_succ_cons, List.flatMap_cons, List.cons_append, List.nil_append] at this ⊢
      rw [show (m + 1) * 2 = m * 2 + 1 + 1 by omega, List.take_succ_cons, List.take_succ_cons, this]
theorem own_cells {W : World} {base e n cap g : Nat} {ps : Pl} (h : W.ownsRow base e 2 (.slice (some ⟨g, 0, none⟩) n cap) n (cellsPl ps)) :
    ∀ k (h : k < ps.length), W.cell? ⟨g, 0 + k * 2, none⟩ = some (.int .i64 ps[k].1) ∧ W.cell? ⟨g, 0 + k * 2 + 1, none⟩ = some (.int .i64 ps[k].2) := by
  intro k hk
  have hl : (cellsPl ps).length = n * 2 := h.1
  rw [cellsPl_length] at hl
  have c := cellsPl_at hk
  simp only [Nat.zero_add]
  rw [h.cellAt (k * 2) (by omega), h.cellAt (k * 2 + 1) (by omega)]
  exact c
theorem own_len {W : World} {base e n : Nat} {v : Value} {ps : Pl} (h : W.ownsRow base e 2 v n (cellsPl ps)) : n = ps.length := by
  have hl : (cellsPl ps).length = n * 2 := h.1
  rw [cellsPl_length] at hl
  omega
theorem own_some {W : World} {base e n : Nat} {v : Value} {ps : Pl} (h : W.ownsRow base e 2 v n (cellsPl ps)) (h0 : 0 < n) : ∃ g cap, v = .slice (some ⟨g, 0, none⟩) n cap ∧ base ≤ g ∧ n ≤ cap ∧ cap ≤ 9223372036854775807 := by
  rcases h.2 with ⟨_, h1⟩ | ⟨g, cap, cur, rfl, hb, hg, h1, h2, _⟩
  · omega
  · exact ⟨g, cap, rfl, hb, h1, by simp [maxLen] at h2; omega⟩
theorem own_pts {W : World} {base e n : Nat} {v : Value} {ps : Pl} (h : W.ownsRow base e 2 v n (cellsPl ps)) : ∃ A cap, v = .slice A ps.length cap ∧ Pts W A ps := by
  obtain rfl := own_len h
  rcases Nat.eq_zero_or_pos ps.length with h0 | h0
  · have e0 : ps = [] := by cases ps; rfl; simp at h0
    subst e0
    rcases h.2 with ⟨h1, _⟩ | ⟨g, cap, cur, h1, _⟩
    · exact ⟨_, _, h1, .inl rfl⟩
    · exact ⟨_, _, h1, .inl rfl⟩
  · obtain ⟨g, cap, rfl, _⟩ := own_some h h0
    exact ⟨_, _, rfl, .inr ⟨g, 0, rfl, own_cells h⟩⟩
theorem below_up {B : Nat} {a b c : World} (h : Below B a b) (hB : B ≤ a.heap.size) (k : Up b c) : Below B a c := h.trans (k.mono (Nat.le_trans hB h.size))
end Go.Proofs.YtdehnokcjnbjoaaGreat
