/- What the example of a load rubs: numbers. The order of points: what compare returns. The box of a hull: its least and greatest coordinates. A stack of points without what is on its top as long as it does not turn to the left. Lists of points that the call itself has made: what is left when they are cut, and when other memory is written. A list of the call's own whose first coordinates are scaled in place. The first few points of a list of small points: a list of the call's own. A parameter that is a list of points, or of small points, opened: its points. -/
import Derived.Test.YtdehnokcjnbjoaaGreatSl
import Derived.Deep.SlicePairs
import Derived.WideKeyArgs
import Derived.ProofKit
import Derived.OpenShut
import Derived.Test.YtdehnokcjnbjoaaGreatNum
import Derived.Test.YtdehnokcjnbjoaaGreatBx
import Derived.Deep.RegionLaw
import Derived.OwnWalk
import Derived.Laws.OwnMore
import Derived.Test.YtdehnokcjnbjoaaGreatPkHeldIn
import Derived.Deep.DeepCutAuto
import Derived.Test.YtdehnokcjnbjoaaGreatPt
import Derived.Sort.Grow
import Derived.StillTailTactics
namespace Go.Proofs.YtdehnokcjnbjoaaGreat
open Go.RowKit Go.Proofs.Gn Go.ChangeShapes Go.WideShapes Go.Deep
theorem Tryz.laidOutS : laidOutB Tryz.prog = true := by kernel_rfl
theorem Tryz.readPts : Tryz.prog.readableRec 37 = true := by kernel_rfl
theorem Tryz.cellsPt : Tryz.prog.cellsOf 55 = 2 := by kernel_rfl
theorem Tryz.cellsI64 : Tryz.prog.cellsOf 2 = 1 := by kernel_rfl
theorem add_at {a : Addr} (h : a.spot = none) (n : Nat) : a.add n = ⟨a.block, a.off + n, none⟩ := by
  obtain ⟨b, o, s⟩ := a
  subst h
  unfold Addr.add
  split
  · subst n; rfl
  · rfl
theorem pts_open {H : Type} {enc : TypeId × Value → H} {W : World} {base : Nat} {v : Value} {d : DataW H} {p : List MemPlace} (h : DataW.Trod enc Tryz.prog W base (fun _ => true) true 37 v d p) (hv : ∃ a len cap, v = .slice a len cap) :
    ∃ A ps cap, v = .slice A ps.length cap ∧ Pts W A ps ∧ ps.length ≤ 9223372036854775807 := by
  obtain ⟨a0, len0, cap0, rfl⟩ := hv
  obtain ⟨fuel, hf⟩ := h
  simp only [Value.cells] at hf
  rcases open_slice_pairs Tryz.underlying37 Tryz.underlying55 Tryz.cellsPt rfl rfl Tryz.cellsI64 Tryz.cellsI64 hf with ⟨hc, _⟩ | ⟨a, len, cap, m, n, V0, V1, D0, D1, P0, P1, hc, hb, hl, hm, hmm, hx, hi⟩
  · simp only [List.cons.injEq, and_true] at hc
    exact ⟨none, [], 0, hc, .inl rfl, by simp⟩
  · simp only [List.cons.injEq, and_true] at hc
    have hlm : len ≤ m := by rw [hmm]; split <;> omega
    refine ⟨some a, (List.range len).map fun i => (intOf (V0 i), intOf (V1 i)), cap, by simpa using hc, ?_, by simp [maxLen] at hm ⊢; omega⟩
    by_cases h0 : len = 0
    · exact .inl (by simp [h0])
    · have hsp := World.cell?_spot (hi 0 (by omega)).1
      have hs : a.spot = none := by simpa [Addr.add] using hsp
      refine .inr ⟨a.block, a.off, by obtain ⟨_, _, _⟩ := a; subst hs; rfl, fun k hk => ?_⟩
      have hk2 : k < len := by simpa using hk
      obtain ⟨c0, c1, t0, t1⟩ := hi k (by omega)
      obtain ⟨x, ex, _, _⟩ := DataW.trod_int Tryz.underlying2 t0
      obtain ⟨y, ey, _, _⟩ := DataW.trod_int Tryz.underlying2 t1
      simp only [List.cons.injEq, and_true] at ex ey
      rw [add_at hs, ex] at c0
      rw [add_at hs, ey] at c1
      refine ⟨?_, ?_⟩
      · rw [c0]; simp [ex, intOf]
      · rw [← Nat.add_assoc] at c1
        rw [c1]; simp [ey, intOf]
/-- A list reads as it did. -/
theorem pts_shut {H : Type} {enc : TypeId × Value → H} {W W' : World} {sp : Nat → Bool} {v : Value} {d : DataW H} {p : List MemPlace} (h : DataW.Trod enc Tryz.prog W 0 (fun _ => true) true 37 v d p) (hb : Below W.heap.size W W') (hlt : ∀ x ∈ p, x.block < W.heap.size) (hsp : ∀ x ∈ p, sp x.block = true) :
    DataW.Trod enc Tryz.prog W' 0 sp true 37 v d p :=
  WideElems.Trod_stays Tryz.laidOutS Tryz.readPts (of_decide_eq_true (by kernel_rfl)) h (fun x hx => hb.same (hlt x hx)) hsp
end Go.Proofs.YtdehnokcjnbjoaaGreat
namespace Go.Proofs.YtdehnokcjnbjoaaGreat
open Go.RowKit Go.Proofs.Gn
section
variable {P : Program} (w : World)
theorem wp_append_mine {o : Oper} {a : Act} {K : Act → World → Prop} {Q : Exit → Act → World → Prop} (s x : Operand) (t : TypeId)
    (ho : o.op = .call { callee := .builtin .append, args := #[s, x], argTypes := #[t, t] })
    (base : Nat) (e : TypeId) (i : TypeInfo) (z : Value) (size bytes : Nat) (ht : P.underlying t = some (.slice e)) (hi : P.info? e = some i) (hz : i.zero = some z)
    (hsize : i.size = size) (hby : i.bytes = bytes) (hzs : z.cells.size = size) (hsz : 0 < size)
    (v : Value) (n : Nat) (xs : List Value) (hs : a.eval s = v) (hown : w.ownsRow base e size v n xs)
    (ad : Addr) (m c : Nat) (news : List Value) (hx : a.eval x = .slice (some ad) m c) (hl : news.length = m * size) (hnews : ∀ j u, news[j]? = some u → w.cell? (ad.add j) = some u) (h1 : ∀ u ∈ news, u.oneCell' = true)
    (h63 : n + m ≤ maxLen) (hbytes : (n + m) * bytes ≤ 140737488355328) (hbase : base ≤ w.heap.size)
    (h : ∀ v' w', w'.ownsRow base e size v' (n + m) (xs ++ news) → w.grownBy w' v.ownBlock → K (a.put o.dst v') w') : o.wp P a w K Q := by
  obtain ⟨v', w', hrun, h2, h3, _⟩ := run_append_own (P := P) w base t o.type e i z size bytes ht hi hz hsize hby hzs hsz v n xs hown ad m c news hl hnews h1 h63 hbytes hbase
  unfold Oper.wp execOp
  simp only [ho, resolve, invoke, builtin, Sem.run_bind, Sem.run_pure, Result.andThen_ok, List.map_toArray, List.map_cons, List.map_nil, hs, hx, hrun]
  exact h v' w' h2 h3
theorem step_append_mine {ops : Array Oper} {o : Oper} {a : Act} {K : Act → World → Prop} {Q : Exit → Act → World → Prop} {E : Prop} (hgd : o.guard = none) (s x : Operand) (t : TypeId)
    (ho : o.op = .call { callee := .builtin .append, args := #[s, x], argTypes := #[t, t] })
    (base : Nat) (e : TypeId) (i : TypeInfo) (z : Value) (size bytes : Nat) (ht : P.underlying t = some (.slice e)) (hi : P.info? e = some i) (hz : i.zero = some z)
    (hsize : i.size = size) (hby : i.bytes = bytes) (hzs : z.cells.size = size) (hsz : 0 < size)
    (v : Value) (n : Nat) (xs : List Value) (hs : a.eval s = v) (hown : w.ownsRow base e size v n xs)
    (ad : Addr) (m c : Nat) (news : List Value) (hx : a.eval x = .slice (some ad) m c) (hl : news.length = m * size) (hnews : ∀ j u, news[j]? = some u → w.cell? (ad.add j) = some u) (h1 : ∀ u ∈ news, u.oneCell' = true)
    (h63 : n + m ≤ maxLen) (hbytes : (n + m) * bytes ≤ 140737488355328) (hbase : base ≤ w.heap.size)
    (h : ∀ v' w', w'.ownsRow base e size v' (n + m) (xs ++ news) → w.grownBy w' v.ownBlock → K (a.put o.dst v') w') :
    if Region.wanted o (yielded ops a.tmps) = true then Oper.wp P o a w K Q else E := by
  have hw : Region.wanted o (yielded ops a.tmps) = true := by simp [Region.wanted, hgd]
  rw [if_pos hw]
  exact wp_append_mine w s x t ho base e i z size bytes ht hi hz hsize hby hzs hsz v n xs hs hown ad m c news hx hl hnews h1 h63 hbytes hbase h
end
/-- The slice at A holds these small points. -/
def Smalls (w : World) (A : Option Addr) (ps : Pl) : Prop :=
  ps = [] ∨ ∃ b off, A = some ⟨b, off, none⟩ ∧ ∀ k (h : k < ps.length), w.cell? ⟨b, off + k * 2, none⟩ = some (.int .i8 ps[k].1) ∧ w.cell? ⟨b, off + k * 2 + 1, none⟩ = some (.int .i8 ps[k].2) ∧ (-128 ≤ ps[k].1 ∧ ps[k].1 ≤ 127) ∧ (-128 ≤ ps[k].2 ∧ ps[k].2 ≤ 127)
/-- The cells of points that lie one after another. -/
def cellsPl (ps : Pl) : List Value := ps.flatMap fun p => [.int .i64 p.1, .int .i64 p.2]
theorem cellsPl_snoc (ps : Pl) (x y : Int) : cellsPl (ps ++ [(x, y)]) = cellsPl ps ++ [.int .i64 x, .int .i64 y] := by simp [cellsPl]
theorem info_pt : (Tryz.prog.info? 55).map (fun i => (i.zero, i.size, i.bytes)) = some (some (.agg #[.int .i64 0, .int .i64 0]), 2, 16) := by kernel_rfl
theorem two_new (W : World) (x y : Value) (t : TypeId) : ∀ j u, [x, y][j]? = some u → (W.alloc (.cells #[x, y] t)).cell? ((⟨W.heap.size, 0, none⟩ : Addr).add j) = some u := by
  intro j u hj
  have b := bx_new W [x, y] t
  match j, hj with
  | 0, hj => simp at hj; subst hj; exact (bx2 b).1
  | 1, hj => simp at hj; subst hj; exact (bx2 b).2
  | (j + 2), hj => simp at hj
theorem few_rel {w W W' w1 : World} {v v' : Value} {k : Nat} {ps : Pl} {x y : Int} (ht : ps.take (k + 1) = ps.take k ++ [(x, y)]) (ho : W'.ownsRow w.heap.size 55 2 v k (cellsPl (ps.take k))) (hb : Below w.heap.size w W)
    (hown : w1.ownsRow w.heap.size 55 2 v' (k + 1) (cellsPl (ps.take k) ++ [.int .i64 x, .int .i64 y])) (hg : W.grownBy w1 v.ownBlock) :
    w1.ownsRow w.heap.size 55 2 v' (k + 1) (cellsPl (ps.take (k + 1))) ∧ Below w.heap.size w w1 := by
  rw [ht, cellsPl_snoc]
  exact ⟨hown, hb.grown hg hb.size fun j hj => (ho.lt j hj).1⟩
end Go.Proofs.YtdehnokcjnbjoaaGreat
namespace Go.Proofs.YtdehnokcjnbjoaaGreat
open Go.RowKit Go.Proofs.Gn
theorem cellsPl_length (ps : Pl) : (cellsPl ps).length = ps.length * 2 := by
  induction ps with
  | nil => rfl
  | cons p ps ih => simp only [cellsPl, List.flatMap_cons, List.length_append, List.length_cons, List.length_nil] at ih ⊢; omega
theorem cellsPl_at {ps : Pl} {k : Nat} (h : k < ps.length) : (cellsPl ps)[k * 2]? = some (.int .i64 ps[k].1) ∧ (cellsPl ps)[k * 2 + 1]? = some (.int .i64 ps[k].2) := by
  induction ps generalizing k with
  | nil => simp at h
  | cons p ps ih =>
    cases k with
    | zero => exact ⟨rfl, rfl⟩
    | succ k =>
      have := ih (k := k) (by simpa using h)
      rw [show (k + 1) * 2 = k * 2 + 2 by omega, show k * 2 + 2 + 1 = k * 2 + 1 + 2 by omega]
      exact this
theorem cellsPl_set {ps : Pl} {k : Nat} (h : k < ps.length) (z : Int) : (cellsPl ps).set (k * 2) (.int .i64 z) = cellsPl (ps.set k (z, ps[k].2)) := by
  induction ps generalizing k with
  | nil => simp at h
  | cons p ps ih =>
    cases k with
    | zero => rfl
    | succ k =>
      have := ih (k := k) (by simpa using h)
      rw [show (k + 1) * 2 = k * 2 + 2 by omega]
      show .int .i64 p.1 :: .int .i64 p.2 :: (cellsPl ps).set (k * 2) (.int .i64 z) = _
      rw [this]
      rfl
theorem pts_bx {W : World} {g : Nat} {ps : Pl} (h : Bx W g (cellsPl ps)) : Pts W (some ⟨g, 0, none⟩) ps := .inr ⟨g, 0, rfl, fun k hk => by
  have c := cellsPl_at hk
  simp only [Nat.zero_add]
  exact ⟨(h _ _ c.1).1, (h _ _ c.2).1⟩⟩
theorem bx_own {W : World} {base n : Nat} {v : Value} {e : TypeId} {ps : Pl} (h : W.ownsRow base e 2 v n (cellsPl ps)) (h0 : 0 < n) : ∃ g cap, v = .slice (some ⟨g, 0, none⟩) n cap ∧ base ≤ g ∧ Bx W g (cellsPl ps) := by
  rcases h.2 with ⟨_, h1⟩ | ⟨g, cap, cur, rfl, hb, hg, _⟩
  · omega
  · refine ⟨g, cap, rfl, hb, fun j u hj => ⟨?_, frozen_of_row W g j cur e hg⟩⟩
    have := h.cells (g := g) rfl j u hj
    have e : (⟨g, 0, none⟩ : Addr).add j = ⟨g, j, none⟩ := by unfold Addr.add; split <;> simp_all
    rwa [e] at this
/-- The first k of them are scaled. -/
def scl (c : Int) (k : Nat) (ps : Pl) : Pl := (ps.take k).map (fun p => (p.1 * c, p.2)) ++ ps.drop k
theorem scl_length (c : Int) (k : Nat) (ps : Pl) : (scl c k ps).length = ps.length := by simp [scl]; omega
theorem scl_zero (c : Int) (ps : Pl) : scl c 0 ps = ps := by simp [scl]
theorem scl_here {c : Int} {k : Nat} {ps : Pl} (h : k < ps.length) (h2 : k < (scl c k ps).length) : (scl c k ps)[k] = ps[k] := by
  have e : (scl c k ps)[k]? = some ps[k] := by
    unfold scl
    rw [List.getElem?_append_right (by simp; omega)]
    simp [Nat.min_eq_left (Nat.le_of_lt h)]
  obtain ⟨_, e⟩ := List.getElem?_eq_some_iff.1 e
  exact e
theorem scl_step {c : Int} {k : Nat} {ps : Pl} (h : k < ps.length) : (scl c k ps).set k (ps[k].1 * c, ps[k].2) = scl c (k + 1) ps := by
  unfold scl
  have hl : ((ps.take k).map (fun p => (p.1 * c, p.2))).length = k := by simp; omega
  rw [List.set_append_right _ _ (by omega), hl, Nat.sub_self, List.drop_eq_getElem_cons h, List.take_succ_eq_append_getElem h]
  simp only [List.set_cons_zero, List.map_append, List.map_cons, List.map_nil, List.append_assoc, List.cons_append, List.nil_append]
theorem bx_scl {W : World} {g k : Nat} {c : Int} {ps : Pl} (hk : k < ps.length) (h : Bx W g (cellsPl (scl c k ps))) : Bx (W.setCell ⟨g, k * 2, none⟩ (.int .i64 (ps[k].1 * c))) g (cellsPl (scl c (k + 1) ps)) := by
  have hl : k < (scl c k ps).length := by rw [scl_length]; exact hk
  have := bx_set h (k * 2) (.int .i64 (ps[k].1 * c))
  rw [cellsPl_set hl, scl_here hk hl, scl_step hk] at this
  exact this
theorem bx_scl_at {W : World} {g k : Nat} {c : Int} {ps : Pl} (hk : k < ps.length) (h : Bx W g (cellsPl (scl c k ps))) : W.cell? ⟨g, k * 2, none⟩ = some (.int .i64 ps[k].1) ∧ W.frozen? ⟨g, k * 2, none⟩ = false := by
  have hl : k < (scl c k ps).length := by rw [scl_length]; exact hk
  have c := cellsPl_at hl
  rw [scl_here hk hl] at c
  exact h _ _ c.1
theorem okL_scl {c : Int} {ps : Pl} (hc : 1 ≤ c) (hc2 : c ≤ 256) (h : ∀ p ∈ ps, (-128 ≤ p.1 ∧ p.1 ≤ 127) ∧ (-128 ≤ p.2 ∧ p.2 ≤ 127)) : okL (scl c ps.length ps) = true := by
  unfold okL scl
  rw [List.take_length, List.drop_length, List.append_nil, List.all_eq_true]
  intro q hq
  obtain ⟨p, hp, rfl⟩ := List.mem_map.1 hq
  have b := h p hp
  have m1 := Int.mul_le_mul_of_nonneg_right (c := c) b.1.2 (by omega)
  have m2 := Int.mul_le_mul_of_nonneg_right (c := c) b.1.1 (by omega)
  have u1 : okc (p.1 * c) = true := by unfold okc; simp only [decide_eq_true_eq]; omega
  have u2 : okc p.2 = true := by unfold okc; simp only [decide_eq_true_eq]; omega
  simp only [okp, u1, u2, Bool.and_self]
end Go.Proofs.YtdehnokcjnbjoaaGreat
namespace Go.Proofs.YtdehnokcjnbjoaaGreat
open Go.RowKit Go.Proofs.Gn
theorem own_up {W W' : World} {base e size n : Nat} {v : Value} {xs : List Value} (h : W.ownsRow base e size v n xs) (hu : Up W W') : W'.ownsRow base e size v n xs := by
  rcases h with ⟨hl, h | ⟨g, cap, cur, rfl, hb, hg, h⟩⟩
  · exact ⟨hl, .inl h⟩
  · refine ⟨hl, .inr ⟨g, cap, cur, rfl, hb, ?_, h⟩⟩
    rw [hu.block g (Array.getElem?_eq_some_iff.1 hg).1]
    exact hg
theorem own_prefix {W : World} {base e size n m cap g : Nat} {xs : List Value} (h : W.ownsRow base e size (.slice (some ⟨g, 0, none⟩) n cap) n xs) (hm : m ≤ n) : W.ownsRow base e size (.slice (some ⟨g, 0, none⟩) m cap) m (xs.take (m * size)) := by
  have hms : m * size ≤ n * size := Nat.mul_le_mul_right _ hm
  rcases h with ⟨hl, h | ⟨g', cap', cur, e1, hb, hg, h1, h2, h3, h4⟩⟩
  · simp at h
  · simp only [Value.slice.injEq, Option.some.injEq, Addr.mk.injEq, and_true, true_and] at e1
    obtain ⟨rfl, rfl⟩ := e1
    refine ⟨by rw [List.length_take, hl]; omega, .inr ⟨g, cap, cur, rfl, hb, hg, by omega, h2, h3, ?_⟩⟩
    rw [← h4, List.take_take, Nat.min_eq_left hms]
theorem cellsPl_take (ps : Pl) (m : Nat) : (cellsPl ps).take (m * 2) = cellsPl (ps.take m) := by
  induction ps generalizing m with
  | nil => simp [cellsPl]
  | cons p ps ih =>
    cases m with
    | zero => simp [cellsPl]
    | succ m =>
      have := ih m
      simp only [cellsPl, List.take_succ_cons, List.flatMap_cons, List.cons_append, List.nil_append] at this ⊢
      rw [show (m + 1) * 2 = m * 2 + 1 + 1 by omega, List.take_succ_cons, List.take_succ_cons, this]
theorem own_cells {W : World} {base e n cap g : Nat} {ps : Pl} (h : W.ownsRow base e 2 (.slice (some ⟨g, 0, none⟩) n cap) n (cellsPl ps)) :
    ∀ k (h : k < ps.length), W.cell? ⟨g, 0 + k * 2, none⟩ = some (.int .i64 ps[k].1) ∧ W.cell? ⟨g, 0 + k * 2 + 1, none⟩ = some (.int .i64 ps[k].2) := by
  intro k hk
  have hl : (cellsPl ps).length = n * 2 := h.1
  rw [cellsPl_length] at hl
  have c := cellsPl_at hk
  simp only [Nat.zero_add]
  rw [h.cellAt (k * 2) (by omega), h.cellAt (k * 2 + 1) (by omega)]
  exact c
theorem own_len {W : World} {base e n : Nat} {v : Value} {ps : Pl} (h : W.ownsRow base e 2 v n (cellsPl ps)) : n = ps.length := by
  have hl : (cellsPl ps).length = n * 2 := h.1
  rw [cellsPl_length] at hl
  omega
theorem own_some {W : World} {base e n : Nat} {v : Value} {ps : Pl} (h : W.ownsRow base e 2 v n (cellsPl ps)) (h0 : 0 < n) : ∃ g cap, v = .slice (some ⟨g, 0, none⟩) n cap ∧ base ≤ g ∧ n ≤ cap ∧ cap ≤ 9223372036854775807 := by
  rcases h.2 with ⟨_, h1⟩ | ⟨g, cap, cur, rfl, hb, hg, h1, h2, _⟩
  · omega
  · exact ⟨g, cap, rfl, hb, h1, by simp [maxLen] at h2; omega⟩
theorem own_pts {W : World} {base e n : Nat} {v : Value} {ps : Pl} (h : W.ownsRow base e 2 v n (cellsPl ps)) : ∃ A cap, v = .slice A ps.length cap ∧ Pts W A ps := by
  obtain rfl := own_len h
  rcases Nat.eq_zero_or_pos ps.length with h0 | h0
  · have e0 : ps = [] := by cases ps; rfl; simp at h0
    subst e0
    rcases h.2 with ⟨h1, _⟩ | ⟨g, cap, cur, h1, _⟩
    · exact ⟨_, _, h1, .inl rfl⟩
    · exact ⟨_, _, h1, .inl rfl⟩
  · obtain ⟨g, cap, rfl, _⟩ := own_some h h0
    exact ⟨_, _, rfl, .inr ⟨g, 0, rfl, own_cells h⟩⟩
theorem below_up {B : Nat} {a b c : World} (h : Below B a b) (hB : B ≤ a.heap.size) (k : Up b c) : Below B a c := h.trans (k.mono (Nat.le_trans hB h.size))
end Go.Proofs.YtdehnokcjnbjoaaGreat
namespace Go.Proofs.YtdehnokcjnbjoaaGreat
open Go.RowKit Go.Proofs.Gn
/-- Far from the limits, all of them. -/
def BdL (ps : Pl) : Prop := ∀ p ∈ ps, Bd p.1 ∧ Bd p.2
theorem bdL_get {ps : Pl} (h : BdL ps) {k : Nat} (hk : k < ps.length) : Bd (Gx.g ps k).1 ∧ Bd (Gx.g ps k).2 := h _ (Gx.g_mem hk)
theorem pts_g {w : World} {b off : Nat} {ps : Pl} (hc : ∀ k (h : k < ps.length), w.cell? ⟨b, off + k * 2, none⟩ = some (.int .i64 ps[k].1) ∧ w.cell? ⟨b, off + k * 2 + 1, none⟩ = some (.int .i64 ps[k].2)) {k : Nat} (hk : k < ps.length) :
    w.cell? ⟨b, off + k * 2, none⟩ = some (.int .i64 (Gx.g ps k).1) ∧ w.cell? ⟨b, off + k * 2 + 1, none⟩ = some (.int .i64 (Gx.g ps k).2) := by
  rw [Gx.g_eq hk]
  exact hc k hk
theorem det_dt (a b c : Int × Int) : det a.1 a.2 b.1 b.2 c.1 c.2 = Gx.dt a b c := rfl
theorem cmp_le (d : Int) : decide (cmpV d 0 ≤ 0) = decide (d ≤ 0) := by
  unfold cmpV
  rw [Bool.eq_iff_iff]
  simp only [decide_eq_true_eq]
  split
  · omega
  · split <;> omega
theorem p_off0 (A : Option Addr) (n : Nat) (cap : Nat) (p : Addr) (w : World) (h : n < 2) :
    Calls Tryz.prog 180 #[.slice A n cap, .pointer (some p)] w fun e w' => e = .returned (.bool false) ∧ Up w w' := by
  have h1 : (n : Int) < 2 := by omega
  have h2 : decide ((2 : Int) ≤ (n : Int)) = false := by simp; omega
  go_enter Tryz.func180, Tryz.ntmps180
  go_wp2_with fail
  go_quiet (fail)
  all_goals go_wp2_with fail
  all_goals go_ret
  all_goals exact ⟨rfl, (by repeat' (first | (with_reducible exact up_refl _) | (with_reducible assumption) | (with_reducible refine up_alloc ?_ _) | (with_reducible refine up_drewN ?_ _) | (with_reducible refine up_drew ?_) | (with_reducible refine up_set ?_ (by first | (simp; done) | (simp; omega) | omega) _) | (refine up_trans ?_ (by with_reducible assumption))))⟩
set_option maxHeartbeats 1000000 in
theorem p_off2 (b off : Nat) (ps : Pl) (cap : Nat) (pb : Nat) (x y : Int) (w : World) (hc : ∀ k (h : k < ps.length), w.cell? ⟨b, off + k * 2, none⟩ = some (.int .i64 ps[k].1) ∧ w.cell? ⟨b, off + k * 2 + 1, none⟩ = some (.int .i64 ps[k].2))
    (hx : w.cell? ⟨pb, 0, none⟩ = some (.int .i64 x)) (hy : w.cell? ⟨pb, 1, none⟩ = some (.int .i64 y)) (n : Nat) (hn : ps.length = n + 2) (h63 : n + 2 ≤ 9223372036854775807) (hb : BdL ps) (bx : Bd x) (b_y : Bd y) :
    Calls Tryz.prog 180 #[.slice (some ⟨b, off, none⟩) ((n + 2 : Nat)) cap, .pointer (some ⟨pb, 0, none⟩)] w fun e w' => e = .returned (.bool (decide (Gx.dt (Gx.g ps n) (Gx.g ps (n + 1)) (x, y) ≤ 0))) ∧ Up w w' := by
  obtain ⟨a0, a1⟩ := pts_g hc (k := n) (by omega)
  obtain ⟨b0, b1⟩ := pts_g hc (k := n + 1) (by omega)
  have ba := bdL_get hb (k := n) (by omega)
  have bb := bdL_get hb (k := n + 1) (by omega)
  obtain ⟨P, hP⟩ : ∃ P, Gx.g ps n = P := ⟨_, rfl⟩
  obtain ⟨Q, hQ⟩ : ∃ P, Gx.g ps (n + 1) = P := ⟨_, rfl⟩
  rw [hP] at a0 a1 ba ⊢
  rw [hQ] at b0 b1 bb ⊢
  obtain ⟨p1, p2⟩ := P
  obtain ⟨q1, q2⟩ := Q
  simp only at a0 a1 b0 b1 ba bb
  have PT : ∀ W : World, Calls Tryz.prog 181 #[pt p1 p2, pt q1 q2, pt x y] W fun e w' => e = .returned (.int .i64 (cmpV (det p1 p2 q1 q2 x y) 0)) ∧ Up W w' := fun W => p_turn p1 p2 q1 q2 x y W ba.1 ba.2 bb.1 bb.2 bx b_y
  have hd : decide (cmpV (det p1 p2 q1 q2 x y) 0 ≤ 0) = decide (Gx.dt (p1, p2) (q1, q2) (x, y) ≤ 0) := cmp_le _
  obtain ⟨T, hT⟩ : ∃ T, cmpV (det p1 p2 q1 q2 x y) 0 = T := ⟨_, rfl⟩
  rw [hT] at hd PT
  obtain ⟨D, hD⟩ : ∃ D, decide (Gx.dt (p1, p2) (q1, q2) (x, y) ≤ 0) = D := ⟨_, rfl⟩
  rw [hD] at hd ⊢
  have HPT := hide PT
  clear PT hP hQ hT hD hc hn hb ba bb bx b_y
  have k1 : (2 : Int) ≤ ((n + 2 : Nat) : Int) := by omega
  have k2 : decide ((2 : Int) ≤ ((n + 2 : Nat) : Int)) = true := by simp; omega
  have k3 : IntKind.i64.wrap (((n + 2 : Nat) : Int) - 2) = (n : Int) := by rw [IntWalk.i64_in _ ⟨by omega, by omega⟩]; omega
  have k4 : IntKind.i64.wrap (((n + 2 : Nat) : Int) - 1) = ((n + 1 : Nat) : Int) := by rw [IntWalk.i64_in _ ⟨by omega, by omega⟩]; omega
  have k5 : (n : Int) < ((n + 2 : Nat) : Int) := by omega
  have k6 : ((n + 1 : Nat) : Int) < ((n + 2 : Nat) : Int) := by omega
  obtain ⟨N, hN⟩ : ∃ N : Nat, N = n + 2 := ⟨_, rfl⟩
  obtain ⟨M, hM⟩ : ∃ M : Nat, M = n + 1 := ⟨_, rfl⟩
  rw [← hN] at k1 k2 k3 k4 k5 k6 ⊢
  rw [← hM] at k4 k6 b0 b1
  clear hN hM
  go_enter Tryz.func180, Tryz.ntmps180
  go_wp2_with fail
  go_region_held3 (fun wx => wx.cell? ⟨b, off + n * 2, none⟩ = some (.int .i64 p1) ∧ wx.cell? ⟨b, off + n * 2 + 1, none⟩ = some (.int .i64 p2) ∧ wx.cell? ⟨b, off + M * 2, none⟩ = some (.int .i64 q1) ∧ wx.cell? ⟨b, off + M * 2 + 1, none⟩ = some (.int .i64 q2) ∧ wx.cell? ⟨pb, 0, none⟩ = some (.int .i64 x) ∧ wx.cell? ⟨pb, 1, none⟩ = some (.int .i64 y) ∧ Up w wx)
    ((first | exact ⟨a0, a1, b0, b1, hx, hy, up_drew (up_refl _)⟩ | (with_reducible assumption) | exact ⟨up_cell hb3 a0, up_cell hb3 a1, up_cell hb3 b0, up_cell hb3 b1, up_cell hb3 hx, up_cell hb3 hy, (by repeat' (first | (with_reducible exact up_refl _) | (with_reducible assumption) | (with_reducible refine up_alloc ?_ _) | (with_reducible refine up_drewN ?_ _) | (with_reducible refine up_drew ?_) | (with_reducible refine up_set ?_ (by first | (simp; done) | (simp; omega) | omega) _) | (refine up_trans ?_ (by with_reducible assumption))))⟩))
    (first | (go_at_call 181; (with_reducible refine (unhide HPT _).mono ?_); rintro e w3 ⟨rfl, hb3⟩))
  go_wp2
  go_ret
  exact ⟨rfl, (by repeat' (first | (with_reducible exact up_refl _) | (with_reducible assumption) | (with_reducible refine up_alloc ?_ _) | (with_reducible refine up_drewN ?_ _) | (with_reducible refine up_drew ?_) | (with_reducible refine up_set ?_ (by first | (simp; done) | (simp; omega) | omega) _) | (refine up_trans ?_ (by with_reducible assumption))))⟩
/-- What is left of a stack. -/
def leftS (p : Int × Int) (ps : Pl) : Pl := (Gx.popS p ps.reverse).reverse
theorem leftS_prefix (p : Int × Int) (ps : Pl) : leftS p ps <+: ps := by
  have := Gx.pop_suffix p ps.reverse
  unfold leftS
  rw [← List.reverse_suffix, List.reverse_reverse]
  exact this
theorem leftS_short {p : Int × Int} {ps : Pl} (h : ps.length < 2) : leftS p ps = ps := by
  match ps, h with
  | [], _ => rfl
  | [_], _ => rfl
theorem leftS_step {p : Int × Int} {ps : Pl} {n : Nat} (h : ps.length = n + 2) : leftS p ps = if Gx.dt (Gx.g ps n) (Gx.g ps (n + 1)) p ≤ 0 then leftS p (ps.take (n + 1)) else ps := by
  obtain ⟨r, rfl⟩ : ∃ r, ps = r.reverse := ⟨ps.reverse, by simp⟩
  match r, h with
  | b :: a :: t, h =>
    have ht : t.length = n := by simpa using h
    have e1 : Gx.g (b :: a :: t).reverse n = a := by
      rw [Gx.g_eq (by simp; omega)]
      simp [ht]
    have e2 : Gx.g (b :: a :: t).reverse (n + 1) = b := by
      rw [Gx.g_eq (by simp; omega)]
      simp [ht]
    have e3 : (b :: a :: t).reverse.take (n + 1) = (a :: t).reverse := by
      rw [List.reverse_cons, List.take_append_of_le_length (by simp; omega), List.take_of_length_le (by simp; omega)]
    rw [e1, e2, e3]
    unfold leftS
    rw [List.reverse_reverse, List.reverse_reverse]
    conv => lhs; unfold Gx.popS
    split <;> rfl
set_option maxHeartbeats 1000000 in
theorem p_drop (g : Nat) (ps : Pl) (cap : Nat) (pb : Nat) (x y : Int) (w : World) (hc : ∀ k (h : k < ps.length), w.cell? ⟨g, 0 + k * 2, none⟩ = some (.int .i64 ps[k].1) ∧ w.cell? ⟨g, 0 + k * 2 + 1, none⟩ = some (.int .i64 ps[k].2))
    (hx : w.cell? ⟨pb, 0, none⟩ = some (.int .i64 x)) (hy : w.cell? ⟨pb, 1, none⟩ = some (.int .i64 y)) (hcap : ps.length ≤ cap) (h63 : cap ≤ 9223372036854775807) (hb : BdL ps) (bx : Bd x) (b_y : Bd y) :
    Calls Tryz.prog 179 #[.slice (some ⟨g, 0, none⟩) ps.length cap, .func (.func 180) #[] #[.pointer (some ⟨pb, 0, none⟩)]] w fun e w' => e = .returned (.slice (some ⟨g, 0, none⟩) (leftS (x, y) ps).length cap) ∧ Up w w' := by
  obtain ⟨N, hN⟩ : ∃ N, ps.length = N := ⟨_, rfl⟩
  rw [hN] at hcap ⊢
  have HC := hide hc
  have HN := hide hN
  have HB := hide hb
  clear hc hN hb
  go_enter Tryz.func179, Tryz.ntmps179
  go_wp2_with fail
  go_loopw [0] (fun v wr => ∃ m : Nat, m ≤ N ∧ v = .slice (some ⟨g, 0, none⟩) m cap ∧ Up w wr ∧ leftS (x, y) (ps.take m) = leftS (x, y) ps) (fun v _ => match v with | .slice _ n _ => n | _ => 0)
  case atStart => exact ⟨N, Nat.le_refl _, rfl, up_refl _, by rw [List.take_of_length_le (by rw [unhide HN]; exact Nat.le_refl _)]⟩
  case round =>
    obtain ⟨m, hm, rfl, hu, hl⟩ := hrel
    have hlen : (ps.take m).length = m := by rw [List.length_take, unhide HN]; omega
    have hcm : ∀ k (h : k < (ps.take m).length), wr.cell? ⟨g, 0 + k * 2, none⟩ = some (.int .i64 (ps.take m)[k].1) ∧ wr.cell? ⟨g, 0 + k * 2 + 1, none⟩ = some (.int .i64 (ps.take m)[k].2) := fun k h => by
      rw [List.getElem_take]
      have := unhide HC k (by rw [unhide HN]; omega)
      exact ⟨up_cell hu this.1, up_cell hu this.2⟩
    have hbm : BdL (ps.take m) := fun p hp => unhide HB p (List.mem_of_mem_take hp)
    have HL := hide hl
    have hx' := up_cell hu hx
    have hy' := up_cell hu hy
    by_cases h2 : m < 2
    · have e : (leftS (x, y) ps).length = m := by rw [← unhide HL, leftS_short (by omega), hlen]
      have HE := hide e
      clear e hcm hbm hlen hl
      go_wp2_with (go_at_call 180; refine (p_off0 _ _ _ _ _ h2).mono ?_; rintro e w1 ⟨rfl, hb1⟩)
      go_ret
      refine ⟨?_, (by repeat' (first | (with_reducible exact up_refl _) | (with_reducible assumption) | (with_reducible refine up_alloc ?_ _) | (with_reducible refine up_drewN ?_ _) | (with_reducible refine up_drew ?_) | (with_reducible refine up_set ?_ (by first | (simp; done) | (simp; omega) | omega) _) | (refine up_trans ?_ (by with_reducible assumption))))⟩
      rw [unhide HE]; rfl
    · obtain ⟨n, hn⟩ : ∃ n, m = n + 2 := ⟨m - 2, by omega⟩
      have hstep := leftS_step (p := (x, y)) (ps := ps.take m) (n := n) (by rw [hlen]; exact hn)
      have hoff := p_off2 g 0 (ps.take m) cap pb x y wr hcm hx' hy' n (by rw [hlen]; exact hn) (by omega) hbm bx b_y
      rw [← hn] at hoff
      have et : (ps.take m).take (n + 1) = ps.take (n + 1) := by rw [List.take_take, Nat.min_eq_left (by omega)]
      rw [et] at hstep
      by_cases hd : Gx.dt (Gx.g (ps.take m) n) (Gx.g (ps.take m) (n + 1)) (x, y) ≤ 0
      · rw [if_pos hd] at hstep
        rw [decide_eq_true hd] at hoff
        have hl2 : leftS (x, y) (ps.take (n + 1)) = leftS (x, y) ps := by rw [← hstep]; exact unhide HL
        have HL2 := hide hl2
        have HO := hide hoff
        have e1 : IntKind.i64.wrap ((m : Int) - 1) = ((n + 1 : Nat) : Int) := by rw [IntWalk.i64_in _ ⟨by omega, by omega⟩]; omega
        have e2 : ((n + 1 : Nat) : Int) ≤ (cap : Int) := by omega
        have e3 : n + 1 ≤ cap := by omega
        obtain ⟨M, hM⟩ : ∃ M : Nat, M = n + 1 := ⟨_, rfl⟩
        rw [← hM] at e1 e2 e3 HL2
        have e4 : M < m := by omega
        have e5 : M ≤ N := by omega
        clear hstep hoff hd et hcm hbm hlen hl hl2 hn hM h2
        go_wp2_with (go_at_call 180; refine (unhide HO).mono ?_; rintro e w1 ⟨rfl, hb1⟩)
        go_roundw
        case rel => exact ⟨M, e5, rfl, (by repeat' (first | (with_reducible exact up_refl _) | (with_reducible assumption) | (with_reducible refine up_alloc ?_ _) | (with_reducible refine up_drewN ?_ _) | (with_reducible refine up_drew ?_) | (with_reducible refine up_set ?_ (by first | (simp; done) | (simp; omega) | omega) _) | (refine up_trans ?_ (by with_reducible assumption)))), unhide HL2⟩
        case measure => exact e4
      · rw [if_neg hd] at hstep
        rw [decide_eq_false hd] at hoff
        have e : (leftS (x, y) ps).length = m := by rw [← unhide HL, hstep, hlen]
        have HE := hide e
        have HO := hide hoff
        clear e hcm hbm hlen hl hstep hoff hd et hn h2
        go_wp2_with (go_at_call 180; refine (unhide HO).mono ?_; rintro e w1 ⟨rfl, hb1⟩)
        go_ret
        refine ⟨?_, (by repeat' (first | (with_reducible exact up_refl _) | (with_reducible assumption) | (with_reducible refine up_alloc ?_ _) | (with_reducible refine up_drewN ?_ _) | (with_reducible refine up_drew ?_) | (with_reducible refine up_set ?_ (by first | (simp; done) | (simp; omega) | omega) _) | (refine up_trans ?_ (by with_reducible assumption))))⟩
        rw [unhide HE]; rfl
theorem p_drop0 (cap : Nat) (p : Addr) (w : World) :
    Calls Tryz.prog 179 #[.slice none 0 cap, .func (.func 180) #[] #[.pointer (some p)]] w fun e w' => e = .returned (.slice none 0 cap) ∧ Up w w' := by
  go_enter Tryz.func179, Tryz.ntmps179
  go_wp2_with fail
  go_loopw [0] (fun v wr => v = .slice none 0 cap ∧ Up w wr) (fun _ _ => 0)
  case atStart => exact ⟨rfl, up_refl _⟩
  case round =>
    obtain ⟨rfl, hu⟩ := hrel
    have PO := fun W => p_off0 none 0 cap p W (by omega)
    have HPO := hide PO
    clear PO
    go_wp2_with (go_at_call 180; refine (unhide HPO _).mono ?_; rintro e w1 ⟨rfl, hb1⟩)
    go_ret
    exact ⟨rfl, (by repeat' (first | (with_reducible exact up_refl _) | (with_reducible assumption) | (with_reducible refine up_alloc ?_ _) | (with_reducible refine up_drewN ?_ _) | (with_reducible refine up_drew ?_) | (with_reducible refine up_set ?_ (by first | (simp; done) | (simp; omega) | omega) _) | (refine up_trans ?_ (by with_reducible assumption))))⟩
end Go.Proofs.YtdehnokcjnbjoaaGreat
namespace Go.Proofs.YtdehnokcjnbjoaaGreat
open Go.RowKit Go.Proofs.Gn
/-- The least and the greatest coordinates of points. -/
structure IsBox (ps : Pl) (k : Nat) (l1 l2 h1 h2 : Int) : Prop where
  l1a : ∃ r ∈ ps, r.1 = l1
  l2a : ∃ r ∈ ps, r.2 = l2
  h1a : ∃ r ∈ ps, r.1 = h1
  h2a : ∃ r ∈ ps, r.2 = h2
  l1b : ∀ i, i < k → l1 ≤ (Gx.g ps i).1
  l2b : ∀ i, i < k → l2 ≤ (Gx.g ps i).2
  h1b : ∀ i, i < k → (Gx.g ps i).1 ≤ h1
  h2b : ∀ i, i < k → (Gx.g ps i).2 ≤ h2
theorem min_of {P : Int → Prop} {a b : Int} (ha : P a) (hb : P b) : P (if b < a then b else a) := by split <;> assumption
theorem max_of {P : Int → Prop} {a b : Int} (ha : P a) (hb : P b) : P (if b > a then b else a) := by split <;> assumption
theorem box_step {ps : Pl} {k : Nat} {l1 l2 h1 h2 x y : Int} (h : IsBox ps k l1 l2 h1 h2) (hk : k < ps.length) (e : Gx.g ps k = (x, y)) :
    IsBox ps (k + 1) (if x < l1 then x else l1) (if y < l2 then y else l2) (if x > h1 then x else h1) (if y > h2 then y else h2) := by
  have hx : ∃ r ∈ ps, r.1 = x := ⟨Gx.g ps k, Gx.g_mem hk, by rw [e]⟩
  have hy : ∃ r ∈ ps, r.2 = y := ⟨Gx.g ps k, Gx.g_mem hk, by rw [e]⟩
  have low : ∀ {a b : Int}, (if b < a then b else a) ≤ a ∧ (if b < a then b else a) ≤ b := fun {a b} => by split <;> omega
  have high : ∀ {a b : Int}, a ≤ (if b > a then b else a) ∧ b ≤ (if b > a then b else a) := fun {a b} => by split <;> omega
  refine ⟨min_of (P := fun z => ∃ r ∈ ps, r.1 = z) h.l1a hx, min_of (P := fun z => ∃ r ∈ ps, r.2 = z) h.l2a hy, max_of (P := fun z => ∃ r ∈ ps, r.1 = z) h.h1a hx, max_of (P := fun z => ∃ r ∈ ps, r.2 = z) h.h2a hy, ?_, ?_, ?_, ?_⟩
  · intro i hi
    rcases Nat.lt_or_ge i k with c | c
    · exact Int.le_trans low.1 (h.l1b i c)
    · obtain rfl : i = k := by omega
      rw [e]; exact low.2
  · intro i hi
    rcases Nat.lt_or_ge i k with c | c
    · exact Int.le_trans low.1 (h.l2b i c)
    · obtain rfl : i = k := by omega
      rw [e]; exact low.2
  · intro i hi
    rcases Nat.lt_or_ge i k with c | c
    · exact Int.le_trans (h.h1b i c) high.1
    · obtain rfl : i = k := by omega
      rw [e]; exact high.2
  · intro i hi
    rcases Nat.lt_or_ge i k with c | c
    · exact Int.le_trans (h.h2b i c) high.1
    · obtain rfl : i = k := by omega
      rw [e]; exact high.2
theorem bx_set2 {W : World} {b : Nat} {u0 u1 v0 v1 : Value} (h : Bx W b [u0, u1]) : Bx ((W.setCell ⟨b, 0, none⟩ v0).setCell ⟨b, 1, none⟩ v1) b [v0, v1] := bx_set (bx_set h 0 v0) 1 v1
theorem bx_far2 {W : World} {b g : Nat} {vs : List Value} {v0 v1 : Value} (h : Bx W b vs) (hg : g ≠ b) : Bx ((W.setCell ⟨g, 0, none⟩ v0).setCell ⟨g, 1, none⟩ v1) b vs := bx_far (bx_far h (p := ⟨g, 0, none⟩) hg _) (p := ⟨g, 1, none⟩) hg _
end Go.Proofs.YtdehnokcjnbjoaaGreat
namespace Go.Proofs.YtdehnokcjnbjoaaGreat
open Go.RowKit Go.Proofs.Gn
/-- What compare returns. -/
def cmp2 (ax ay bx b_y : Int) : Int := if cmpV ax bx = 0 then cmpV ay b_y else cmpV ax bx
theorem c_Or {b off : Nat} {x y : Int} (w : World) (h0 : w.cell? ⟨b, off, none⟩ = some (.int .i64 x)) (h1 : w.cell? ⟨b, off + 1, none⟩ = some (.int .i64 y)) :
    Calls Tryz.prog 149 #[.slice (some ⟨b, off, none⟩) 2 2] w fun e w' => e = .returned (.int .i64 (if x = 0 then y else x)) ∧ w = w' := by
  by_cases hx : x = 0
  · subst hx
    by_cases hy : y = 0
    · subst hy
      go_enter Tryz.func149, Tryz.ntmps149
      go_wp2
      go_rounds 3
      go_ret
      exact ⟨rfl, rfl⟩
    · have e1 : (y == 0) = false := by simp; exact hy
      go_enter Tryz.func149, Tryz.ntmps149
      go_wp2
      go_rounds 2
      go_ret
      exact ⟨rfl, rfl⟩
  · have e1 : (x == 0) = false := by simp; exact hx
    rw [if_neg hx]
    go_enter Tryz.func149, Tryz.ntmps149
    go_wp2
    go_rounds 1
    go_ret
    exact ⟨rfl, rfl⟩

/-- New blocks and draws, and nothing else. -/
def Gr (w w' : World) : Prop := ∃ q os, w' = Go.Sort.grow (w.drewN q) os
theorem gr_refl (w : World) : Gr w w := ⟨0, #[], by simp [Go.Sort.grow, World.drewN]⟩
theorem gr_alloc {a b : World} (h : Gr a b) (o : Obj) : Gr a (b.alloc o) := by
  obtain ⟨q, os, rfl⟩ := h
  exact ⟨q, os ++ #[o], by rw [Go.Sort.alloc_eq_grow, Go.Sort.grow_grow]⟩
theorem gr_drew {a b : World} (h : Gr a b) : Gr a b.drew := by
  obtain ⟨q, os, rfl⟩ := h
  exact ⟨q + 1, os, rfl⟩
theorem gr_up {a b : World} (h : Gr a b) : Up a b := by
  obtain ⟨q, os, rfl⟩ := h
  refine ⟨rfl, rfl, rfl, by simp, fun k hk => ?_⟩
  simp [Go.Sort.grow, Array.getElem?_append, hk]
theorem gr_cell {a b : World} (h : Gr a b) {p : Addr} {v : Value} (hc : a.cell? p = some v) : b.cell? p = some v := up_cell (gr_up h) hc
theorem gr_trans {a b c : World} (h : Gr a b) (k : Gr b c) : Gr a c := by
  obtain ⟨q, os, rfl⟩ := h
  obtain ⟨q', os', rfl⟩ := k
  exact ⟨q + q', os ++ os', by simp [Go.Sort.grow, World.drewN, Nat.add_assoc]⟩
set_option maxHeartbeats 1000000 in
theorem p_compareG (ax ay bx b_y : Int) (w : World) :
    Calls Tryz.prog 158 #[pt ax ay, pt bx b_y] w fun e w' => e = .returned (.int .i64 (cmp2 ax ay bx b_y)) ∧ Gr w w' := by
  obtain ⟨X, hX⟩ : ∃ X, cmpV ax bx = X := ⟨_, rfl⟩
  obtain ⟨Y, hY⟩ : ∃ X, cmpV ay b_y = X := ⟨_, rfl⟩
  unfold cmp2
  rw [hX, hY]
  have CX : ∀ W : World, Calls Tryz.prog 150 #[.int .i64 ax, .int .i64 bx] W fun e w' => e = .returned (.int .i64 X) ∧ W = w' := fun W => by rw [← hX]; exact c_Compare ax bx W
  have CY : ∀ W : World, Calls Tryz.prog 150 #[.int .i64 ay, .int .i64 b_y] W fun e w' => e = .returned (.int .i64 Y) ∧ W = w' := fun W => by rw [← hY]; exact c_Compare ay b_y W
  obtain ⟨Z, hZ⟩ : ∃ Z, (if X = 0 then Y else X) = Z := ⟨_, rfl⟩
  rw [hZ]
  have CO : ∀ (W : World) (b : Nat), W.cell? ⟨b, 0, none⟩ = some (.int .i64 X) → W.cell? ⟨b, 1, none⟩ = some (.int .i64 Y) → Calls Tryz.prog 149 #[.slice (some ⟨b, 0, none⟩) 2 2] W fun e w' => e = .returned (.int .i64 Z) ∧ W = w' := fun W b h0 h1 => by rw [← hZ]; exact c_Or W h0 h1
  have HCX := hide CX
  have HCY := hide CY
  have HCO := hide CO
  clear CX CY CO hX hY hZ
  go_enter Tryz.func158, Tryz.ntmps158
  go_wp2
  obtain ⟨W, hW⟩ : ∃ W : World, W = ((w.alloc (Obj.cells #[Value.int IntKind.i64 ax, Value.int IntKind.i64 ay] 55)).alloc (Obj.cells #[Value.int IntKind.i64 bx, Value.int IntKind.i64 b_y] 55)) := ⟨_, rfl⟩
  rw [← hW]
  have c1 : W.cell? ⟨w.heap.size, 0, none⟩ = some (.int .i64 ax) := by rw [hW]; go_cell
  have c2 : W.cell? ⟨w.heap.size, 1, none⟩ = some (.int .i64 ay) := by rw [hW]; go_cell
  have c3 : W.cell? ⟨w.heap.size + 1, 0, none⟩ = some (.int .i64 bx) := by rw [hW]; go_cell
  have c4 : W.cell? ⟨w.heap.size + 1, 1, none⟩ = some (.int .i64 b_y) := by rw [hW]; go_cell
  have c5 : Gr w W := by rw [hW]; exact gr_alloc (gr_alloc (gr_refl _) _) _
  clear hW
  go_region_held3 (fun wx => wx.cell? ⟨w.heap.size, 0, none⟩ = some (.int .i64 ax) ∧ wx.cell? ⟨w.heap.size, 1, none⟩ = some (.int .i64 ay) ∧ wx.cell? ⟨w.heap.size + 1, 0, none⟩ = some (.int .i64 bx) ∧ wx.cell? ⟨w.heap.size + 1, 1, none⟩ = some (.int .i64 b_y) ∧ Gr w wx)
    ((first | exact ⟨c1, c2, c3, c4, gr_drew c5⟩ | exact ⟨alloc_cell _ c1, alloc_cell _ c2, alloc_cell _ c3, alloc_cell _ c4, gr_drew (gr_alloc c5 _)⟩ | (with_reducible assumption)))
    (first | (go_at_call 150; (with_reducible refine (unhide HCX _).mono ?_); rintro e w1 ⟨rfl, rfl⟩) | (go_at_call 150; (with_reducible refine (unhide HCY _).mono ?_); rintro e w1 ⟨rfl, rfl⟩) | (go_at_call 149; (with_reducible refine (unhide HCO _ _ (by go_cell) (by go_cell)).mono ?_); rintro e w2 ⟨rfl, rfl⟩))
  all_goals go_wp2
  all_goals go_ret
  all_goals exact ⟨rfl, gr_drew (gr_alloc c5 _)⟩
theorem cmpV_neg (a b : Int) : cmpV a b < 0 ↔ a < b := by unfold cmpV; split; simp_all; split <;> simp_all
theorem cmpV_zero (a b : Int) : cmpV a b = 0 ↔ a = b := by unfold cmpV; split; omega; split <;> omega
theorem cmp2_neg (a b : Int × Int) : cmp2 a.1 a.2 b.1 b.2 < 0 ↔ Gx.lt2 a b := by
  unfold cmp2 Gx.lt2
  have h1 := cmpV_neg a.1 b.1
  have h2 := cmpV_neg a.2 b.2
  have h3 := cmpV_zero a.1 b.1
  split <;> omega
theorem cmp2_pos (a b : Int × Int) : 0 < cmp2 a.1 a.2 b.1 b.2 ↔ Gx.lt2 b a := by
  unfold cmp2 Gx.lt2 cmpV
  split <;> split <;> (try split) <;> (try split) <;> omega
theorem p_compare (ax ay bx b_y : Int) (w : World) :
    Calls Tryz.prog 158 #[pt ax ay, pt bx b_y] w fun e w' => e = .returned (.int .i64 (cmp2 ax ay bx b_y)) ∧ Up w w' :=
  (p_compareG ax ay bx b_y w).mono fun _ _ ⟨he, hw⟩ => ⟨he, gr_up hw⟩
end Go.Proofs.YtdehnokcjnbjoaaGreat
namespace Go.Proofs.YtdehnokcjnbjoaaGreat
open Go.RowKit Go.Proofs.Gn
set_option linter.unusedVariables false
/-- The way to the next corner, when one more point has been looked at. -/
def nxS (a w p : Int × Int) : Int × Int :=
  if w.1 * (p.2 - a.2) - w.2 * (p.1 - a.1) < 0 then (p.1 - a.1, p.2 - a.2)
  else if w.1 * (p.2 - a.2) - w.2 * (p.1 - a.1) = 0 then (if w.1 * w.1 + w.2 * w.2 < (p.1 - a.1) * (p.1 - a.1) + (p.2 - a.2) * (p.2 - a.2) then (p.1 - a.1, p.2 - a.2) else w) else w
def nxW (a : Int × Int) : Int × Int → List (Int × Int) → Int × Int
  | w, [] => w
  | w, p :: l => nxW a (nxS a w p) l
def nxF (l : List (Int × Int)) (a : Int × Int) : Int × Int := (a.1 + (nxW a (0, 0) l).1, a.2 + (nxW a (0, 0) l).2)
/-- Points that are not far. -/
def Nr (b : Int) (p : Int × Int) : Prop := (-b ≤ p.1 ∧ p.1 ≤ b) ∧ (-b ≤ p.2 ∧ p.2 ≤ b)
theorem nxS_nr {a w p : Int × Int} (ha : Nr 4000 a) (hp : Nr 4000 p) (hw : Nr 8000 w) : Nr 8000 (nxS a w p) := by
  have h : Nr 8000 (p.1 - a.1, p.2 - a.2) := by
    unfold Nr at *
    dsimp only
    omega
  unfold nxS
  split
  · exact h
  · split
    · split
      · exact h
      · exact hw
    · exact hw
theorem nxW_nr {a : Int × Int} (ha : Nr 4000 a) : ∀ {l : List (Int × Int)} {w : Int × Int}, (∀ p ∈ l, Nr 4000 p) → Nr 8000 w → Nr 8000 (nxW a w l)
  | [], w, _, hw => hw
  | p :: l, w, hl, hw => (nxW_nr (w := nxS a w p) ha (fun q hq => hl q (by simp [hq])) (nxS_nr ha (hl p (by simp)) hw) : Nr 8000 (nxW a (nxS a w p) l))
theorem nxW_drop {a w : Int × Int} {l : List (Int × Int)} {k : Nat} (h : k < l.length) : nxW a w (l.drop k) = nxW a (nxS a w l[k]) (l.drop (k + 1)) := by
  rw [List.drop_eq_getElem_cons h]
  rfl
theorem mul_nr0 {x y A B : Int} (h : 0 ≤ x) (hx : x ≤ A) (hy : -B ≤ y ∧ y ≤ B) (hB : 0 ≤ B) : -(A * B) ≤ x * y ∧ x * y ≤ A * B := by
  have a := Int.mul_le_mul_of_nonneg_left hy.2 h
  have b := Int.mul_le_mul_of_nonneg_left hy.1 h
  have c := Int.mul_le_mul_of_nonneg_right hx hB
  rw [Int.mul_neg] at b
  omega
theorem mul_nr {x y A B : Int} (hx : -A ≤ x ∧ x ≤ A) (hy : -B ≤ y ∧ y ≤ B) (hB : 0 ≤ B) : -(A * B) ≤ x * y ∧ x * y ≤ A * B := by
  rcases Int.le_total 0 x with h | h
  · exact mul_nr0 h hx.2 hy hB
  · have q := mul_nr0 (x := -x) (by omega) (show -x ≤ A by omega) hy hB
    rw [Int.neg_mul] at q
    omega
/-- What the example rubs, its hull, the ways along it, and the directions that look away. -/
def ruL : List (Int × Int) := [(1500, 0), (1060, 1060), (0, 1500), (-1060, 1060), (-1500, 0), (-1060, -1060), (0, -1500), (1060, -1060)]
def huL : List (Int × Int) := [(-1500, 0), (-1060, -1060), (0, -1500), (1060, -1060), (1500, 0), (1060, 1060), (0, 1500), (-1060, 1060)]
def waL : List (Int × Int) := [(440, -1060), (1060, -440), (1060, 440), (440, 1060), (-440, 1060), (-1060, 440), (-1060, -440), (-440, -1060)]
def diL : List (Int × Int) := [(-1060, -440), (-440, -1060), (440, -1060), (1060, -440), (1060, 440), (440, 1060), (-440, 1060), (-1060, 440)]
theorem ruL_nr : ∀ p ∈ ruL, Nr 4000 p := by
  intro p hp
  unfold ruL at hp
  simp at hp
  unfold Nr
  rcases hp with rfl | rfl | rfl | rfl | rfl | rfl | rfl | rfl <;> decide
theorem huL_nr : ∀ p ∈ huL, Nr 4000 p := by
  intro p hp
  unfold huL at hp
  simp at hp
  unfold Nr
  rcases hp with rfl | rfl | rfl | rfl | rfl | rfl | rfl | rfl <;> decide
/-- Along the hull, corner by corner. -/
theorem huL_next : ∀ k (h : k < 8), nxF ruL (huL[k]'(by simp [huL]; omega)) = huL[(k + 1) % 8]'(by simp [huL]; omega) := by decide
theorem huL_first : ∀ k (h : k < 8), k ≠ 0 → huL[k]'(by simp [huL]; omega) ≠ (-1500, 0) := by decide
theorem huL_way : ∀ k (h : k < 8), ((huL[(k + 1) % 8]'(by simp [huL]; omega)).1 - (huL[k]'(by simp [huL]; omega)).1, (huL[(k + 1) % 8]'(by simp [huL]; omega)).2 - (huL[k]'(by simp [huL]; omega)).2) = waL[k]'(by simp [waL]; omega) := by decide
/-- Whether all of a hull lies behind what is needed. -/
def prF (d m n : Int × Int) : Bool := decide (d.1 * n.1 + d.2 * n.2 < m.1 * n.1 + m.2 * n.2)
theorem ex_slips : (diL.map fun n => huL.all fun d => prF d (1505, 0) n) = [false, false, false, true, true, false, false, false] := by decide
theorem ex_holds : (diL.map fun n => huL.all fun d => prF d (1500, 0) n) = [false, false, false, false, false, false, false, false] := by decide
end Go.Proofs.YtdehnokcjnbjoaaGreat
