/- The document's Check of a vehicle. Vehicles: which ones the document takes. The document's mass and Check of a load. A platform of at most twelve legs, as the laws of the top make it. A parameter that is a list of legs, opened. -/
import Derived.Test.YtooochbfnmmnkaaGreatPkDivM
import Derived.Deep.SlicePairs
import Derived.WideKeyArgs
import Derived.ProofKit
import Derived.OpenShut
import Derived.Lib.SmallJoins
import Derived.Test.YtooochbfnmmnkaaGreatSup
import Derived.Test.YtooochbfnmmnkaaGreatBx
import Derived.Test.YtooochbfnmmnkaaGreatChU
import Derived.Deep.RegionLaw
import Derived.OwnWalk
import Derived.Test.YtooochbfnmmnkaaGreatPkParts
import Derived.Test.YtooochbfnmmnkaaGreatVehC
namespace Go.Proofs.YtooochbfnmmnkaaGreat
open Go.RowKit Go.Proofs.Gn Go.ChangeShapes Go.WideShapes Go.Deep Go.Joins Go.ChangeAt
structure Lgg where
  (x y g : Int)
def okLgg (b : Lgg) : Prop := (-128 ≤ b.x ∧ b.x ≤ 127) ∧ (-128 ≤ b.y ∧ b.y ≤ 127) ∧ (0 ≤ b.g ∧ b.g ≤ 255)
def LggAt (w : World) (b o : Nat) (e : Lgg) : Prop := w.cell? ⟨b, o, none⟩ = some (.int .i8 e.x) ∧ w.cell? ⟨b, o + 1, none⟩ = some (.int .i8 e.y) ∧ w.cell? ⟨b, o + 2, none⟩ = some (.int .u8 e.g)
/-- Where legs lie. -/
def Lggs (w : World) (A : Option Addr) (bs : List Lgg) : Prop := bs = [] ∨ ∃ b off, A = some ⟨b, off, none⟩ ∧ ∀ k (h : k < bs.length), LggAt w b (off + k * 3) bs[k]
/-- Legs that are read, and their bounds. -/
def LgsOk (w : World) (A : Option Addr) (bs : List Lgg) : Prop := Lggs w A bs ∧ ∀ k (h : k < bs.length), okLgg bs[k]
instance : Inhabited Lgg := ⟨⟨0, 0, 0⟩⟩
theorem Tryz.laidOutLg : laidOutB Tryz.prog = true := by kernel_rfl
theorem Tryz.readLegs : Tryz.prog.readableRec 23 = true := by kernel_rfl
theorem Tryz.cellsLeg : Tryz.prog.cellsOf 60 = 3 := by kernel_rfl
theorem Tryz.cellsU8L : Tryz.prog.cellsOf 5 = 1 := by kernel_rfl
theorem Tryz.cellsI8L : Tryz.prog.cellsOf 58 = 1 := by kernel_rfl
theorem add_atG {a : Addr} (h : a.spot = none) (n : Nat) : a.add n = ⟨a.block, a.off + n, none⟩ := by
  obtain ⟨b, o, s⟩ := a
  subst h
  unfold Addr.add
  split
  · subst n; rfl
  · rfl
set_option maxRecDepth 100000 in
theorem legs_open {H : Type} {enc : TypeId × Value → H} {W : World} {base : Nat} {v : Value} {d : DataW H} {p : List MemPlace} (h : DataW.Trod enc Tryz.prog W base (fun _ => true) true 23 v d p) (hv : ∃ a len cap, v = .slice a len cap) :
    ∃ A bs cap, v = .slice A (List.length bs) cap ∧ LgsOk W A bs ∧ bs.length ≤ 9223372036854775807 := by
  obtain ⟨a0, len0, cap0, rfl⟩ := hv
  obtain ⟨fuel, hf⟩ := h
  simp only [Value.cells] at hf
  rcases open_slice Tryz.underlying23 hf with ⟨hc, _⟩ | ⟨a, len, cap, m, n, D, Pl, hc, hb, hl, hm, hmm, hx, hi⟩
  · simp only [List.cons.injEq, and_true] at hc
    exact ⟨none, [], 0, hc, ⟨.inl rfl, fun k hk => by simp at hk⟩, by simp⟩
  · simp only [List.cons.injEq, and_true] at hc
    have hlm : len ≤ m := by rw [hmm]; split <;> omega
    by_cases h0 : len = 0
    · subst h0
      exact ⟨some a, [], cap, by simpa using hc, ⟨.inl rfl, fun k hk => by simp at hk⟩, by simp⟩
    have hs : a.spot = none := by
      obtain ⟨cs', h1, h2⟩ := hi 0 (by omega)
      rw [Tryz.cellsLeg] at h1
      obtain ⟨_, hlen, hcell⟩ := World.cells?_some h1
      match cs', hlen with
      | [v0, v1, v2], _ =>
        have c0 := hcell 0 (by omega)
        simpa [Addr.add] using World.cell?_spot c0
    have each : ∀ i, i < len → ∃ s : Lgg, LggAt W a.block (a.off + i * 3) s ∧ okLgg s := by
      intro i hlt
      obtain ⟨cs', h1, h2⟩ := hi i (by omega)
      rw [Tryz.cellsLeg] at h1
      obtain ⟨_, hlen, hcell⟩ := World.cells?_some h1
      obtain ⟨xs, k, hk, hxy, _, hxl, hg⟩ := DataW.trod_struct Tryz.underlying60 h2
      match xs, hxl, cs', hlen with
      | [y0, y1, y2], _, [v0, v1, v2], _ =>
        have g0 := hg 0 _ rfl
        have g1 := hg 1 _ rfl
        have g2 := hg 2 _ rfl
        simp [Tryz.cellsU8L, Tryz.cellsI8L] at g0 g1 g2
        obtain ⟨x0, e0, _, w0⟩ := DataW.trod_int Tryz.underlying58 g0
        obtain ⟨x1, e1, _, w1⟩ := DataW.trod_int Tryz.underlying58 g1
        obtain ⟨x2, e2, _, w2⟩ := DataW.trod_int Tryz.underlying5 g2
        simp only [List.cons.injEq, and_true] at e0 e1 e2
        subst e0 e1 e2
        have c0 := hcell 0 (by omega)
        have c1 := hcell 1 (by omega)
        have c2 := hcell 2 (by omega)
        rw [add_add, add_atG hs] at c0 c1 c2
        exact ⟨⟨x0, x1, x2⟩, ⟨by simpa using c0, by simpa [Nat.add_assoc] using c1, by simpa [Nat.add_assoc] using c2⟩, ⟨bounds_i8 w0, bounds_i8 w1, bounds_u8 w2⟩⟩
    obtain ⟨q, hq⟩ := choose_lt each
    refine ⟨some a, (List.range len).map q, cap, by simpa using hc, ⟨?_, fun k hk => ?_⟩, by simp [maxLen] at hm ⊢; omega⟩
    · refine .inr ⟨a.block, a.off, by obtain ⟨_, _, _⟩ := a; subst hs; rfl, fun k hk => ?_⟩
      have hk2 : k < len := by simpa using hk
      have := (hq k hk2).1
      simpa using this
    · have hk2 : k < len := by simpa using hk
      have := (hq k hk2).2
      simpa using this
/-- The legs read as they did. -/
theorem legs_shut {H : Type} {enc : TypeId × Value → H} {W W' : World} {sp : Nat → Bool} {v : Value} {d : DataW H} {p : List MemPlace} (h : DataW.Trod enc Tryz.prog W 0 (fun _ => true) true 23 v d p) (hb : Below W.heap.size W W') (hlt : ∀ x ∈ p, x.block < W.heap.size) (hsp : ∀ x ∈ p, sp x.block = true) :
    DataW.Trod enc Tryz.prog W' 0 sp true 23 v d p :=
  WideElems.Trod_stays Tryz.laidOutLg Tryz.readLegs (of_decide_eq_true (by kernel_rfl)) h (fun x hx => hb.same (hlt x hx)) hsp
end Go.Proofs.YtooochbfnmmnkaaGreat
namespace Go.Proofs.YtooochbfnmmnkaaGreat
open Go.RowKit Go.Proofs.Gn
attribute [local go_sem] Oper.semAt_some
set_option linter.unusedVariables false
section
variable {P : Program} (w : World)
theorem wp_append_mineL {o : Oper} {a : Act} {K : Act → World → Prop} {Q : Exit → Act → World → Prop} (s x : Operand) (t : TypeId)
    (ho : o.op = .call { callee := .builtin .append, args := #[s, x], argTypes := #[t, t] })
    (base : Nat) (e : TypeId) (i : TypeInfo) (z : Value) (size bytes : Nat) (ht : P.underlying t = some (.slice e)) (hi : P.info? e = some i) (hz : i.zero = some z)
    (hsize : i.size = size) (hby : i.bytes = bytes) (hzs : z.cells.size = size) (hsz : 0 < size)
    (v : Value) (n : Nat) (xs : List Value) (hs : a.eval s = v) (hown : w.ownsRow base e size v n xs)
    (ad : Addr) (m c : Nat) (news : List Value) (hx : a.eval x = .slice (some ad) m c) (hl : news.length = m * size) (hnews : ∀ j u, news[j]? = some u → w.cell? (ad.add j) = some u) (h1 : ∀ u ∈ news, u.oneCell' = true)
    (h63 : n + m ≤ maxLen) (hbytes : (n + m) * bytes ≤ 140737488355328) (hbase : base ≤ w.heap.size)
    (h : ∀ v' w', w'.ownsRow base e size v' (n + m) (xs ++ news) → w.grownBy w' v.ownBlock → K (a.put o.dst v') w') : o.wp P a w K Q := by
  obtain ⟨v', w', hrun, h2, h3, _⟩ := run_append_own (P := P) w base t o.type e i z size bytes ht hi hz hsize hby hzs hsz v n xs hown ad m c news hl hnews h1 h63 hbytes hbase
  unfold Oper.wp execOp
  simp only [ho, resolve, invoke, builtin, Sem.run_bind, Sem.run_pure, Result.andThen_ok, List.map_toArray, List.map_cons, List.map_nil, hs, hx, hrun]
  exact h v' w' h2 h3
theorem step_append_mineL {ops : Array Oper} {o : Oper} {a : Act} {K : Act → World → Prop} {Q : Exit → Act → World → Prop} {E : Prop} (hgd : o.guard = none) (s x : Operand) (t : TypeId)
    (ho : o.op = .call { callee := .builtin .append, args := #[s, x], argTypes := #[t, t] })
    (base : Nat) (e : TypeId) (i : TypeInfo) (z : Value) (size bytes : Nat) (ht : P.underlying t = some (.slice e)) (hi : P.info? e = some i) (hz : i.zero = some z)
    (hsize : i.size = size) (hby : i.bytes = bytes) (hzs : z.cells.size = size) (hsz : 0 < size)
    (v : Value) (n : Nat) (xs : List Value) (hs : a.eval s = v) (hown : w.ownsRow base e size v n xs)
    (ad : Addr) (m c : Nat) (news : List Value) (hx : a.eval x = .slice (some ad) m c) (hl : news.length = m * size) (hnews : ∀ j u, news[j]? = some u → w.cell? (ad.add j) = some u) (h1 : ∀ u ∈ news, u.oneCell' = true)
    (h63 : n + m ≤ maxLen) (hbytes : (n + m) * bytes ≤ 140737488355328) (hbase : base ≤ w.heap.size)
    (h : ∀ v' w', w'.ownsRow base e size v' (n + m) (xs ++ news) → w.grownBy w' v.ownBlock → K (a.put o.dst v') w') :
    if Region.wanted o (yielded ops a.tmps) = true then Oper.wp P o a w K Q else E := by
  have hw : Region.wanted o (yielded ops a.tmps) = true := by simp [Region.wanted, hgd]
  rw [if_pos hw]
  exact wp_append_mineL w s x t ho base e i z size bytes ht hi hz hsize hby hzs hsz v n xs hs hown ad m c news hx hl hnews h1 h63 hbytes hbase h
end
theorem lggs_up {W W' : World} {A : Option Addr} {bs : List Lgg} (h : Lggs W A bs) (hu : Up W W') : Lggs W' A bs := by
  rcases h with h | ⟨b, off, e, hc⟩
  · exact .inl h
  · refine .inr ⟨b, off, e, fun k hk => ?_⟩
    obtain ⟨a0, a1, a2⟩ := hc k hk
    exact ⟨up_cell hu a0, up_cell hu a1, up_cell hu a2⟩
/-- The support that a leg is. -/
def pfS (l : Lgg) : Gs.Sup := ⟨100 * l.x, 50 * l.y, l.g % 3, 1048576, 0, 100⟩
def pfL (ls : List Lgg) : List Gs.Sup := (ls.take 12).map pfS
def cellsSp (ps : List Gs.Sup) : List Value := ps.flatMap fun s => [.int .i64 s.x, .int .i64 s.y, .int .i64 s.g, .int .i64 s.lim, .int .i64 s.lo, .int .i64 s.hi]
theorem cellsSp_snoc (ps : List Gs.Sup) (s : Gs.Sup) : cellsSp (ps ++ [s]) = cellsSp ps ++ [.int .i64 s.x, .int .i64 s.y, .int .i64 s.g, .int .i64 s.lim, .int .i64 s.lo, .int .i64 s.hi] := by simp [cellsSp]
theorem info_sp : (Tryz.prog.info? 45).map (fun i => (i.zero, i.size, i.bytes)) = some (some (.agg #[.int .i64 0, .int .i64 0, .int .i64 0, .int .i64 0, .int .i64 0, .int .i64 0]), 6, 48) := by kernel_rfl
theorem news_sp (W : World) (vs : List Value) (t : TypeId) : ∀ j u, vs[j]? = some u → (W.alloc (.cells vs.toArray t)).cell? ((⟨W.heap.size, 0, none⟩ : Addr).add j) = some u := fun j u hj => by
  have e : (⟨W.heap.size, 0, none⟩ : Addr).add j = ⟨W.heap.size, j, none⟩ := by unfold Addr.add; split <;> simp_all
  rw [e]
  exact (bx_new W vs t j u hj).1
theorem cellsSp_len (ps : List Gs.Sup) : (cellsSp ps).length = ps.length * 6 := by
  induction ps with
  | nil => rfl
  | cons p ps ih => unfold cellsSp at ih ⊢; rw [List.flatMap_cons, List.length_append, ih]; simp; omega
theorem cellsSp_at {ps : List Gs.Sup} : ∀ {k : Nat} (h : k < ps.length), (cellsSp ps)[k * 6]? = some (.int .i64 ps[k].x) ∧ (cellsSp ps)[k * 6 + 1]? = some (.int .i64 ps[k].y) ∧ (cellsSp ps)[k * 6 + 2]? = some (.int .i64 ps[k].g) ∧ (cellsSp ps)[k * 6 + 3]? = some (.int .i64 ps[k].lim) ∧ (cellsSp ps)[k * 6 + 4]? = some (.int .i64 ps[k].lo) ∧ (cellsSp ps)[k * 6 + 5]? = some (.int .i64 ps[k].hi) := by
  induction ps with
  | nil => intro k h; simp at h
  | cons p ps ih =>
    intro k h
    have e : cellsSp (p :: ps) = .int .i64 p.x :: .int .i64 p.y :: .int .i64 p.g :: .int .i64 p.lim :: .int .i64 p.lo :: .int .i64 p.hi :: cellsSp ps := rfl
    rw [e]
    cases k with
    | zero => exact ⟨rfl, rfl, rfl, rfl, rfl, rfl⟩
    | succ k =>
      have q := ih (k := k) (by simpa using h)
      rw [show (k + 1) * 6 = k * 6 + 6 by omega]
      exact q
theorem own_sps {W : World} {base e n : Nat} {v : Value} {ps : List Gs.Sup} (h : W.ownsRow base e 6 v n (cellsSp ps)) : ∃ A cap, v = .slice A ps.length cap ∧ Sups W A ps := by
  have hl : (cellsSp ps).length = n * 6 := h.1
  rw [cellsSp_len] at hl
  obtain rfl : n = ps.length := by omega
  rcases h.2 with ⟨h1, h2⟩ | ⟨g, cap, cur, h1, _⟩
  · rw [h1]
    exact ⟨none, 0, by rw [h2], .inl (List.eq_nil_of_length_eq_zero h2)⟩
  · subst h1
    refine ⟨_, cap, rfl, .inr ⟨g, 0, rfl, fun k hk => ?_⟩⟩
    obtain ⟨a0, a1, a2, a3, a4, a5⟩ := cellsSp_at hk
    simp only [Nat.zero_add]
    exact ⟨(h.cellAt (k * 6) (by omega)).trans a0, (h.cellAt (k * 6 + 1) (by omega)).trans a1, (h.cellAt (k * 6 + 2) (by omega)).trans a2, (h.cellAt (k * 6 + 3) (by omega)).trans a3, (h.cellAt (k * 6 + 4) (by omega)).trans a4, (h.cellAt (k * 6 + 5) (by omega)).trans a5⟩
set_option maxRecDepth 100000 in
set_option maxHeartbeats 8000000 in
theorem p_platform (A : Option Addr) (ls : List Lgg) (cap : Nat) (w : World) (h : LgsOk w A ls) (hn : ls.length ≤ 9223372036854775807) :
    Calls Tryz.prog 6 #[.slice A ls.length cap] w fun e w' => (∃ P cp, e = .returned (.slice P (pfL ls).length cp) ∧ Sups w' P (pfL ls)) ∧ Up w w' := by
  have HS := hide h.1
  have HB := hide h.2
  obtain ⟨N, hN⟩ : ∃ N, ls.length = N := ⟨_, rfl⟩
  have HN := hide hN
  rw [hN] at hn ⊢
  obtain ⟨i0', hi, hz0, hz1, hz2⟩ := info_parts info_sp
  have HI := hide hi
  clear h hN hi
  go_enter Tryz.func6, Tryz.ntmps6
  go_upto_region 3 with fail
  go_loopw [3, 4] (fun s3 s4 wr => ∃ (k : Nat), k ≤ N ∧ k ≤ 12 ∧ s4 = .int .i64 k ∧ wr.ownsRow w.heap.size 45 6 s3 k (cellsSp ((ls.take k).map pfS)) ∧ Up w wr) (fun _ s4 _ => N - (intOf s4).toNat)
  case atStart => exact ⟨0, by omega, by omega, rfl, World.ownsRow_nil _ _ _ _, (by repeat' (first | (with_reducible exact up_refl _) | (with_reducible assumption) | (with_reducible refine up_alloc ?_ _) | (with_reducible refine up_drewN ?_ _) | (with_reducible refine up_drew ?_) | (with_reducible refine up_set ?_ (by first | (simp; done) | (simp; omega) | omega) _) | (refine up_trans ?_ (by with_reducible assumption))))⟩
  case round =>
    obtain ⟨k, hk, hk4, rfl, ow, hup⟩ := hrel
    by_cases hlt : k < N ∧ k < 12
    · have hl : k < ls.length := by rw [unhide HN]; exact hlt.1
      obtain ⟨b, off, rfl, hcc⟩ := (unhide HS).resolve_left (by intro e; rw [e] at hl; simp at hl)
      obtain ⟨x0, x1, x2⟩ := hcc k hl
      obtain ⟨o0, o1, o2⟩ := unhide HB k hl
      have hst : (ls.take (k + 1)).map pfS = (ls.take k).map pfS ++ [pfS ls[k]] := by rw [List.take_succ_eq_append_getElem hl, List.map_append]; rfl
      have HC := hide (show cellsSp ((ls.take (k + 1)).map pfS) = cellsSp ((ls.take k).map pfS) ++ [.int .i64 (100 * ls[k].x), .int .i64 (50 * ls[k].y), .int .i64 (ls[k].g % 3), .int .i64 1048576, .int .i64 0, .int .i64 100] by rw [hst, cellsSp_snoc]; rfl)
      clear hcc hst
      generalize ls[k].x = X at *
      generalize ls[k].y = Y at *
      generalize ls[k].g = G at *
      have y0 := up_cell hup x0
      have y1 := up_cell hup x1
      have y2 := up_cell hup x2
      have i0 : (0 : Int) ≤ (k : Int) := by omega
      have i1 : (k : Int) < (N : Int) := by omega
      have i2 : (k : Int) < 12 := by omega
      have i3 : (k : Int).toNat = k := by omega
      have hwk : IntKind.i64.wrap ((k : Int) + 1) = (k : Int) + 1 := IntWalk.i64_in _ ⟨by omega, by omega⟩
      have a0 : IntKind.i64.wrap X = X := IntWalk.i64_in _ ⟨by omega, by omega⟩
      have a1 : IntKind.i64.wrap Y = Y := IntWalk.i64_in _ ⟨by omega, by omega⟩
      have a2 : IntKind.i64.wrap G = G := IntWalk.i64_in _ ⟨by omega, by omega⟩
      have b0 : IntKind.i64.wrap (100 * X) = 100 * X := IntWalk.i64_in _ ⟨by omega, by omega⟩
      have b1 : IntKind.i64.wrap (50 * Y) = 50 * Y := IntWalk.i64_in _ ⟨by omega, by omega⟩
      have m1 : G.tmod 3 = G % 3 := Int.tmod_eq_emod_of_nonneg (by omega)
      have b2 : IntKind.i64.wrap (G % 3) = G % 3 := IntWalk.i64_in _ ⟨by omega, by omega⟩
      have HU := hide hup
      have HO := hide ow
      clear x0 x1 x2 ow hup
      go_upto_region 5 with fail
      go_region_law (refine step_append_mineL _ rfl (.tmp 15) (.tmp 38) 29 rfl w.heap.size 45 i0' _ 6 48 Tryz.underlying29 (unhide HI) hz0 hz1 hz2 rfl (Nat.zero_lt_succ _) _ k (cellsSp ((ls.take k).map pfS)) rfl ((unhide HO).alloc _) ⟨wr.heap.size, 0, none⟩ 1 1 [.int .i64 (100 * X), .int .i64 (50 * Y), .int .i64 (G % 3), .int .i64 1048576, .int .i64 0, .int .i64 100] rfl rfl (news_sp _ _ _) (by intro u hu; simp at hu; rcases hu with rfl | rfl | rfl | rfl | rfl | rfl <;> rfl) (by unfold maxLen; omega) (by omega) (by have := (unhide HU).size; simp; omega) ?_; intro v' w7 hown' hgrow)
      all_goals
        have R1 : w7.ownsRow w.heap.size 45 6 v' (k + 1) (cellsSp ((ls.take (k + 1)).map pfS)) := by rw [unhide HC]; exact hown'
        have R2 : Up w w7 := (Below.drew (Below.alloc (unhide HU) (unhide HU).size _)).grown hgrow (by have := (unhide HU).size; simp; omega) fun g hg => (unhide HO).lt g hg |>.1
        have R1' := hide R1
        have R2' := hide R2
        clear R1 R2 hown' hgrow
        go_wp2_with fail
        go_roundw
        case rel => exact ⟨k + 1, by omega, by omega, by first | rfl | trivial | go_num, unhide R1', unhide R2'⟩
        case measure => first | (simp [intOf]; done) | (simp [intOf]; omega)
    · have hE : ls.take k = ls.take 12 := by
        by_cases h4 : k = 12
        · rw [h4]
        · rw [List.take_of_length_le (by rw [unhide HN]; omega), List.take_of_length_le (by rw [unhide HN]; omega)]
      rw [hE, show (ls.take 12).map pfS = pfL ls from rfl] at ow
      obtain ⟨P, cp, rfl, hP⟩ := own_sps ow
      have HP := hide hP
      have HU := hide hup
      obtain ⟨K, hK⟩ : ∃ K, (pfL ls).length = K := ⟨_, rfl⟩
      rw [hK]
      have HKK := hide hK
      clear hP hE hK ow hup
      by_cases hlN : k < N
      · have i1 : (k : Int) < (N : Int) := by omega
        have i2 : ¬ (k : Int) < 12 := by omega
        go_wp2
        go_ret
        exact ⟨⟨P, ⟨cp, by rw [unhide HKK]; rfl⟩, unhide HP⟩, unhide HU⟩
      · have i1 : ¬ (k : Int) < (N : Int) := by omega
        go_wp2
        go_ret
        exact ⟨⟨P, ⟨cp, by rw [unhide HKK]; rfl⟩, unhide HP⟩, unhide HU⟩
end Go.Proofs.YtooochbfnmmnkaaGreat
namespace Go.Proofs.YtooochbfnmmnkaaGreat
open Go.RowKit Go.Proofs.Gn
theorem mas_pre {ps : List Pce} {k : Nat} (hk : k ≤ ps.length) (h : okPs (ps.take k) = true) : 0 ≤ mas (ps.take k) ∧ mas (ps.take k) ≤ 16777216 * k := by
  have t := mas_bd h k (by simp; omega)
  rwa [List.take_take, Nat.min_self] at t
end Go.Proofs.YtooochbfnmmnkaaGreat
namespace Go.Proofs.YtooochbfnmmnkaaGreat
open Go.RowKit Go.Proofs.Gn
end Go.Proofs.YtooochbfnmmnkaaGreat
namespace Go.Proofs.YtooochbfnmmnkaaGreat
open Go.RowKit Go.Proofs.Gn
theorem ve6 {s : ByteArray} {us : List Unt} {f t : Int} (h : tmV us = true) : veE s us f t = 6 := by unfold veE; rw [if_pos h]
theorem ve2 {s : ByteArray} {us : List Unt} {f t : Int} (h0 : tmV us = false) (h : nmS s = false ∨ auV us = false ∨ win f 0 t = false ∨ decide (t < (us.length : Int)) = false) : veE s us f t = 2 := by
  unfold veE
  rw [if_neg (by rw [h0]; simp), if_neg]
  intro hh
  simp only [Bool.and_eq_true] at hh
  rcases h with h | h | h | h <;> simp_all
theorem ve0 {s : ByteArray} {us : List Unt} {f t : Int} (h0 : tmV us = false) (h1 : nmS s = true) (h2 : auV us = true) (h3 : win f 0 t = true) (h4 : decide (t < (us.length : Int)) = true) : veE s us f t = 0 := by
  unfold veE
  rw [if_neg (by rw [h0]; simp), if_pos (by rw [h1, h2, h3, h4]; rfl)]
theorem au_no {us : List Unt} (h : us.all okU = false ∨ ¬ 0 < us.length ∨ ¬ hdK us = 0) : auV us = false := by
  unfold auV
  rcases h with h | h | h <;> simp [h]
end Go.Proofs.YtooochbfnmmnkaaGreat
