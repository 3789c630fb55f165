/- The hull of points, whether points are one, and whether one contains a point: what the program's functions return. What Length returns, of the program and of the document's own answers. What isHull returns. Lists of lists of points: the looks at them. What hull returns. The corners that are left of a sorted list when it turns to the left at each of them. The library's Compact at a list of points that the call itself has made: equal neighbours become one. The library's sort, reversal and copy at lists of points. The order of points: what compare returns. Whether a hull contains a point. Whether a hull contains a point. The pairs of neighbours of a hull, as the program yields them: a contract of the iterator. The box of a hull: its least and greatest coordinates. A stack of points without what is on its top as long as it does not turn to the left. Two empty lists of eyes put together. Two lists of pieces put together (slices.Concat). A load of at most four boxes, as the laws of the top make it. -/
import Derived.Test.YtooochbfnmmnkaaGreatPkParts
import Derived.Test.YtooochbfnmmnkaaGreatPkDivM
import Derived.Test.YtooochbfnmmnkaaGreatChU
import Derived.Maps.AppendAt
import Derived.Test.YtooochbfnmmnkaaGreatShelfG
import Derived.Lib.AppendZerosOnto
import Derived.Test.YtooochbfnmmnkaaGreatSl
import Derived.Deep.DeepCutAuto
import Derived.Test.YtooochbfnmmnkaaGreatBx
import Derived.RangeFuncNested
import Derived.RangeFuncLeaves
import Derived.Shelf.Abstract
import Derived.Shelf.RegionOpen
import Derived.OwnWalkIn
import Derived.TacticsInMore
import Derived.LoopNIn
import Derived.LoopIn
import Derived.Test.YtooochbfnmmnkaaGreatHeldIn
import Derived.Test.YtooochbfnmmnkaaGreatPt
import Derived.Sort.Grow
import Derived.StillTailTactics
import Derived.Test.YtooochbfnmmnkaaGreatShelf
import Derived.WalkLawsBesides
import Derived.WalkSpells
import Derived.Test.YtooochbfnmmnkaaGreatMath
namespace Go.Proofs.YtooochbfnmmnkaaGreat
open Go.RowKit Go.Proofs.Gn
attribute [local go_sem] Oper.semAt_some
set_option linter.unusedVariables false
structure Bxe where
  (x y z l w h m : Int)
def okBxe (b : Bxe) : Prop := (0 ≤ b.x ∧ b.x ≤ 255) ∧ (0 ≤ b.y ∧ b.y ≤ 255) ∧ (0 ≤ b.z ∧ b.z ≤ 255) ∧ (0 ≤ b.l ∧ b.l ≤ 255) ∧ (0 ≤ b.w ∧ b.w ≤ 255) ∧ (0 ≤ b.h ∧ b.h ≤ 255) ∧ (0 ≤ b.m ∧ b.m ≤ 65535)
def BxeAt (w : World) (b o : Nat) (e : Bxe) : Prop := w.cell? ⟨b, o, none⟩ = some (.int .u8 e.x) ∧ w.cell? ⟨b, o + 1, none⟩ = some (.int .u8 e.y) ∧ w.cell? ⟨b, o + 2, none⟩ = some (.int .u8 e.z) ∧ w.cell? ⟨b, o + 3, none⟩ = some (.int .u8 e.l) ∧ w.cell? ⟨b, o + 4, none⟩ = some (.int .u8 e.w) ∧ w.cell? ⟨b, o + 5, none⟩ = some (.int .u8 e.h) ∧ w.cell? ⟨b, o + 6, none⟩ = some (.int .u16 e.m)
/-- Where boxes lie. -/
def Bxes (w : World) (A : Option Addr) (bs : List Bxe) : Prop := bs = [] ∨ ∃ b off, A = some ⟨b, off, none⟩ ∧ ∀ k (h : k < bs.length), BxeAt w b (off + k * 7) bs[k]
/-- The piece that a box is. -/
def cgP (b : Bxe) : Pce := ⟨20 * b.x, 10 * b.y - 1280, 10 * b.z, 1 + 20 * b.l, 1 + 10 * b.w, 1 + 10 * b.h, 1 + b.m % 8000⟩
/-- The pieces of a load of boxes. -/
def cgL (bs : List Bxe) : List Pce := (bs.take 4).map cgP
def cellsPc (ps : List Pce) : List Value := ps.flatMap fun p => [.int .i64 p.x, .int .i64 p.y, .int .i64 p.z, .int .i64 p.l, .int .i64 p.w, .int .i64 p.h, .int .i64 p.m]
theorem cellsPc_snoc (ps : List Pce) (p : Pce) : cellsPc (ps ++ [p]) = cellsPc ps ++ [.int .i64 p.x, .int .i64 p.y, .int .i64 p.z, .int .i64 p.l, .int .i64 p.w, .int .i64 p.h, .int .i64 p.m] := by simp [cellsPc]
theorem info_pc : (Tryz.prog.info? 57).map (fun i => (i.zero, i.size, i.bytes)) = some (some (.agg #[.int .i64 0, .int .i64 0, .int .i64 0, .int .i64 0, .int .i64 0, .int .i64 0, .int .i64 0]), 7, 56) := by kernel_rfl
theorem news_anyC (W : World) (vs : List Value) (t : TypeId) : ∀ j u, vs[j]? = some u → (W.alloc (.cells vs.toArray t)).cell? ((⟨W.heap.size, 0, none⟩ : Addr).add j) = some u := fun j u hj => by
  have e : (⟨W.heap.size, 0, none⟩ : Addr).add j = ⟨W.heap.size, j, none⟩ := by unfold Addr.add; split <;> simp_all
  rw [e]
  exact (bx_new W vs t j u hj).1
theorem cellsPc_len (ps : List Pce) : (cellsPc ps).length = ps.length * 7 := by
  induction ps with
  | nil => rfl
  | cons p ps ih => unfold cellsPc at ih ⊢; rw [List.flatMap_cons, List.length_append, ih]; simp; omega
theorem cellsPc_at {ps : List Pce} : ∀ {k : Nat} (h : k < ps.length), (cellsPc ps)[k * 7]? = some (.int .i64 ps[k].x) ∧ (cellsPc ps)[k * 7 + 1]? = some (.int .i64 ps[k].y) ∧ (cellsPc ps)[k * 7 + 2]? = some (.int .i64 ps[k].z) ∧ (cellsPc ps)[k * 7 + 3]? = some (.int .i64 ps[k].l) ∧ (cellsPc ps)[k * 7 + 4]? = some (.int .i64 ps[k].w) ∧ (cellsPc ps)[k * 7 + 5]? = some (.int .i64 ps[k].h) ∧ (cellsPc ps)[k * 7 + 6]? = some (.int .i64 ps[k].m) := by
  induction ps with
  | nil => intro k h; simp at h
  | cons p ps ih =>
    intro k h
    have e : cellsPc (p :: ps) = .int .i64 p.x :: .int .i64 p.y :: .int .i64 p.z :: .int .i64 p.l :: .int .i64 p.w :: .int .i64 p.h :: .int .i64 p.m :: cellsPc ps := rfl
    rw [e]
    cases k with
    | zero => exact ⟨rfl, rfl, rfl, rfl, rfl, rfl, rfl⟩
    | succ k =>
      have q := ih (k := k) (by simpa using h)
      rw [show (k + 1) * 7 = k * 7 + 7 by omega]
      exact q
theorem own_pcs {W : World} {base e n : Nat} {v : Value} {ps : List Pce} (h : W.ownsRow base e 7 v n (cellsPc ps)) : ∃ A cap, v = .slice A ps.length cap ∧ Pcs W A ps := by
  have hl : (cellsPc ps).length = n * 7 := h.1
  rw [cellsPc_len] at hl
  obtain rfl : n = ps.length := by omega
  rcases h.2 with ⟨h1, h2⟩ | ⟨g, cap, cur, h1, _⟩
  · rw [h1]
    exact ⟨none, 0, by rw [h2], .inl (List.eq_nil_of_length_eq_zero h2)⟩
  · subst h1
    refine ⟨_, cap, rfl, .inr ⟨g, 0, rfl, fun k hk => ?_⟩⟩
    obtain ⟨a0, a1, a2, a3, a4, a5, a6⟩ := cellsPc_at hk
    simp only [Nat.zero_add]
    exact ⟨(h.cellAt (k * 7) (by omega)).trans a0, (h.cellAt (k * 7 + 1) (by omega)).trans a1, (h.cellAt (k * 7 + 2) (by omega)).trans a2, (h.cellAt (k * 7 + 3) (by omega)).trans a3, (h.cellAt (k * 7 + 4) (by omega)).trans a4, (h.cellAt (k * 7 + 5) (by omega)).trans a5, (h.cellAt (k * 7 + 6) (by omega)).trans a6⟩
theorem own_succC {W : World} {base e size k : Nat} {v : Value} {xs : List Value} (h : W.ownsRow base e size v (k + 1) xs) : ∃ g cap, v = .slice (some ⟨g, 0, none⟩) (k + 1) cap := by
  rcases h.2 with ⟨_, h2⟩ | ⟨g, cap, cur, h1, _⟩
  · omega
  · exact ⟨g, cap, h1⟩
theorem pcs_farC {W : World} {A : Option Addr} {ps : List Pce} {p : Addr} (h : Pcs W A ps) (hb : ∀ b off, A = some ⟨b, off, none⟩ → b ≠ p.block) (u : Value) : Pcs (W.setCell p u) A ps := by
  rcases h with h | ⟨b, off, e, hc⟩
  · exact .inl h
  · have hn := hb b off e
    have k : ∀ o v, W.cell? ⟨b, o, none⟩ = some v → (W.setCell p u).cell? ⟨b, o, none⟩ = some v := fun o v h => (World.cell?_of_block (a := ⟨b, o, none⟩) (Below.heap_setCell W p u b hn)).trans h
    refine .inr ⟨b, off, e, fun q hq => ?_⟩
    obtain ⟨a0, a1, a2, a3, a4, a5, a6⟩ := hc q hq
    exact ⟨k _ _ a0, k _ _ a1, k _ _ a2, k _ _ a3, k _ _ a4, k _ _ a5, k _ _ a6⟩
theorem bx_grownC {W W' : World} {b : Nat} {vs : List Value} {row : Option Nat} (h : Bx W b vs) (g : W.grownBy W' row) (hr : row ≠ some b) : Bx W' b vs := fun i v hi => by
  have hb : b < W.heap.size := World.block_lt_of_cell? _ _ (h i v hi).1
  have e := g.block b hb (fun e => hr e.symm)
  exact ⟨(World.cell?_of_block (a := ⟨b, i, none⟩) e).trans (h i v hi).1, (World.frozen?_of_block (a := ⟨b, i, none⟩) e).trans (h i v hi).2⟩
abbrev cgN : ByteArray := { data := #[99, 97, 114, 103, 111] }
set_option maxRecDepth 100000 in
set_option maxHeartbeats 8000000 in
theorem p_cargo (A : Option Addr) (bs : List Bxe) (cap : Nat) (w : World) (h : Bxes w A bs) (hb : ∀ k (h : k < bs.length), okBxe bs[k]) (hn : bs.length ≤ 9223372036854775807) :
    Calls Tryz.prog 5 #[.slice A bs.length cap] w fun e w' => (∃ P cp, e = .returned (loV cgN P (cgL bs).length cp none 0 0 300) ∧ Pcs w' P (cgL bs)) ∧ Up w w' := by
  have HS := hide h
  have HB := hide hb
  obtain ⟨N, hN⟩ : ∃ N, bs.length = N := ⟨_, rfl⟩
  have HN := hide hN
  rw [hN] at hn ⊢
  obtain ⟨i0', hi, hz0, hz1, hz2⟩ := info_parts info_pc
  have HI := hide hi
  clear h hb hN hi
  go_enter Tryz.func5, Tryz.ntmps5
  go_upto_region 2 with fail
  refine at_wpC (fun W0 hW0 => ?_)
  have U0 : Up w W0 := by rw [hW0]; exact (by repeat' (first | (with_reducible exact up_refl _) | (with_reducible assumption) | (with_reducible refine up_alloc ?_ _) | (with_reducible refine up_drewN ?_ _) | (with_reducible refine up_drew ?_) | (with_reducible refine up_set ?_ (by first | (simp; done) | (simp; omega) | omega) _) | (refine up_trans ?_ (by with_reducible assumption))))
  have hz : W0.heap.size = w.heap.size + 2 := by rw [hW0]; simp
  obtain ⟨bR, bL⟩ : Bx W0 w.heap.size [.string { data := #[] }, .slice none 0 0, .slice none 0 0, .int .i64 0] ∧ Bx W0 (w.heap.size + 1) [.string cgN, .slice none 0 0, .slice none 0 0, .int .i64 300] := by
    rw [hW0]
    refine ⟨bx_alloc (bx_new w _ _) _, ?_⟩
    have q := bx_new (w.alloc (.cells #[.string { data := #[] }, .slice none 0 0, .slice none 0 0, .int .i64 0] 27)) [.string cgN, .slice none 0 0, .slice none 0 0, .int .i64 300] 27
    rw [World.size_alloc] at q
    exact q
  clear hW0
  go_wp2
  go_loopw [4] (fun s4 wr => ∃ (k : Nat) (v : Value), k ≤ N ∧ k ≤ 4 ∧ s4 = .int .i64 k ∧ wr.ownsRow (w.heap.size + 1 + 1) 57 7 v k (cellsPc ((bs.take k).map cgP)) ∧ Bx wr (w.heap.size + 1) [.string cgN, v, .slice none 0 0, .int .i64 300] ∧ Bx wr w.heap.size [.string { data := #[] }, .slice none 0 0, .slice none 0 0, .int .i64 0] ∧ Up w wr) (fun s4 _ => N - (intOf s4).toNat)
  case atStart => exact ⟨0, .slice none 0 0, by omega, by omega, rfl, World.ownsRow_nil _ _ _ _, bL, bR, U0⟩
  case round =>
    clear bL bR U0 hz
    obtain ⟨k, v, hk, hk4, rfl, ow, bL, bR, hup⟩ := hrel
    by_cases hlt : k < N ∧ k < 4
    · have hl : k < bs.length := by rw [unhide HN]; exact hlt.1
      obtain ⟨b, off, rfl, hcc⟩ := (unhide HS).resolve_left (by intro e; rw [e] at hl; simp at hl)
      obtain ⟨x0, x1, x2, x3, x4, x5, x6⟩ := hcc k hl
      obtain ⟨o0, o1, o2, o3, o4, o5, o6⟩ := unhide HB k hl
      have hst : (bs.take (k + 1)).map cgP = (bs.take k).map cgP ++ [cgP bs[k]] := by rw [List.take_succ_eq_append_getElem hl, List.map_append]; rfl
      have HC := hide (show cellsPc ((bs.take (k + 1)).map cgP) = cellsPc ((bs.take k).map cgP) ++ [.int .i64 (20 * bs[k].x), .int .i64 (10 * bs[k].y - 1280), .int .i64 (10 * bs[k].z), .int .i64 (1 + 20 * bs[k].l), .int .i64 (1 + 10 * bs[k].w), .int .i64 (1 + 10 * bs[k].h), .int .i64 (1 + bs[k].m % 8000)] by rw [hst, cellsPc_snoc]; rfl)
      clear hcc hst
      generalize bs[k].x = X at *
      generalize bs[k].y = Y at *
      generalize bs[k].z = Z at *
      generalize bs[k].l = L at *
      generalize bs[k].w = W at *
      generalize bs[k].h = H at *
      generalize bs[k].m = M at *
      have y0 := up_cell hup x0
      have y1 := up_cell hup x1
      have y2 := up_cell hup x2
      have y3 := up_cell hup x3
      have y4 := up_cell hup x4
      have y5 := up_cell hup x5
      have y6 := up_cell hup x6
      have i0 : (0 : Int) ≤ (k : Int) := by omega
      have i1 : (k : Int) < (N : Int) := by omega
      have i2 : (k : Int) < 4 := by omega
      have i3 : (k : Int).toNat = k := by omega
      have hwk : IntKind.i64.wrap ((k : Int) + 1) = (k : Int) + 1 := IntWalk.i64_in _ ⟨by omega, by omega⟩
      have a0 : IntKind.i64.wrap X = X := IntWalk.i64_in _ ⟨by omega, by omega⟩
      have a1 : IntKind.i64.wrap Y = Y := IntWalk.i64_in _ ⟨by omega, by omega⟩
      have a2 : IntKind.i64.wrap Z = Z := IntWalk.i64_in _ ⟨by omega, by omega⟩
      have a3 : IntKind.i64.wrap L = L := IntWalk.i64_in _ ⟨by omega, by omega⟩
      have a4 : IntKind.i64.wrap W = W := IntWalk.i64_in _ ⟨by omega, by omega⟩
      have a5 : IntKind.i64.wrap H = H := IntWalk.i64_in _ ⟨by omega, by omega⟩
      have a6 : IntKind.i64.wrap M = M := IntWalk.i64_in _ ⟨by omega, by omega⟩
      have b0 : IntKind.i64.wrap (20 * X) = 20 * X := IntWalk.i64_in _ ⟨by omega, by omega⟩
      have b1 : IntKind.i64.wrap (10 * Y) = 10 * Y := IntWalk.i64_in _ ⟨by omega, by omega⟩
      have b1' : IntKind.i64.wrap (10 * Y - 1280) = 10 * Y - 1280 := IntWalk.i64_in _ ⟨by omega, by omega⟩
      have b2 : IntKind.i64.wrap (10 * Z) = 10 * Z := IntWalk.i64_in _ ⟨by omega, by omega⟩
      have b3 : IntKind.i64.wrap (20 * L) = 20 * L := IntWalk.i64_in _ ⟨by omega, by omega⟩
      have b3' : IntKind.i64.wrap (1 + 20 * L) = 1 + 20 * L := IntWalk.i64_in _ ⟨by omega, by omega⟩
      have b4 : IntKind.i64.wrap (10 * W) = 10 * W := IntWalk.i64_in _ ⟨by omega, by omega⟩
      have b4' : IntKind.i64.wrap (1 + 10 * W) = 1 + 10 * W := IntWalk.i64_in _ ⟨by omega, by omega⟩
      have b5 : IntKind.i64.wrap (10 * H) = 10 * H := IntWalk.i64_in _ ⟨by omega, by omega⟩
      have b5' : IntKind.i64.wrap (1 + 10 * H) = 1 + 10 * H := IntWalk.i64_in _ ⟨by omega, by omega⟩
      have m1 : M.tmod 8000 = M % 8000 := Int.tmod_eq_emod_of_nonneg (by omega)
      have b6 : IntKind.i64.wrap (M % 8000) = M % 8000 := IntWalk.i64_in _ ⟨by omega, by omega⟩
      have b6' : IntKind.i64.wrap (1 + M % 8000) = 1 + M % 8000 := IntWalk.i64_in _ ⟨by omega, by omega⟩
      clear x0 x1 x2 x3 x4 x5 x6
      go_upto_region 6 with fail
      refine at_wpC (fun W1 hW1 => ?_)
      have U1 : Up wr W1 := by rw [hW1]; exact (by repeat' (first | (with_reducible exact up_refl _) | (with_reducible assumption) | (with_reducible refine up_alloc ?_ _) | (with_reducible refine up_drewN ?_ _) | (with_reducible refine up_drew ?_) | (with_reducible refine up_set ?_ (by first | (simp; done) | (simp; omega) | omega) _) | (refine up_trans ?_ (by with_reducible assumption))))
      have bB : Bx W1 wr.heap.size [.int .u8 X, .int .u8 Y, .int .u8 Z, .int .u8 L, .int .u8 W, .int .u8 H, .int .u16 M] := by rw [hW1]; exact bx_new wr _ _
      clear hW1 y0 y1 y2 y3 y4 y5 y6
      have bL1 := bx_up bL U1
      have bR1 := bx_up bR U1
      have ow1 := own_up ow U1
      have up1 := up_trans hup U1
      obtain ⟨g, hg⟩ : ∃ g, wr.heap.size = g := ⟨_, rfl⟩
      rw [hg] at bB ⊢
      clear bL bR ow hup U1 hg
      have z0 := (bB 0 _ rfl).1
      have z1 := (bB 1 _ rfl).1
      have z2 := (bB 2 _ rfl).1
      have z3 := (bB 3 _ rfl).1
      have z4 := (bB 4 _ rfl).1
      have z5 := (bB 5 _ rfl).1
      have z6 := (bB 6 _ rfl).1
      have l1 := (bL1 1 _ rfl).1
      have HL := hide bL1
      have HR := hide bR1
      have HO := hide ow1
      have HU := hide up1
      have rL : v.ownBlock ≠ some (w.heap.size + 1) := fun e => by have := (ow1.lt _ e).1; omega
      have rR : v.ownBlock ≠ some w.heap.size := fun e => by have := (ow1.lt _ e).1; omega
      have HOw := hide (fun g (h : v.ownBlock = some g) => (ow1.lt g h).1)
      clear bB bL1 bR1 ow1 up1
      go_wp2_with (at_builtin; refine wpList_append_own_at _ rfl _ _ 24 rfl (w.heap.size + 1 + 1) 57 i0' _ 7 56 Tryz.underlying24 (unhide HI) hz0 hz1 hz2 rfl (by decide) _ k (cellsPc ((bs.take k).map cgP)) rfl ((unhide HO).alloc _) _ 1 1 [.int .i64 (20 * X), .int .i64 (10 * Y - 1280), .int .i64 (10 * Z), .int .i64 (1 + 20 * L), .int .i64 (1 + 10 * W), .int .i64 (1 + 10 * H), .int .i64 (1 + M % 8000)] rfl rfl (news_anyC _ _ _) (by intro u hu; simp at hu; rcases hu with rfl | rfl | rfl | rfl | rfl | rfl | rfl <;> rfl) (by unfold maxLen; omega) (by omega) (by have := bx_lt (unhide HL) (by simp); simp; omega) ?_; intro v' w7 hown' hgrow _ hblk; obtain ⟨g7, c7, hv7⟩ := own_succC hown'; subst hv7; have bL7 := bx_grownC (bx_up (unhide HL) (up_alloc (up_refl _) _)) hgrow rL; have q0 := (bL7 1 _ rfl).1; have q1 := (bL7 1 _ rfl).2; have bR7 := bx_grownC (bx_up (unhide HR) (up_alloc (up_refl _) _)) hgrow rR; have up7 : Up w w7 := Below.grown (up_alloc (unhide HU) _) hgrow (up_alloc (unhide HU) _).size (fun g e => by have := unhide HOw _ e; omega))
      have R1 : w7.ownsRow (w.heap.size + 1 + 1) 57 7 (.slice (some ⟨g7, 0, none⟩) (k + 1) c7) (k + 1) (cellsPc ((bs.take (k + 1)).map cgP)) := by rw [unhide HC]; exact hown'
      have R2 := ownsRow_setCell_below R1 (a := ⟨w.heap.size + 1, 1, none⟩) (by simp only; omega) (.slice (some ⟨g7, 0, none⟩) (k + 1) c7)
      have R3 := bx_set bL7 1 (.slice (some ⟨g7, 0, none⟩) (k + 1) c7)
      have R4 := bx_far bR7 (p := ⟨w.heap.size + 1, 1, none⟩) (by simp only; omega) (.slice (some ⟨g7, 0, none⟩) (k + 1) c7)
      have R5 := up_set up7 (p := ⟨w.heap.size + 1, 1, none⟩) (by simp only; omega) (.slice (some ⟨g7, 0, none⟩) (k + 1) c7)
      first
        | exact ⟨⟨k + 1, (.slice (some ⟨g7, 0, none⟩) (k + 1) c7), by omega, by omega, by go_num, R2, R3, R4, R5⟩, by simp [intOf]; omega⟩
        | (go_roundw; (case rel => exact ⟨k + 1, (.slice (some ⟨g7, 0, none⟩) (k + 1) c7), by omega, by omega, by go_num, R2, R3, R4, R5⟩); (case measure => simp [intOf]; omega))
        | (trace_state; sorry)
    · have hE : bs.take k = bs.take 4 := by
        by_cases h4 : k = 4
        · rw [h4]
        · rw [List.take_of_length_le (by rw [unhide HN]; omega), List.take_of_length_le (by rw [unhide HN]; omega)]
      rw [hE, show (bs.take 4).map cgP = cgL bs from rfl] at ow
      obtain ⟨P, cp, rfl, hP⟩ := own_pcs ow
      have hfar : ∀ bb oo, P = some ⟨bb, oo, none⟩ → bb ≠ w.heap.size := fun bb oo e => (by have := (ow.lt bb (by rw [e]; rfl)).1; omega)
      have c0 := (bL 0 _ rfl).1
      have c1 := (bL 1 _ rfl).1
      have c2 := (bL 2 _ rfl).1
      have c3 := (bL 3 _ rfl).1
      have d0 := (bR 0 _ rfl).1
      have d1 := (bR 1 _ rfl).1
      have d2 := (bR 2 _ rfl).1
      have d3 := (bR 3 _ rfl).1
      have f0 := (bR 0 _ rfl).2
      have f1 := (bR 1 _ rfl).2
      have f2 := (bR 2 _ rfl).2
      have f3 := (bR 3 _ rfl).2
      have HFar := hide hfar
      have HP := hide hP
      have HU := hide hup
      obtain ⟨K, hK⟩ : ∃ K, (cgL bs).length = K := ⟨_, rfl⟩
      rw [hK] at c1
      have HKK := hide hK
      clear hfar hP hE hK ow hup
      by_cases hlN : k < N
      · have i1 : (k : Int) < (N : Int) := by omega
        have i2 : ¬ (k : Int) < 4 := by omega
        go_wp2
        have B9 := bx_set (bx_set (bx_set (bx_set bR 0 (.string cgN)) 1 (.slice P K cp)) 2 (.slice none 0 0)) 3 (.int .i64 300)
        have U9 : Up w ((((wr.setCell ⟨w.heap.size, 0, none⟩ (.string cgN)).setCell ⟨w.heap.size, 1, none⟩ (.slice P K cp)).setCell ⟨w.heap.size, 2, none⟩ (.slice none 0 0)).setCell ⟨w.heap.size, 3, none⟩ (.int .i64 300)) := up_set (up_set (up_set (up_set (unhide HU) (by simp) _) (by simp) _) (by simp) _) (by simp) _
        have Q9 := pcs_farC (pcs_farC (pcs_farC (pcs_farC (unhide HP) (p := ⟨w.heap.size, 0, none⟩) (unhide HFar) (.string cgN)) (p := ⟨w.heap.size, 1, none⟩) (unhide HFar) (.slice P K cp)) (p := ⟨w.heap.size, 2, none⟩) (unhide HFar) (.slice none 0 0)) (p := ⟨w.heap.size, 3, none⟩) (unhide HFar) (.int .i64 300)
        generalize (((wr.setCell ⟨w.heap.size, 0, none⟩ (.string cgN)).setCell ⟨w.heap.size, 1, none⟩ (.slice P K cp)).setCell ⟨w.heap.size, 2, none⟩ (.slice none 0 0)).setCell ⟨w.heap.size, 3, none⟩ (.int .i64 300) = W9 at *
        have z0 := (B9 0 _ rfl).1
        have z1 := (B9 1 _ rfl).1
        have z2 := (B9 2 _ rfl).1
        have z3 := (B9 3 _ rfl).1
        refine bodyPost_ret (v := loV cgN P K cp none 0 0 300) (by simp [results, Tryz.f5, go_sem, z0, z1, z2, z3]) rfl ?_
        exact ⟨⟨P, ⟨cp, by rw [unhide HKK]⟩, Q9⟩, U9⟩
      · have i1 : ¬ (k : Int) < (N : Int) := by omega
        go_wp2
        have B9 := bx_set (bx_set (bx_set (bx_set bR 0 (.string cgN)) 1 (.slice P K cp)) 2 (.slice none 0 0)) 3 (.int .i64 300)
        have U9 : Up w ((((wr.setCell ⟨w.heap.size, 0, none⟩ (.string cgN)).setCell ⟨w.heap.size, 1, none⟩ (.slice P K cp)).setCell ⟨w.heap.size, 2, none⟩ (.slice none 0 0)).setCell ⟨w.heap.size, 3, none⟩ (.int .i64 300)) := up_set (up_set (up_set (up_set (unhide HU) (by simp) _) (by simp) _) (by simp) _) (by simp) _
        have Q9 := pcs_farC (pcs_farC (pcs_farC (pcs_farC (unhide HP) (p := ⟨w.heap.size, 0, none⟩) (unhide HFar) (.string cgN)) (p := ⟨w.heap.size, 1, none⟩) (unhide HFar) (.slice P K cp)) (p := ⟨w.heap.size, 2, none⟩) (unhide HFar) (.slice none 0 0)) (p := ⟨w.heap.size, 3, none⟩) (unhide HFar) (.int .i64 300)
        generalize (((wr.setCell ⟨w.heap.size, 0, none⟩ (.string cgN)).setCell ⟨w.heap.size, 1, none⟩ (.slice P K cp)).setCell ⟨w.heap.size, 2, none⟩ (.slice none 0 0)).setCell ⟨w.heap.size, 3, none⟩ (.int .i64 300) = W9 at *
        have z0 := (B9 0 _ rfl).1
        have z1 := (B9 1 _ rfl).1
        have z2 := (B9 2 _ rfl).1
        have z3 := (B9 3 _ rfl).1
        refine bodyPost_ret (v := loV cgN P K cp none 0 0 300) (by simp [results, Tryz.f5, go_sem, z0, z1, z2, z3]) rfl ?_
        exact ⟨⟨P, ⟨cp, by rw [unhide HKK]⟩, Q9⟩, U9⟩
end Go.Proofs.YtooochbfnmmnkaaGreat
namespace Go.Proofs.YtooochbfnmmnkaaGreat
open Go.RowKit Go.Proofs.Gn
attribute [local go_sem] Oper.semAt_some
set_option linter.unusedVariables false
theorem pcs_news {W : World} {b : Nat} {ps : List Pce} : ∀ {off : Nat} (h : ∀ k (hk : k < ps.length), PceAt W b (off + k * 7) ps[k]), ∀ j u, (cellsPc ps)[j]? = some u → W.cell? ⟨b, off + j, none⟩ = some u := by
  induction ps with
  | nil => intro off h j u hj; simp [cellsPc] at hj
  | cons p ps ih =>
    intro off h j u hj
    have e : cellsPc (p :: ps) = .int .i64 p.x :: .int .i64 p.y :: .int .i64 p.z :: .int .i64 p.l :: .int .i64 p.w :: .int .i64 p.h :: .int .i64 p.m :: cellsPc ps := rfl
    rw [e] at hj
    obtain ⟨a0, a1, a2, a3, a4, a5, a6⟩ := h 0 (by simp)
    match j, hj with
    | 0, hj => simp at hj; subst hj; simpa using a0
    | 1, hj => simp at hj; subst hj; simpa using a1
    | 2, hj => simp at hj; subst hj; simpa using a2
    | 3, hj => simp at hj; subst hj; simpa using a3
    | 4, hj => simp at hj; subst hj; simpa using a4
    | 5, hj => simp at hj; subst hj; simpa using a5
    | 6, hj => simp at hj; subst hj; simpa using a6
    | (j + 7), hj =>
      have q := ih (off := off + 7) (fun k hk => by
        have t := h (k + 1) (by simpa using hk)
        rw [show off + (k + 1) * 7 = off + 7 + k * 7 by omega] at t
        exact t) j u (by simpa using hj)
      rw [show off + (j + 7) = off + 7 + j by omega]
      exact q
theorem cellsPc_one {ps : List Pce} : ∀ u ∈ cellsPc ps, u.oneCell' = true := by
  intro u hu
  unfold cellsPc at hu
  obtain ⟨p, _, hp⟩ := List.mem_flatMap.1 hu
  simp at hp
  rcases hp with rfl | rfl | rfl | rfl | rfl | rfl | rfl <;> rfl
theorem addr_add (b o j : Nat) : (⟨b, o, none⟩ : Addr).add j = ⟨b, o + j, none⟩ := by
  unfold Addr.add
  split <;> simp_all
theorem cellsPc_append (a b : List Pce) : cellsPc (a ++ b) = cellsPc a ++ cellsPc b := by simp [cellsPc]
theorem p_GrowPc (n : Nat) (h0 : 0 < n) (hn : n ≤ 1000) (w : World) :
    Calls Tryz.prog 59 #[.slice none 0 0, .int .i64 n] w fun e w' => ∃ v, e = .returned v ∧ w'.ownsRow w.heap.size 57 7 v 0 [] ∧ Up w w' := by
  obtain ⟨i0', hi, hz0, hz1, hz2⟩ := info_parts info_pc
  have q := Any8.slices_Grow_grow Tryz.growPc i0' _ hi hz0 (by rw [hz1]; decide) none 0 0 n [] w (Nat.le_refl _) (by omega) (by rw [hz2]; omega) (by omega) (by simp) (fun _ => rfl) (fun a ha => by cases ha)
  refine q.mono ?_
  rintro e w' ⟨rfl, rfl⟩
  have hge := grownCap_ge w (0 + n) 0 (Tryz.growPc_ren.t 25)
  have hle := grownCap_le_maxLen w (0 + n) 0 (Tryz.growPc_ren.t 25) (by unfold maxLen; omega)
  generalize grownCap w (0 + n) 0 (Tryz.growPc_ren.t 25) = G at *
  refine ⟨_, rfl, World.ownsRow_made w.drew _ G (Nat.le_refl _) hle ?_, up_alloc (up_drew (up_refl _)) _⟩
  rw [Array.size_append, Array.size_append, size_zeroCells, size_zeroCells]
  show 0 + (0 + n - 0) * 7 + (G - (0 + n)) * 7 = G * 7
  omega
/-- How far the first loop has come. -/
def CcA (L1 N : Nat) (s3 s11 : Value) : Prop := (s11 = .int .i64 0 ∧ s3 = .int .i64 0) ∨ (s11 = .int .i64 1 ∧ s3 = .int .i64 L1) ∨ (s11 = .int .i64 2 ∧ s3 = .int .i64 N)
/-- How far the second one has. -/
def CcB (B : Nat) (p1 p2 : List Pce) (L1 L2 : Nat) (s6 s27 : Value) (w : World) : Prop := (s27 = .int .i64 0 ∧ w.ownsRow B 57 7 s6 0 []) ∨ (s27 = .int .i64 1 ∧ w.ownsRow B 57 7 s6 L1 (cellsPc p1)) ∨ (s27 = .int .i64 2 ∧ w.ownsRow B 57 7 s6 (L1 + L2) (cellsPc (p1 ++ p2)))
set_option maxRecDepth 100000 in
set_option maxHeartbeats 8000000 in
theorem p_ConcatPc (g : Nat) (A1 A2 : Option Addr) (p1 p2 : List Pce) (c1 c2 : Nat) (w : World) (hg : Bx w g [.slice A1 p1.length c1, .slice A2 p2.length c2]) (h1 : Pcs w A1 p1) (h2 : Pcs w A2 p2) (n1 : 0 < p1.length ∧ p1.length ≤ 100) (n2 : 0 < p2.length ∧ p2.length ≤ 100) :
    Calls Tryz.prog 32 #[.slice (some ⟨g, 0, none⟩) 2 2] w fun e w' => (∃ v, e = .returned v ∧ w'.ownsRow w.heap.size 57 7 v (p1.length + p2.length) (cellsPc (p1 ++ p2))) ∧ Up w w' := by
  obtain ⟨b1, o1, rfl, q1⟩ := h1.resolve_left (by intro e; rw [e] at n1; simp at n1)
  obtain ⟨b2, o2, rfl, q2⟩ := h2.resolve_left (by intro e; rw [e] at n2; simp at n2)
  have HN1 := hide (pcs_news q1)
  have HN2 := hide (pcs_news q2)
  have HL1 := hide (cellsPc_len p1)
  have HL2 := hide (cellsPc_len p2)
  have HG := hide hg
  have HGr := hide (fun n h0 hn W => p_GrowPc n h0 hn W)
  obtain ⟨i0', hi, hz0, hz1, hz2⟩ := info_parts info_pc
  have HI := hide hi
  obtain ⟨L1, hL1⟩ : ∃ n, p1.length = n := ⟨_, rfl⟩
  obtain ⟨L2, hL2⟩ : ∃ n, p2.length = n := ⟨_, rfl⟩
  rw [hL1] at n1 HL1 HG ⊢
  rw [hL2] at n2 HL2 HG ⊢
  clear hL1 hL2 h1 h2 q1 q2 hg hi
  obtain ⟨N, hN⟩ : ∃ N, L1 + L2 = N := ⟨_, rfl⟩
  have HN := hide hN
  have hNb : 0 < N ∧ N ≤ 200 := by omega
  have hNi : (L1 : Int) + (L2 : Int) = (N : Int) := by omega
  have w1 : IntKind.i64.wrap ((L1 : Int) + (L2 : Int)) = (N : Int) := by rw [hNi]; exact IntWalk.i64_in _ ⟨by omega, by omega⟩
  clear hN hNi
  have c0 := (unhide HG 0 _ rfl).1
  have c1' := (unhide HG 1 _ rfl).1
  go_enter Tryz.func32, Tryz.ntmps32
  go_upto_region 3 with fail
  go_loopw [3, 11] (fun s3 s11 wr => CcA L1 N s3 s11 ∧ wr = w) (fun _ s11 _ => 2 - (intOf s11).toNat)
  case atStart => exact ⟨.inl ⟨rfl, rfl⟩, rfl⟩
  case round =>
    obtain ⟨hA, rfl⟩ := hrel
    rcases hA with ⟨rfl, rfl⟩ | ⟨rfl, rfl⟩ | ⟨rfl, rfl⟩
    · go_wp2_with fail
      go_roundw
      case rel => exact ⟨.inr (.inl ⟨rfl, by first | rfl | go_num⟩), by trivial⟩
      case measure => simp [intOf]
    · go_wp2_with fail
      go_roundw
      case rel => exact ⟨.inr (.inr ⟨rfl, by first | rfl | go_num⟩), by trivial⟩
      case measure => simp [intOf]
    · have hnn : ¬ (N : Int) < 0 := by omega
      have HUn := hide (up_refl wr)
      clear c0 c1' w1
      go_wp2_with (go_at_call 59; (with_reducible refine (unhide HGr N hNb.1 (by omega) _).mono ?_); rintro e w2 ⟨v, rfl, ho, hu⟩; have HO := hide ho; have HU := hide hu; clear ho hu)
      clear HUn
      obtain ⟨wo, rfl⟩ : ∃ wo, wo = wr := ⟨_, rfl⟩
      go_loopw [6, 27] (fun s6 s27 wx => CcB wo.heap.size p1 p2 L1 L2 s6 s27 wx ∧ Up wo wx) (fun _ s27 _ => 2 - (intOf s27).toNat)
      case atStart => exact ⟨.inl ⟨rfl, unhide HO⟩, unhide HU⟩
      case round =>
        obtain ⟨hB, hux⟩ := hrel
        clear HO HU
        have d0 := up_cell hux (unhide HG 0 _ rfl).1
        have d1 := up_cell hux (unhide HG 1 _ rfl).1
        have HU := hide hux
        have hsz := hux.size
        rcases hB with ⟨rfl, ho⟩ | ⟨rfl, ho⟩ | ⟨rfl, ho⟩
        · have HO := hide ho
          clear ho hux
          go_wp2_with (at_builtin; refine wpList_append_own _ rfl (.tmp 31) (.tmp 32) 24 rfl wo.heap.size 57 i0' _ 7 56 Tryz.underlying24 (unhide HI) hz0 hz1 hz2 rfl (by decide) _ 0 [] rfl (unhide HO) ⟨b1, o1, none⟩ L1 c1 (cellsPc p1) rfl (unhide HL1) (fun j u hj => by rw [addr_add]; exact up_cell (unhide HU) (unhide HN1 j u hj)) cellsPc_one (by unfold maxLen; omega) (by omega) hsz ?_; intro v' w7 hown' hgrow _)
          have R1 : w7.ownsRow wo.heap.size 57 7 v' L1 (cellsPc p1) := by simpa using hown'
          have R2 : Up wo w7 := (unhide HU).grown hgrow hsz fun g hg => ((unhide HO).lt g hg).1
          go_roundw
          case rel => exact ⟨.inr (.inl ⟨rfl, R1⟩), R2⟩
          case measure => simp [intOf]
        · have HO := hide ho
          clear ho hux
          go_wp2_with (at_builtin; refine wpList_append_own _ rfl (.tmp 31) (.tmp 32) 24 rfl wo.heap.size 57 i0' _ 7 56 Tryz.underlying24 (unhide HI) hz0 hz1 hz2 rfl (by decide) _ L1 (cellsPc p1) rfl (unhide HO) ⟨b2, o2, none⟩ L2 c2 (cellsPc p2) rfl (unhide HL2) (fun j u hj => by rw [addr_add]; exact up_cell (unhide HU) (unhide HN2 j u hj)) cellsPc_one (by unfold maxLen; omega) (by omega) hsz ?_; intro v' w7 hown' hgrow _)
          have R1 : w7.ownsRow wo.heap.size 57 7 v' (L1 + L2) (cellsPc (p1 ++ p2)) := by rw [cellsPc_append]; exact hown'
          have R2 : Up wo w7 := (unhide HU).grown hgrow hsz fun g hg => ((unhide HO).lt g hg).1
          go_roundw
          case rel => exact ⟨.inr (.inr ⟨rfl, R1⟩), R2⟩
          case measure => simp [intOf]
        · have HO := hide ho
          clear ho hux d0 d1
          go_wp2_with fail
          go_ret
          exact ⟨⟨_, rfl, unhide HO⟩, unhide HU⟩
end Go.Proofs.YtooochbfnmmnkaaGreat
namespace Go.Proofs.YtooochbfnmmnkaaGreat
open Go.RowKit Go.Proofs.Gn
attribute [local go_sem] Oper.semAt_some
set_option linter.unusedVariables false
theorem p_GrowEye (w : World) :
    Calls Tryz.prog 60 #[.slice none 0 0, .int .i64 0] w fun e w' => e = .returned (.slice none 0 0) ∧ w = w' := by
  go_enter Tryz.func60, Tryz.ntmps60
  go_wp2
  go_ret
  exact ⟨rfl, rfl⟩
theorem app_eye (w : World) (ty : TypeId) : (Builtin.append_ #[25, 25] ty #[.slice none 0 0, .slice none 0 0]).run Tryz.prog w = .ok (.slice none 0 0) w := by kernel_rfl
def CcE (s : Value) : Prop := s = .int .i64 0 ∨ s = .int .i64 1 ∨ s = .int .i64 2
set_option maxRecDepth 100000 in
set_option maxHeartbeats 4000000 in
theorem p_ConcatEye (g : Nat) (w : World) (hg : Bx w g [.slice none 0 0, .slice none 0 0]) :
    Calls Tryz.prog 33 #[.slice (some ⟨g, 0, none⟩) 2 2] w fun e w' => e = .returned (.slice none 0 0) ∧ w = w' := by
  have HG := hide hg
  have HA := hide (fun ty => app_eye w ty)
  clear hg
  have c0 := (unhide HG 0 _ rfl).1
  have c1' := (unhide HG 1 _ rfl).1
  go_enter Tryz.func33, Tryz.ntmps33
  go_upto_region 3 with fail
  go_loopw [3, 11] (fun s3 s11 wr => (CcE s11 ∧ s3 = .int .i64 0) ∧ wr = w) (fun _ s11 _ => 2 - (intOf s11).toNat)
  case atStart => exact ⟨⟨.inl rfl, rfl⟩, rfl⟩
  case round =>
    obtain ⟨⟨hA, rfl⟩, rfl⟩ := hrel
    rcases hA with rfl | rfl | rfl
    · go_wp2_with fail
      go_roundw
      case rel => exact ⟨⟨.inr (.inl rfl), by first | rfl | trivial | go_num⟩, by trivial⟩
      case measure => simp [intOf]
    · go_wp2_with fail
      go_roundw
      case rel => exact ⟨⟨.inr (.inr rfl), by first | rfl | trivial | go_num⟩, by trivial⟩
      case measure => simp [intOf]
    · go_wp2_with (go_at_call 60; (with_reducible refine (p_GrowEye _).mono ?_); rintro e w2 ⟨rfl, rfl⟩)
      obtain ⟨wo, rfl⟩ : ∃ wo, wo = wr := ⟨_, rfl⟩
      go_loopw [6, 27] (fun s6 s27 wx => (CcE s27 ∧ s6 = .slice none 0 0) ∧ wx = wo) (fun _ s27 _ => 2 - (intOf s27).toNat)
      case atStart => exact ⟨⟨.inl rfl, rfl⟩, rfl⟩
      case round =>
        obtain ⟨⟨hB, rfl⟩, rfl⟩ := hrel
        rcases hB with rfl | rfl | rfl
        · go_wp2_with (at_builtin; refine Lib.wpList_append_run _ rfl _ _ _ _ rfl _ _ rfl rfl _ _ (unhide HA _) ?_)
          go_roundw
          case rel => exact ⟨⟨.inr (.inl rfl), by first | rfl | trivial⟩, by trivial⟩
          case measure => simp [intOf]
        · go_wp2_with (at_builtin; refine Lib.wpList_append_run _ rfl _ _ _ _ rfl _ _ rfl rfl _ _ (unhide HA _) ?_)
          go_roundw
          case rel => exact ⟨⟨.inr (.inr rfl), by first | rfl | trivial⟩, by trivial⟩
          case measure => simp [intOf]
        · go_wp2_with fail
          go_ret
          exact ⟨rfl, rfl⟩
end Go.Proofs.YtooochbfnmmnkaaGreat
namespace Go.Proofs.YtooochbfnmmnkaaGreat
open Go.RowKit Go.Proofs.Gn
/-- Far from the limits, all of them. -/
def BdL (ps : Pl) : Prop := ∀ p ∈ ps, Bd p.1 ∧ Bd p.2
theorem bdL_get {ps : Pl} (h : BdL ps) {k : Nat} (hk : k < ps.length) : Bd (Gx.g ps k).1 ∧ Bd (Gx.g ps k).2 := h _ (Gx.g_mem hk)
theorem pts_g {w : World} {b off : Nat} {ps : Pl} (hc : ∀ k (h : k < ps.length), w.cell? ⟨b, off + k * 2, none⟩ = some (.int .i64 ps[k].1) ∧ w.cell? ⟨b, off + k * 2 + 1, none⟩ = some (.int .i64 ps[k].2)) {k : Nat} (hk : k < ps.length) :
    w.cell? ⟨b, off + k * 2, none⟩ = some (.int .i64 (Gx.g ps k).1) ∧ w.cell? ⟨b, off + k * 2 + 1, none⟩ = some (.int .i64 (Gx.g ps k).2) := by
  rw [Gx.g_eq hk]
  exact hc k hk
theorem det_dt (a b c : Int × Int) : det a.1 a.2 b.1 b.2 c.1 c.2 = Gx.dt a b c := rfl
theorem cmp_le (d : Int) : decide (cmpV d 0 ≤ 0) = decide (d ≤ 0) := by
  unfold cmpV
  rw [Bool.eq_iff_iff]
  simp only [decide_eq_true_eq]
  split
  · omega
  · split <;> omega
theorem p_off0 (A : Option Addr) (n : Nat) (cap : Nat) (p : Addr) (w : World) (h : n < 2) :
    Calls Tryz.prog 101 #[.slice A n cap, .pointer (some p)] w fun e w' => e = .returned (.bool false) ∧ Up w w' := by
  have h1 : (n : Int) < 2 := by omega
  have h2 : decide ((2 : Int) ≤ (n : Int)) = false := by simp; omega
  go_enter Tryz.func101, Tryz.ntmps101
  go_wp2_with fail
  go_quiet (fail)
  all_goals go_wp2_with fail
  all_goals go_ret
  all_goals exact ⟨rfl, (by repeat' (first | (with_reducible exact up_refl _) | (with_reducible assumption) | (with_reducible refine up_alloc ?_ _) | (with_reducible refine up_drewN ?_ _) | (with_reducible refine up_drew ?_) | (with_reducible refine up_set ?_ (by first | (simp; done) | (simp; omega) | omega) _) | (refine up_trans ?_ (by with_reducible assumption))))⟩
set_option maxHeartbeats 1000000 in
theorem p_off2 (b off : Nat) (ps : Pl) (cap : Nat) (pb : Nat) (x y : Int) (w : World) (hc : ∀ k (h : k < ps.length), w.cell? ⟨b, off + k * 2, none⟩ = some (.int .i64 ps[k].1) ∧ w.cell? ⟨b, off + k * 2 + 1, none⟩ = some (.int .i64 ps[k].2))
    (hx : w.cell? ⟨pb, 0, none⟩ = some (.int .i64 x)) (hy : w.cell? ⟨pb, 1, none⟩ = some (.int .i64 y)) (n : Nat) (hn : ps.length = n + 2) (h63 : n + 2 ≤ 9223372036854775807) (hb : BdL ps) (bx : Bd x) (b_y : Bd y) :
    Calls Tryz.prog 101 #[.slice (some ⟨b, off, none⟩) ((n + 2 : Nat)) cap, .pointer (some ⟨pb, 0, none⟩)] w fun e w' => e = .returned (.bool (decide (Gx.dt (Gx.g ps n) (Gx.g ps (n + 1)) (x, y) ≤ 0))) ∧ Up w w' := by
  obtain ⟨a0, a1⟩ := pts_g hc (k := n) (by omega)
  obtain ⟨b0, b1⟩ := pts_g hc (k := n + 1) (by omega)
  have ba := bdL_get hb (k := n) (by omega)
  have bb := bdL_get hb (k := n + 1) (by omega)
  obtain ⟨P, hP⟩ : ∃ P, Gx.g ps n = P := ⟨_, rfl⟩
  obtain ⟨Q, hQ⟩ : ∃ P, Gx.g ps (n + 1) = P := ⟨_, rfl⟩
  rw [hP] at a0 a1 ba ⊢
  rw [hQ] at b0 b1 bb ⊢
  obtain ⟨p1, p2⟩ := P
  obtain ⟨q1, q2⟩ := Q
  simp only at a0 a1 b0 b1 ba bb
  have PT : ∀ W : World, Calls Tryz.prog 102 #[pt p1 p2, pt q1 q2, pt x y] W fun e w' => e = .returned (.int .i64 (cmpV (det p1 p2 q1 q2 x y) 0)) ∧ Up W w' := fun W => p_turn p1 p2 q1 q2 x y W ba.1 ba.2 bb.1 bb.2 bx b_y
  have hd : decide (cmpV (det p1 p2 q1 q2 x y) 0 ≤ 0) = decide (Gx.dt (p1, p2) (q1, q2) (x, y) ≤ 0) := cmp_le _
  obtain ⟨T, hT⟩ : ∃ T, cmpV (det p1 p2 q1 q2 x y) 0 = T := ⟨_, rfl⟩
  rw [hT] at hd PT
  obtain ⟨D, hD⟩ : ∃ D, decide (Gx.dt (p1, p2) (q1, q2) (x, y) ≤ 0) = D := ⟨_, rfl⟩
  rw [hD] at hd ⊢
  have HPT := hide PT
  clear PT hP hQ hT hD hc hn hb ba bb bx b_y
  have k1 : (2 : Int) ≤ ((n + 2 : Nat) : Int) := by omega
  have k2 : decide ((2 : Int) ≤ ((n + 2 : Nat) : Int)) = true := by simp; omega
  have k3 : IntKind.i64.wrap (((n + 2 : Nat) : Int) - 2) = (n : Int) := by rw [IntWalk.i64_in _ ⟨by omega, by omega⟩]; omega
  have k4 : IntKind.i64.wrap (((n + 2 : Nat) : Int) - 1) = ((n + 1 : Nat) : Int) := by rw [IntWalk.i64_in _ ⟨by omega, by omega⟩]; omega
  have k5 : (n : Int) < ((n + 2 : Nat) : Int) := by omega
  have k6 : ((n + 1 : Nat) : Int) < ((n + 2 : Nat) : Int) := by omega
  obtain ⟨N, hN⟩ : ∃ N : Nat, N = n + 2 := ⟨_, rfl⟩
  obtain ⟨M, hM⟩ : ∃ M : Nat, M = n + 1 := ⟨_, rfl⟩
  rw [← hN] at k1 k2 k3 k4 k5 k6 ⊢
  rw [← hM] at k4 k6 b0 b1
  clear hN hM
  go_enter Tryz.func101, Tryz.ntmps101
  go_wp2_with fail
  go_region_held3 (fun wx => wx.cell? ⟨b, off + n * 2, none⟩ = some (.int .i64 p1) ∧ wx.cell? ⟨b, off + n * 2 + 1, none⟩ = some (.int .i64 p2) ∧ wx.cell? ⟨b, off + M * 2, none⟩ = some (.int .i64 q1) ∧ wx.cell? ⟨b, off + M * 2 + 1, none⟩ = some (.int .i64 q2) ∧ wx.cell? ⟨pb, 0, none⟩ = some (.int .i64 x) ∧ wx.cell? ⟨pb, 1, none⟩ = some (.int .i64 y) ∧ Up w wx)
    ((first | exact ⟨a0, a1, b0, b1, hx, hy, up_drew (up_refl _)⟩ | (with_reducible assumption) | exact ⟨up_cell hb3 a0, up_cell hb3 a1, up_cell hb3 b0, up_cell hb3 b1, up_cell hb3 hx, up_cell hb3 hy, (by repeat' (first | (with_reducible exact up_refl _) | (with_reducible assumption) | (with_reducible refine up_alloc ?_ _) | (with_reducible refine up_drewN ?_ _) | (with_reducible refine up_drew ?_) | (with_reducible refine up_set ?_ (by first | (simp; done) | (simp; omega) | omega) _) | (refine up_trans ?_ (by with_reducible assumption))))⟩))
    (first | (go_at_call 102; (with_reducible refine (unhide HPT _).mono ?_); rintro e w3 ⟨rfl, hb3⟩))
  go_wp2
  go_ret
  exact ⟨rfl, (by repeat' (first | (with_reducible exact up_refl _) | (with_reducible assumption) | (with_reducible refine up_alloc ?_ _) | (with_reducible refine up_drewN ?_ _) | (with_reducible refine up_drew ?_) | (with_reducible refine up_set ?_ (by first | (simp; done) | (simp; omega) | omega) _) | (refine up_trans ?_ (by with_reducible assumption))))⟩
/-- What is left of a stack. -/
def leftS (p : Int × Int) (ps : Pl) : Pl := (Gx.popS p ps.reverse).reverse
theorem leftS_prefix (p : Int × Int) (ps : Pl) : leftS p ps <+: ps := by
  have := Gx.pop_suffix p ps.reverse
  unfold leftS
  rw [← List.reverse_suffix, List.reverse_reverse]
  exact this
theorem leftS_short {p : Int × Int} {ps : Pl} (h : ps.length < 2) : leftS p ps = ps := by
  match ps, h with
  | [], _ => rfl
  | [_], _ => rfl
theorem leftS_step {p : Int × Int} {ps : Pl} {n : Nat} (h : ps.length = n + 2) : leftS p ps = if Gx.dt (Gx.g ps n) (Gx.g ps (n + 1)) p ≤ 0 then leftS p (ps.take (n + 1)) else ps := by
  obtain ⟨r, rfl⟩ : ∃ r, ps = r.reverse := ⟨ps.reverse, by simp⟩
  match r, h with
  | b :: a :: t, h =>
    have ht : t.length = n := by simpa using h
    have e1 : Gx.g (b :: a :: t).reverse n = a := by
      rw [Gx.g_eq (by simp; omega)]
      simp [ht]
    have e2 : Gx.g (b :: a :: t).reverse (n + 1) = b := by
      rw [Gx.g_eq (by simp; omega)]
      simp [ht]
    have e3 : (b :: a :: t).reverse.take (n + 1) = (a :: t).reverse := by
      rw [List.reverse_cons, List.take_append_of_le_length (by simp; omega), List.take_of_length_le (by simp; omega)]
    rw [e1, e2, e3]
    unfold leftS
    rw [List.reverse_reverse, List.reverse_reverse]
    conv => lhs; unfold Gx.popS
    split <;> rfl
set_option maxHeartbeats 1000000 in
theorem p_drop (g : Nat) (ps : Pl) (cap : Nat) (pb : Nat) (x y : Int) (w : World) (hc : ∀ k (h : k < ps.length), w.cell? ⟨g, 0 + k * 2, none⟩ = some (.int .i64 ps[k].1) ∧ w.cell? ⟨g, 0 + k * 2 + 1, none⟩ = some (.int .i64 ps[k].2))
    (hx : w.cell? ⟨pb, 0, none⟩ = some (.int .i64 x)) (hy : w.cell? ⟨pb, 1, none⟩ = some (.int .i64 y)) (hcap : ps.length ≤ cap) (h63 : cap ≤ 9223372036854775807) (hb : BdL ps) (bx : Bd x) (b_y : Bd y) :
    Calls Tryz.prog 100 #[.slice (some ⟨g, 0, none⟩) ps.length cap, .func (.func 101) #[] #[.pointer (some ⟨pb, 0, none⟩)]] w fun e w' => e = .returned (.slice (some ⟨g, 0, none⟩) (leftS (x, y) ps).length cap) ∧ Up w w' := by
  obtain ⟨N, hN⟩ : ∃ N, ps.length = N := ⟨_, rfl⟩
  rw [hN] at hcap ⊢
  have HC := hide hc
  have HN := hide hN
  have HB := hide hb
  clear hc hN hb
  go_enter Tryz.func100, Tryz.ntmps100
  go_wp2_with fail
  go_loopw [0] (fun v wr => ∃ m : Nat, m ≤ N ∧ v = .slice (some ⟨g, 0, none⟩) m cap ∧ Up w wr ∧ leftS (x, y) (ps.take m) = leftS (x, y) ps) (fun v _ => match v with | .slice _ n _ => n | _ => 0)
  case atStart => exact ⟨N, Nat.le_refl _, rfl, up_refl _, by rw [List.take_of_length_le (by rw [unhide HN]; exact Nat.le_refl _)]⟩
  case round =>
    obtain ⟨m, hm, rfl, hu, hl⟩ := hrel
    have hlen : (ps.take m).length = m := by rw [List.length_take, unhide HN]; omega
    have hcm : ∀ k (h : k < (ps.take m).length), wr.cell? ⟨g, 0 + k * 2, none⟩ = some (.int .i64 (ps.take m)[k].1) ∧ wr.cell? ⟨g, 0 + k * 2 + 1, none⟩ = some (.int .i64 (ps.take m)[k].2) := fun k h => by
      rw [List.getElem_take]
      have := unhide HC k (by rw [unhide HN]; omega)
      exact ⟨up_cell hu this.1, up_cell hu this.2⟩
    have hbm : BdL (ps.take m) := fun p hp => unhide HB p (List.mem_of_mem_take hp)
    have HL := hide hl
    have hx' := up_cell hu hx
    have hy' := up_cell hu hy
    by_cases h2 : m < 2
    · have e : (leftS (x, y) ps).length = m := by rw [← unhide HL, leftS_short (by omega), hlen]
      have HE := hide e
      clear e hcm hbm hlen hl
      go_wp2_with (go_at_call 101; refine (p_off0 _ _ _ _ _ h2).mono ?_; rintro e w1 ⟨rfl, hb1⟩)
      go_ret
      refine ⟨?_, (by repeat' (first | (with_reducible exact up_refl _) | (with_reducible assumption) | (with_reducible refine up_alloc ?_ _) | (with_reducible refine up_drewN ?_ _) | (with_reducible refine up_drew ?_) | (with_reducible refine up_set ?_ (by first | (simp; done) | (simp; omega) | omega) _) | (refine up_trans ?_ (by with_reducible assumption))))⟩
      rw [unhide HE]; rfl
    · obtain ⟨n, hn⟩ : ∃ n, m = n + 2 := ⟨m - 2, by omega⟩
      have hstep := leftS_step (p := (x, y)) (ps := ps.take m) (n := n) (by rw [hlen]; exact hn)
      have hoff := p_off2 g 0 (ps.take m) cap pb x y wr hcm hx' hy' n (by rw [hlen]; exact hn) (by omega) hbm bx b_y
      rw [← hn] at hoff
      have et : (ps.take m).take (n + 1) = ps.take (n + 1) := by rw [List.take_take, Nat.min_eq_left (by omega)]
      rw [et] at hstep
      by_cases hd : Gx.dt (Gx.g (ps.take m) n) (Gx.g (ps.take m) (n + 1)) (x, y) ≤ 0
      · rw [if_pos hd] at hstep
        rw [decide_eq_true hd] at hoff
        have hl2 : leftS (x, y) (ps.take (n + 1)) = leftS (x, y) ps := by rw [← hstep]; exact unhide HL
        have HL2 := hide hl2
        have HO := hide hoff
        have e1 : IntKind.i64.wrap ((m : Int) - 1) = ((n + 1 : Nat) : Int) := by rw [IntWalk.i64_in _ ⟨by omega, by omega⟩]; omega
        have e2 : ((n + 1 : Nat) : Int) ≤ (cap : Int) := by omega
        have e3 : n + 1 ≤ cap := by omega
        obtain ⟨M, hM⟩ : ∃ M : Nat, M = n + 1 := ⟨_, rfl⟩
        rw [← hM] at e1 e2 e3 HL2
        have e4 : M < m := by omega
        have e5 : M ≤ N := by omega
        clear hstep hoff hd et hcm hbm hlen hl hl2 hn hM h2
        go_wp2_with (go_at_call 101; refine (unhide HO).mono ?_; rintro e w1 ⟨rfl, hb1⟩)
        go_roundw
        case rel => exact ⟨M, e5, rfl, (by repeat' (first | (with_reducible exact up_refl _) | (with_reducible assumption) | (with_reducible refine up_alloc ?_ _) | (with_reducible refine up_drewN ?_ _) | (with_reducible refine up_drew ?_) | (with_reducible refine up_set ?_ (by first | (simp; done) | (simp; omega) | omega) _) | (refine up_trans ?_ (by with_reducible assumption)))), unhide HL2⟩
        case measure => exact e4
      · rw [if_neg hd] at hstep
        rw [decide_eq_false hd] at hoff
        have e : (leftS (x, y) ps).length = m := by rw [← unhide HL, hstep, hlen]
        have HE := hide e
        have HO := hide hoff
        clear e hcm hbm hlen hl hstep hoff hd et hn h2
        go_wp2_with (go_at_call 101; refine (unhide HO).mono ?_; rintro e w1 ⟨rfl, hb1⟩)
        go_ret
        refine ⟨?_, (by repeat' (first | (with_reducible exact up_refl _) | (with_reducible assumption) | (with_reducible refine up_alloc ?_ _) | (with_reducible refine up_drewN ?_ _) | (with_reducible refine up_drew ?_) | (with_reducible refine up_set ?_ (by first | (simp; done) | (simp; omega) | omega) _) | (refine up_trans ?_ (by with_reducible assumption))))⟩
        rw [unhide HE]; rfl
theorem p_drop0 (cap : Nat) (p : Addr) (w : World) :
    Calls Tryz.prog 100 #[.slice none 0 cap, .func (.func 101) #[] #[.pointer (some p)]] w fun e w' => e = .returned (.slice none 0 cap) ∧ Up w w' := by
  go_enter Tryz.func100, Tryz.ntmps100
  go_wp2_with fail
  go_loopw [0] (fun v wr => v = .slice none 0 cap ∧ Up w wr) (fun _ _ => 0)
  case atStart => exact ⟨rfl, up_refl _⟩
  case round =>
    obtain ⟨rfl, hu⟩ := hrel
    have PO := fun W => p_off0 none 0 cap p W (by omega)
    have HPO := hide PO
    clear PO
    go_wp2_with (go_at_call 101; refine (unhide HPO _).mono ?_; rintro e w1 ⟨rfl, hb1⟩)
    go_ret
    exact ⟨rfl, (by repeat' (first | (with_reducible exact up_refl _) | (with_reducible assumption) | (with_reducible refine up_alloc ?_ _) | (with_reducible refine up_drewN ?_ _) | (with_reducible refine up_drew ?_) | (with_reducible refine up_set ?_ (by first | (simp; done) | (simp; omega) | omega) _) | (refine up_trans ?_ (by with_reducible assumption))))⟩
end Go.Proofs.YtooochbfnmmnkaaGreat
namespace Go.Proofs.YtooochbfnmmnkaaGreat
open Go.RowKit Go.Proofs.Gn
/-- The least and the greatest coordinates of points. -/
structure IsBox (ps : Pl) (k : Nat) (l1 l2 h1 h2 : Int) : Prop where
  l1a : ∃ r ∈ ps, r.1 = l1
  l2a : ∃ r ∈ ps, r.2 = l2
  h1a : ∃ r ∈ ps, r.1 = h1
  h2a : ∃ r ∈ ps, r.2 = h2
  l1b : ∀ i, i < k → l1 ≤ (Gx.g ps i).1
  l2b : ∀ i, i < k → l2 ≤ (Gx.g ps i).2
  h1b : ∀ i, i < k → (Gx.g ps i).1 ≤ h1
  h2b : ∀ i, i < k → (Gx.g ps i).2 ≤ h2
theorem min_of {P : Int → Prop} {a b : Int} (ha : P a) (hb : P b) : P (if b < a then b else a) := by split <;> assumption
theorem max_of {P : Int → Prop} {a b : Int} (ha : P a) (hb : P b) : P (if b > a then b else a) := by split <;> assumption
theorem box_step {ps : Pl} {k : Nat} {l1 l2 h1 h2 x y : Int} (h : IsBox ps k l1 l2 h1 h2) (hk : k < ps.length) (e : Gx.g ps k = (x, y)) :
    IsBox ps (k + 1) (if x < l1 then x else l1) (if y < l2 then y else l2) (if x > h1 then x else h1) (if y > h2 then y else h2) := by
  have hx : ∃ r ∈ ps, r.1 = x := ⟨Gx.g ps k, Gx.g_mem hk, by rw [e]⟩
  have hy : ∃ r ∈ ps, r.2 = y := ⟨Gx.g ps k, Gx.g_mem hk, by rw [e]⟩
  have low : ∀ {a b : Int}, (if b < a then b else a) ≤ a ∧ (if b < a then b else a) ≤ b := fun {a b} => by split <;> omega
  have high : ∀ {a b : Int}, a ≤ (if b > a then b else a) ∧ b ≤ (if b > a then b else a) := fun {a b} => by split <;> omega
  refine ⟨min_of (P := fun z => ∃ r ∈ ps, r.1 = z) h.l1a hx, min_of (P := fun z => ∃ r ∈ ps, r.2 = z) h.l2a hy, max_of (P := fun z => ∃ r ∈ ps, r.1 = z) h.h1a hx, max_of (P := fun z => ∃ r ∈ ps, r.2 = z) h.h2a hy, ?_, ?_, ?_, ?_⟩
  · intro i hi
    rcases Nat.lt_or_ge i k with c | c
    · exact Int.le_trans low.1 (h.l1b i c)
    · obtain rfl : i = k := by omega
      rw [e]; exact low.2
  · intro i hi
    rcases Nat.lt_or_ge i k with c | c
    · exact Int.le_trans low.1 (h.l2b i c)
    · obtain rfl : i = k := by omega
      rw [e]; exact low.2
  · intro i hi
    rcases Nat.lt_or_ge i k with c | c
    · exact Int.le_trans (h.h1b i c) high.1
    · obtain rfl : i = k := by omega
      rw [e]; exact high.2
  · intro i hi
    rcases Nat.lt_or_ge i k with c | c
    · exact Int.le_trans (h.h2b i c) high.1
    · obtain rfl : i = k := by omega
      rw [e]; exact high.2
theorem bx_set2 {W : World} {b : Nat} {u0 u1 v0 v1 : Value} (h : Bx W b [u0, u1]) : Bx ((W.setCell ⟨b, 0, none⟩ v0).setCell ⟨b, 1, none⟩ v1) b [v0, v1] := bx_set (bx_set h 0 v0) 1 v1
theorem bx_far2 {W : World} {b g : Nat} {vs : List Value} {v0 v1 : Value} (h : Bx W b vs) (hg : g ≠ b) : Bx ((W.setCell ⟨g, 0, none⟩ v0).setCell ⟨g, 1, none⟩ v1) b vs := bx_far (bx_far h (p := ⟨g, 0, none⟩) hg _) (p := ⟨g, 1, none⟩) hg _
end Go.Proofs.YtooochbfnmmnkaaGreat
namespace Go.Proofs.YtooochbfnmmnkaaGreat
open Go.RowKit Go.Proofs.Gn Go.Shelf
attribute [local go_sem] Oper.semAt_some
abbrev Pr := (Int × Int) × (Int × Int)
/-- How many sides. -/
def sidesN (ps : Pl) : Nat := if ps.length = 1 then 0 else ps.length
/-- The first k pairs of neighbours. -/
def nbs (ps : Pl) (k : Nat) : List Pr := (List.range k).map fun i => (Gx.g ps i, Gx.gc ps (i + 1))
theorem nbs_succ (ps : Pl) (k : Nat) : nbs ps (k + 1) = nbs ps k ++ [(Gx.g ps k, Gx.gc ps (k + 1))] := by simp [nbs, List.range_succ]
theorem nbs_len (ps : Pl) (k : Nat) : (nbs ps k).length = k := by simp [nbs]
/-- What a round keeps: what was there when the walk began, and the box of the list. -/
def KpN (n₀ Bs : Nat) (W W' : World) : Prop := Below n₀ W W' ∧ ∀ v, W.cell? ⟨Bs, 0, none⟩ = some v → W'.cell? ⟨Bs, 0, none⟩ = some v
theorem kpN_refl (n₀ Bs : Nat) (W : World) : KpN n₀ Bs W W := ⟨Below.refl _ _, fun _ h => h⟩
theorem kpN_trans {n₀ Bs : Nat} {A B C : World} (h : KpN n₀ Bs A B) (k : KpN n₀ Bs B C) : KpN n₀ Bs A C := ⟨h.1.trans k.1, fun v hv => k.2 v (h.2 v hv)⟩
theorem kpN_up {n₀ Bs : Nat} {W W' : World} (h : Up W W') (hn : n₀ ≤ W.heap.size) : KpN n₀ Bs W W' := ⟨h.mono hn, fun _ hv => up_cell h hv⟩
theorem grown_drew (W : World) : W.grownBy W.drew none := ⟨rfl, rfl, rfl, Nat.le_refl _, fun _ _ _ => rfl⟩
theorem yield_cases {e : Ending} {A B : Prop} (h : (e = .returned (.bool true) ∧ A) ∨ (e = .returned (.bool false) ∧ B)) : ∃ bv : Bool, e = .returned (.bool bv) ∧ ((bv = true ∧ A) ∨ (bv = false ∧ B)) := by
  rcases h with ⟨h1, h2⟩ | ⟨h1, h2⟩
  · exact ⟨true, h1, .inl ⟨rfl, h2⟩⟩
  · exact ⟨false, h1, .inr ⟨rfl, h2⟩⟩
theorem upto_mod (k n : Nat) : ((k : Int) + 1).tmod (n : Int) = (((k + 1) % n : Nat) : Int) := by rw [show (k : Int) + 1 = ((k + 1 : Nat) : Int) by omega]; rfl
end Go.Proofs.YtooochbfnmmnkaaGreat
namespace Go.Proofs.YtooochbfnmmnkaaGreat
open Go.RowKit Go.Proofs.Gn Go.Shelf
attribute [local go_sem] Oper.semAt_some
/-- What has come when k rounds are over. -/
def upTo {α : Type} (f : Nat → α) (k : Nat) : List α := (List.range k).map f
theorem upTo_succ {α : Type} (f : Nat → α) (k : Nat) : upTo f (k + 1) = upTo f k ++ [f k] := by simp [upTo, List.range_succ]
theorem upTo_len {α : Type} (f : Nat → α) (k : Nat) : (upTo f k).length = k := by simp [upTo]
theorem kpN_b {n₀ Bs : Nat} {w : World} (hn : n₀ ≤ w.heap.size) (hB : Bs < w.heap.size) (W : World) (l : Nat) (o o' : Obj) (hl : w.heap.size ≤ l) (h : W.heap[l]? = some o) (hc : o.isCells = false) (hw : o.isWalk = false) : KpN n₀ Bs W (W.putObj l o') :=
  ⟨belowK_b hn W l o o' hl h hc hw, fun _ hv => ((belowK_b (n₀ := Bs + 1) hB W l o o' hl h hc hw).cell (p := ⟨Bs, 0, none⟩) (Nat.lt_succ_self _)).trans hv⟩
/-- The box is one. -/
theorem box_ex {ps : Pl} (h0 : 0 < ps.length) : ∀ k, k < ps.length → ∃ l1 l2 h1 h2, IsBox ps (k + 1) l1 l2 h1 h2
  | 0, _ => by
    have m := Gx.g_mem h0
    refine ⟨(Gx.g ps 0).1, (Gx.g ps 0).2, (Gx.g ps 0).1, (Gx.g ps 0).2, ⟨_, m, rfl⟩, ⟨_, m, rfl⟩, ⟨_, m, rfl⟩, ⟨_, m, rfl⟩, ?_, ?_, ?_, ?_⟩ <;> (intro i hi; obtain rfl : i = 0 := by omega) <;> exact Int.le_refl _
  | k + 1, hk => by
    obtain ⟨l1, l2, h1, h2, hB⟩ := box_ex h0 k (by omega)
    exact ⟨_, _, _, _, box_step hB hk rfl⟩
theorem box_one {ps : Pl} {l1 l2 h1 h2 l1' l2' h1' h2' : Int} (a : IsBox ps ps.length l1 l2 h1 h2) (b : IsBox ps ps.length l1' l2' h1' h2') : l1 = l1' ∧ l2 = l2' ∧ h1 = h1' ∧ h2 = h2' := by
  have lo : ∀ {f : Int × Int → Int} {x y : Int}, (∃ r ∈ ps, f r = x) → (∀ i, i < ps.length → y ≤ f (Gx.g ps i)) → y ≤ x := fun {f x y} ⟨r, hr, e⟩ h => by
    obtain ⟨i, hi, rfl⟩ := Gx.mem_g hr
    rw [← e]; exact h i hi
  have hi : ∀ {f : Int × Int → Int} {x y : Int}, (∃ r ∈ ps, f r = x) → (∀ i, i < ps.length → f (Gx.g ps i) ≤ y) → x ≤ y := fun {f x y} ⟨r, hr, e⟩ h => by
    obtain ⟨i, hi, rfl⟩ := Gx.mem_g hr
    rw [← e]; exact h i hi
  exact ⟨Int.le_antisymm (lo (f := Prod.fst) b.l1a a.l1b) (lo (f := Prod.fst) a.l1a b.l1b), Int.le_antisymm (lo (f := Prod.snd) b.l2a a.l2b) (lo (f := Prod.snd) a.l2a b.l2b), Int.le_antisymm (hi (f := Prod.fst) a.h1a b.h1b) (hi (f := Prod.fst) b.h1a a.h1b), Int.le_antisymm (hi (f := Prod.snd) a.h2a b.h2b) (hi (f := Prod.snd) b.h2a a.h2b)⟩
theorem box_in {ps : Pl} {l1 l2 h1 h2 : Int} (a : IsBox ps ps.length l1 l2 h1 h2) (q : Int × Int) : Gx.Box ps q ↔ l1 ≤ q.1 ∧ q.1 ≤ h1 ∧ l2 ≤ q.2 ∧ q.2 ≤ h2 := by
  have get : ∀ {r}, r ∈ ps → l1 ≤ r.1 ∧ l2 ≤ r.2 ∧ r.1 ≤ h1 ∧ r.2 ≤ h2 := fun hr => by
    obtain ⟨i, hi, rfl⟩ := Gx.mem_g hr
    exact ⟨a.l1b i hi, a.l2b i hi, a.h1b i hi, a.h2b i hi⟩
  constructor
  · rintro ⟨⟨r, hr, e⟩, ⟨s, hs, f⟩, ⟨t, ht, g⟩, ⟨u, hu, k⟩⟩
    have := get hr; have := get hs; have := get ht; have := get hu
    omega
  · rintro ⟨e, f, g, k⟩
    obtain ⟨r, hr, r1⟩ := a.l1a; obtain ⟨s, hs, s1⟩ := a.h1a; obtain ⟨t, ht, t1⟩ := a.l2a; obtain ⟨u, hu, u1⟩ := a.h2a
    exact ⟨⟨r, hr, by omega⟩, ⟨s, hs, by omega⟩, ⟨t, ht, by omega⟩, ⟨u, hu, by omega⟩⟩
theorem cmp_lt (d : Int) : decide (cmpV d 0 < 0) = decide (d < 0) := by
  unfold cmpV
  rw [Bool.eq_iff_iff]
  simp only [decide_eq_true_eq]
  split
  · omega
  · split <;> omega
theorem up_keepsFrom {B : Nat} {W W' : World} (h : Up W W') : KeepsFrom B W W' := ⟨h.size, fun _ _ _ hk _ => (h.block _ (Array.getElem?_eq_some_iff.1 hk).1).trans hk⟩
/-- A pair of points near enough. -/
abbrev Qp := { x : (Int × Int) × (Int × Int) // (Bd x.1.1 ∧ Bd x.1.2) ∧ (Bd x.2.1 ∧ Bd x.2.2) }
theorem bdL_any {ps : Pl} (h : BdL ps) (k : Nat) : Bd (Gx.g ps k).1 ∧ Bd (Gx.g ps k).2 := by
  by_cases c : k < ps.length
  · exact bdL_get h c
  · have : Gx.g ps k = (0, 0) := by unfold Gx.g; rw [List.getD_eq_getElem?_getD, List.getElem?_eq_none (by omega)]; rfl
    rw [this]; unfold Bd; simp
def qp (ps : Pl) (h : BdL ps) (k : Nat) : Qp := ⟨(Gx.g ps k, Gx.gc ps (k + 1)), bdL_any h _, bdL_any h _⟩
/-- Contained: in the box, and on the left of all sides. -/
theorem cont_upTo {ps : Pl} (hb : BdL ps) {q : Int × Int} : Gx.Cont ps q ↔ Gx.Box ps q ∧ ∀ x ∈ upTo (qp ps hb) (sidesN ps), 0 ≤ Gx.dt x.1.1 x.1.2 q := by
  by_cases h : ps.length = 1
  · have e : upTo (qp ps hb) (sidesN ps) = [] := by unfold sidesN; rw [if_pos h]; rfl
    rw [e]
    exact ⟨fun c => ⟨c.box, fun x hx => by cases hx⟩, fun c => ⟨c.1, fun k => absurd h k⟩⟩
  · have e : Gx.Left ps q ↔ ∀ x ∈ upTo (qp ps hb) (sidesN ps), 0 ≤ Gx.dt x.1.1 x.1.2 q := by
      unfold sidesN upTo Gx.Left
      rw [if_neg h]
      simp only [List.mem_map, List.mem_range, forall_exists_index, and_imp]
      exact ⟨fun H x i hi e => e ▸ H i hi, fun H i hi => H _ i hi rfl⟩
    rw [← e]
    exact ⟨fun c => ⟨c.box, c.left h⟩, fun c => ⟨c.1, fun _ => c.2⟩⟩
/-- There is a side that has the point on its right. -/
theorem cont_no {ps : Pl} (hb : BdL ps) {q : Int × Int} {k : Nat} (hk : k ≤ sidesN ps) {x : Qp} (hx : x ∈ upTo (qp ps hb) k) (h : Gx.dt x.1.1 x.1.2 q < 0) : ¬ Gx.Cont ps q := fun c => by
  obtain ⟨i, hi, rfl⟩ := List.mem_map.1 hx
  have := ((cont_upTo hb).1 c).2 (qp ps hb i) (List.mem_map.2 ⟨i, List.mem_range.2 (by have := List.mem_range.1 hi; omega), rfl⟩)
  omega
end Go.Proofs.YtooochbfnmmnkaaGreat
namespace Go.Proofs.YtooochbfnmmnkaaGreat
open Go.RowKit Go.Proofs.Gn Go.Shelf
attribute [local go_sem] Oper.semAt_some
end Go.Proofs.YtooochbfnmmnkaaGreat
namespace Go.Proofs.YtooochbfnmmnkaaGreat
open Go.RowKit Go.Proofs.Gn
/-- What compare returns. -/
def cmp2 (ax ay bx b_y : Int) : Int := if cmpV ax bx = 0 then cmpV ay b_y else cmpV ax bx
theorem c_Or {b off : Nat} {x y : Int} (w : World) (h0 : w.cell? ⟨b, off, none⟩ = some (.int .i64 x)) (h1 : w.cell? ⟨b, off + 1, none⟩ = some (.int .i64 y)) :
    Calls Tryz.prog 99 #[.slice (some ⟨b, off, none⟩) 2 2] w fun e w' => e = .returned (.int .i64 (if x = 0 then y else x)) ∧ w = w' := by
  by_cases hx : x = 0
  · subst hx
    by_cases hy : y = 0
    · subst hy
      go_enter Tryz.func99, Tryz.ntmps99
      go_wp2
      go_rounds 3
      go_ret
      exact ⟨rfl, rfl⟩
    · have e1 : (y == 0) = false := by simp; exact hy
      go_enter Tryz.func99, Tryz.ntmps99
      go_wp2
      go_rounds 2
      go_ret
      exact ⟨rfl, rfl⟩
  · have e1 : (x == 0) = false := by simp; exact hx
    rw [if_neg hx]
    go_enter Tryz.func99, Tryz.ntmps99
    go_wp2
    go_rounds 1
    go_ret
    exact ⟨rfl, rfl⟩

/-- New blocks and draws, and nothing else. -/
def Gr (w w' : World) : Prop := ∃ q os, w' = Go.Sort.grow (w.drewN q) os
theorem gr_refl (w : World) : Gr w w := ⟨0, #[], by simp [Go.Sort.grow, World.drewN]⟩
theorem gr_alloc {a b : World} (h : Gr a b) (o : Obj) : Gr a (b.alloc o) := by
  obtain ⟨q, os, rfl⟩ := h
  exact ⟨q, os ++ #[o], by rw [Go.Sort.alloc_eq_grow, Go.Sort.grow_grow]⟩
theorem gr_drew {a b : World} (h : Gr a b) : Gr a b.drew := by
  obtain ⟨q, os, rfl⟩ := h
  exact ⟨q + 1, os, rfl⟩
theorem gr_up {a b : World} (h : Gr a b) : Up a b := by
  obtain ⟨q, os, rfl⟩ := h
  refine ⟨rfl, rfl, rfl, by simp, fun k hk => ?_⟩
  simp [Go.Sort.grow, Array.getElem?_append, hk]
theorem gr_cell {a b : World} (h : Gr a b) {p : Addr} {v : Value} (hc : a.cell? p = some v) : b.cell? p = some v := up_cell (gr_up h) hc
theorem gr_trans {a b c : World} (h : Gr a b) (k : Gr b c) : Gr a c := by
  obtain ⟨q, os, rfl⟩ := h
  obtain ⟨q', os', rfl⟩ := k
  exact ⟨q + q', os ++ os', by simp [Go.Sort.grow, World.drewN, Nat.add_assoc]⟩
set_option maxHeartbeats 1000000 in
theorem p_compareG (ax ay bx b_y : Int) (w : World) :
    Calls Tryz.prog 75 #[pt ax ay, pt bx b_y] w fun e w' => e = .returned (.int .i64 (cmp2 ax ay bx b_y)) ∧ Gr w w' := by
  obtain ⟨X, hX⟩ : ∃ X, cmpV ax bx = X := ⟨_, rfl⟩
  obtain ⟨Y, hY⟩ : ∃ X, cmpV ay b_y = X := ⟨_, rfl⟩
  unfold cmp2
  rw [hX, hY]
  have CX : ∀ W : World, Calls Tryz.prog 55 #[.int .i64 ax, .int .i64 bx] W fun e w' => e = .returned (.int .i64 X) ∧ W = w' := fun W => by rw [← hX]; exact c_Compare ax bx W
  have CY : ∀ W : World, Calls Tryz.prog 55 #[.int .i64 ay, .int .i64 b_y] W fun e w' => e = .returned (.int .i64 Y) ∧ W = w' := fun W => by rw [← hY]; exact c_Compare ay b_y W
  obtain ⟨Z, hZ⟩ : ∃ Z, (if X = 0 then Y else X) = Z := ⟨_, rfl⟩
  rw [hZ]
  have CO : ∀ (W : World) (b : Nat), W.cell? ⟨b, 0, none⟩ = some (.int .i64 X) → W.cell? ⟨b, 1, none⟩ = some (.int .i64 Y) → Calls Tryz.prog 99 #[.slice (some ⟨b, 0, none⟩) 2 2] W fun e w' => e = .returned (.int .i64 Z) ∧ W = w' := fun W b h0 h1 => by rw [← hZ]; exact c_Or W h0 h1
  have HCX := hide CX
  have HCY := hide CY
  have HCO := hide CO
  clear CX CY CO hX hY hZ
  go_enter Tryz.func75, Tryz.ntmps75
  go_wp2
  obtain ⟨W, hW⟩ : ∃ W : World, W = ((w.alloc (Obj.cells #[Value.int IntKind.i64 ax, Value.int IntKind.i64 ay] 43)).alloc (Obj.cells #[Value.int IntKind.i64 bx, Value.int IntKind.i64 b_y] 43)) := ⟨_, rfl⟩
  rw [← hW]
  have c1 : W.cell? ⟨w.heap.size, 0, none⟩ = some (.int .i64 ax) := by rw [hW]; go_cell
  have c2 : W.cell? ⟨w.heap.size, 1, none⟩ = some (.int .i64 ay) := by rw [hW]; go_cell
  have c3 : W.cell? ⟨w.heap.size + 1, 0, none⟩ = some (.int .i64 bx) := by rw [hW]; go_cell
  have c4 : W.cell? ⟨w.heap.size + 1, 1, none⟩ = some (.int .i64 b_y) := by rw [hW]; go_cell
  have c5 : Gr w W := by rw [hW]; exact gr_alloc (gr_alloc (gr_refl _) _) _
  clear hW
  go_region_held3 (fun wx => wx.cell? ⟨w.heap.size, 0, none⟩ = some (.int .i64 ax) ∧ wx.cell? ⟨w.heap.size, 1, none⟩ = some (.int .i64 ay) ∧ wx.cell? ⟨w.heap.size + 1, 0, none⟩ = some (.int .i64 bx) ∧ wx.cell? ⟨w.heap.size + 1, 1, none⟩ = some (.int .i64 b_y) ∧ Gr w wx)
    ((first | exact ⟨c1, c2, c3, c4, gr_drew c5⟩ | exact ⟨alloc_cell _ c1, alloc_cell _ c2, alloc_cell _ c3, alloc_cell _ c4, gr_drew (gr_alloc c5 _)⟩ | (with_reducible assumption)))
    (first | (go_at_call 55; (with_reducible refine (unhide HCX _).mono ?_); rintro e w1 ⟨rfl, rfl⟩) | (go_at_call 55; (with_reducible refine (unhide HCY _).mono ?_); rintro e w1 ⟨rfl, rfl⟩) | (go_at_call 99; (with_reducible refine (unhide HCO _ _ (by go_cell) (by go_cell)).mono ?_); rintro e w2 ⟨rfl, rfl⟩))
  all_goals go_wp2
  all_goals go_ret
  all_goals exact ⟨rfl, gr_drew (gr_alloc c5 _)⟩
theorem cmpV_neg (a b : Int) : cmpV a b < 0 ↔ a < b := by unfold cmpV; split; simp_all; split <;> simp_all
theorem cmpV_zero (a b : Int) : cmpV a b = 0 ↔ a = b := by unfold cmpV; split; omega; split <;> omega
theorem cmp2_neg (a b : Int × Int) : cmp2 a.1 a.2 b.1 b.2 < 0 ↔ Gx.lt2 a b := by
  unfold cmp2 Gx.lt2
  have h1 := cmpV_neg a.1 b.1
  have h2 := cmpV_neg a.2 b.2
  have h3 := cmpV_zero a.1 b.1
  split <;> omega
theorem cmp2_pos (a b : Int × Int) : 0 < cmp2 a.1 a.2 b.1 b.2 ↔ Gx.lt2 b a := by
  unfold cmp2 Gx.lt2 cmpV
  split <;> split <;> (try split) <;> (try split) <;> omega
theorem p_compare (ax ay bx b_y : Int) (w : World) :
    Calls Tryz.prog 75 #[pt ax ay, pt bx b_y] w fun e w' => e = .returned (.int .i64 (cmp2 ax ay bx b_y)) ∧ Up w w' :=
  (p_compareG ax ay bx b_y w).mono fun _ _ ⟨he, hw⟩ => ⟨he, gr_up hw⟩
end Go.Proofs.YtooochbfnmmnkaaGreat
namespace Go.Proofs.YtooochbfnmmnkaaGreat
open Go.RowKit Go.Proofs.Gn Go.Shelf Go.Sort
def encP (x : Int × Int) : List Value := [.int .i64 x.1, .int .i64 x.2]
theorem flatK_encP (ps : Pl) : (flatK encP 2 ps.toArray).toList = cellsPl ps := by
  apply List.ext_getElem?
  intro i
  rcases Nat.lt_or_ge i (ps.length * 2) with h | h
  · have hs : (flatK encP 2 ps.toArray).size = ps.length * 2 := by simp
    have hg := get_flatK encP 2 ps.toArray i (by simpa using h)
    rw [getElem!_pos _ i (by rw [hs]; exact h)] at hg
    rw [Array.getElem?_toList, Array.getElem?_eq_getElem (by rw [hs]; exact h), hg]
    have hk : i / 2 < ps.length := by omega
    have c := cellsPl_at hk
    have ee : (ps.toArray)[i / 2]! = ps[i / 2] := by rw [getElem!_pos _ _ (by simpa using hk)]; simp
    rw [ee]
    rcases Nat.mod_two_eq_zero_or_one i with m | m
    · rw [m]
      have e : i = i / 2 * 2 := by omega
      rw [← e] at c
      rw [c.1]; rfl
    · rw [m]
      have e : i = i / 2 * 2 + 1 := by omega
      have c2 := c.2
      rw [← e] at c2
      rw [c2]; rfl
  · rw [List.getElem?_eq_none (by simp; omega), List.getElem?_eq_none (by rw [cellsPl_length]; omega)]
theorem own_holds {W : World} {base e n cap g : Nat} {ps : Pl} (h : W.ownsRow base e 2 (.slice (some ⟨g, 0, none⟩) n cap) n (cellsPl ps)) : HoldsK encP 2 W g 0 ps.toArray := by
  intro j hj
  have hl : (cellsPl ps).length = n * 2 := h.1
  have hl2 := hl
  rw [cellsPl_length] at hl2
  have hj2 : j < n * 2 := by simp at hj; omega
  rw [Nat.zero_add, h.cellAt j hj2, h.frozenAt j]
  refine ⟨?_, rfl⟩
  rw [getElem!_pos _ j hj, id, ← flatK_encP, Array.getElem?_toList, Array.getElem?_eq_getElem hj]
/-- Other points of the same number laid into the row. -/
theorem own_put {W : World} {base e n cap g m : Nat} {ps qs : Pl} {os : Array Obj} (h : W.ownsRow base e 2 (.slice (some ⟨g, 0, none⟩) n cap) n (cellsPl ps)) (hq : qs.length = ps.length) :
    (grow (putRowK encP 2 (Go.Sort.ahead W m) g 0 qs.toArray) os).ownsRow base e 2 (.slice (some ⟨g, 0, none⟩) n cap) n (cellsPl qs) := by
  have hn := own_len h
  rcases h with ⟨hl, h | ⟨g', cap', cur, e1, hb, hg, h1, h2, h3, h4⟩⟩
  · simp at h
  · simp only [Value.slice.injEq, Option.some.injEq, Addr.mk.injEq, and_true, true_and] at e1
    obtain ⟨rfl, rfl⟩ := e1
    have hlt : g < W.heap.size := (Array.getElem?_eq_some_iff.1 hg).1
    refine ⟨by rw [cellsPl_length]; omega, .inr ⟨g, cap, putCells id 0 (flatK encP 2 qs.toArray) cur, rfl, hb, ?_, h1, h2, by simp [putCells, h3], ?_⟩⟩
    · unfold grow putRowK putRow mapBlock
      simp only [Array.getElem?_append, Array.size_modify]
      have hlt2 : g < (Go.Sort.ahead W m).heap.size := hlt
      rw [if_pos hlt2]
      have hh : (Go.Sort.ahead W m).heap[g]? = some (.cells cur e (0, 0)) := hg
      rw [Array.getElem?_modify, if_pos rfl, hh]
      rfl
    · have hs : (flatK encP 2 qs.toArray).size = n * 2 := by simp [hq, hn]
      rw [← flatK_encP]
      apply List.ext_getElem?
      intro i
      have hcs : n * 2 ≤ cur.size := by rw [h3]; exact Nat.mul_le_mul_right _ h1
      rcases Nat.lt_or_ge i (n * 2) with k | k
      · rw [List.getElem?_take, if_pos k, Array.getElem?_toList]
        unfold putCells
        rw [Array.getElem?_mapIdx, Array.getElem?_eq_getElem (by omega)]
        simp only [Option.map_some, hs]
        rw [if_pos ⟨Nat.zero_le _, by omega⟩, Array.getElem?_toList, Array.getElem?_eq_getElem (by rw [hs]; exact k), Nat.sub_zero, getElem!_pos _ i (by rw [hs]; exact k)]
        rfl
      · rw [List.getElem?_take, if_neg (by omega), List.getElem?_eq_none (by simp at hs ⊢; omega)]
theorem below_put {W : World} {B g m : Nat} {qs : Pl} {os : Array Obj} (hg : B ≤ g) (hB : B ≤ W.heap.size) : Go.RowKit.Below B W (grow (putRowK encP 2 (Go.Sort.ahead W m) g 0 qs.toArray) os) := by
  refine ⟨rfl, rfl, rfl, by simp [putRowK, Go.Sort.ahead], fun k hk => ?_⟩
  unfold grow putRowK putRow mapBlock
  simp only [Array.getElem?_append, Array.size_modify]
  have : k < (Go.Sort.ahead W m).heap.size := by show k < W.heap.size; omega
  rw [if_pos this, Array.getElem?_modify, if_neg (by omega)]
  rfl
/-! ### Sorting -/
theorem swoP : SWO (ltOf fun a b : Int × Int => cmp2 a.1 a.2 b.1 b.2) where
  irrefl x := by unfold ltOf; rw [decide_eq_false_iff_not, cmp2_neg]; exact Gx.lt2_irrefl x
  trans x y z h1 h2 := by
    unfold ltOf at *
    rw [decide_eq_true_eq, cmp2_neg] at *
    exact Gx.lt2_trans h1 h2
  ntrans x y z h1 h2 := by
    unfold ltOf at *
    rw [decide_eq_false_iff_not, cmp2_neg] at *
    intro h
    rcases Gx.lt2_tri y x with k | k | k
    · exact h2 (Gx.lt2_trans k h)
    · subst k; exact h2 h
    · exact h1 k
theorem cmpLaysP (blk off size : Nat) (w : World) : CmpLays Tryz.prog 75 #[] encP 2 (fun a b : Int × Int => cmp2 a.1 a.2 b.1 b.2) blk off size w :=
  fun _ _ _ _ x y => (p_compareG x.1 x.2 y.1 y.2 _).mono fun _ _ ⟨he, hg⟩ => ⟨he, hg⟩
theorem encP_one : ∀ x, ∀ v ∈ encP x, v.oneCell' = true := fun x v hv => by simp [encP] at hv; rcases hv with rfl | rfl <;> rfl
theorem p_sort {B n cap g : Nat} {ps : Pl} (W : World) (h : W.ownsRow B 43 2 (.slice (some ⟨g, 0, none⟩) n cap) n (cellsPl ps)) (hB : B ≤ W.heap.size) (hg : B ≤ g) (hgl : g < W.heap.size) (hn : n ≤ 70000) :
    Calls Tryz.prog 74 #[.slice (some ⟨g, 0, none⟩) n cap, .func (.func 75) #[] #[]] W fun e w' => e = .returned (.tuple #[]) ∧
      ∃ qs : Pl, qs.Perm ps ∧ qs.Pairwise Gx.le2 ∧ w'.ownsRow B 43 2 (.slice (some ⟨g, 0, none⟩) n cap) n (cellsPl qs) ∧ Go.RowKit.Below B W w' := by
  have eg : ∀ args w, (callFunc 75 args).run Tryz.prog w = .ok (.enter 75 args) w := enters_of Tryz.func75 (by kernel_rfl) rfl
  have hln := own_len h
  have hcon := AnyQ.slices_SortFunc Tryz.sortP 2 Tryz.isAgg43 Tryz.sizeOf43 encP (fun _ => rfl) encP_one (fun a b : Int × Int => cmp2 a.1 a.2 b.1 b.2) swoP 75 #[] g 0 cap ps.toArray W eg (cmpLaysP g 0 _ W) (own_holds h) hgl (by simp; omega)
  change Calls Tryz.prog 74 _ _ _ at hcon
  have e1 : (ps.toArray).size = n := by simp [hln]
  rw [e1] at hcon
  refine hcon.mono fun e w' ⟨he, d', m, os, hp, hs, hw⟩ => ⟨he, d'.toList, ?_, ?_, ?_, ?_⟩
  · obtain ⟨h1, _, h3⟩ := hp
    have h1' : d'.size = n := by rw [h1, e1]
    rw [← h1'] at h3
    simp only [Array.extract_size] at h3
    have : (ps.toArray).extract 0 d'.size = ps.toArray := by rw [h1', ← e1, Array.extract_size]
    rw [this] at h3
    simpa using h3
  · have h1' : d'.size = n := by rw [hp.1, e1]
    rw [List.pairwise_iff_getElem]
    intro i j hi hj hij
    have k := hs i j (Nat.zero_le _) hij (by simp at hj; omega)
    rw [getElem!_pos d' i (by simpa using hi), getElem!_pos d' j (by simpa using hj)] at k
    unfold ltOf at k
    rw [decide_eq_false_iff_not, cmp2_neg] at k
    simp only [Array.getElem_toList]
    rcases Gx.lt2_tri d'[i] d'[j] with t | t | t
    · exact .inr t
    · exact .inl t
    · exact absurd t k
  · have h1' : d'.toList.length = ps.length := by have := hp.1; simp at this ⊢; omega
    have := own_put (m := m) (os := os) h h1'
    rw [Array.toArray_toList] at this
    rw [hw]; exact this
  · have := below_put (W := W) (m := m) (qs := d'.toList) (os := os) hg hB
    rw [Array.toArray_toList] at this
    rw [hw]; exact this
theorem p_reverse {B n cap g : Nat} {ps : Pl} (W : World) (h : W.ownsRow B 43 2 (.slice (some ⟨g, 0, none⟩) n cap) n (cellsPl ps)) (hB : B ≤ W.heap.size) (hg : B ≤ g) (hn : n ≤ 70000) :
    Calls Tryz.prog 78 #[.slice (some ⟨g, 0, none⟩) n cap] W fun e w' => e = .returned (.tuple #[]) ∧
      w'.ownsRow B 43 2 (.slice (some ⟨g, 0, none⟩) n cap) n (cellsPl ps.reverse) ∧ Go.RowKit.Below B W w' ∧ W.grownBy w' (some g) := by
  have hln := own_len h
  have hcon := AnyQ.slices_Reverse Tryz.revP 2 Tryz.isAgg43 Tryz.sizeOf43 encP (fun _ => rfl) encP_one g 0 cap ps.toArray W (own_holds h) (by simp; omega)
  change Calls Tryz.prog 78 _ _ _ at hcon
  have e1 : (ps.toArray).size = n := by simp [hln]
  rw [e1] at hcon
  refine hcon.mono fun e w' ⟨he, m, hw⟩ => ⟨he, ?_, ?_, ?_⟩
  · have := own_put (m := m) (os := #[]) (qs := ps.reverse) h (by simp)
    rw [grow_empty] at this
    rw [hw]; simpa using this
  · have := below_put (W := W) (m := m) (qs := ps.reverse) (os := #[]) hg hB
    rw [grow_empty] at this
    rw [hw]; simpa using this
  · rw [hw]
    refine ⟨rfl, rfl, rfl, by simp [putRowK, Go.Sort.ahead], fun k hk hne => ?_⟩
    unfold putRowK putRow mapBlock
    have : g ≠ k := fun e => hne (by rw [e])
    simp only [Array.getElem?_modify]
    rw [if_neg this]
    rfl
theorem cells_at {w : World} {b off : Nat} {ps : Pl} (hc : ∀ k (h : k < ps.length), w.cell? ⟨b, off + k * 2, none⟩ = some (.int .i64 ps[k].1) ∧ w.cell? ⟨b, off + k * 2 + 1, none⟩ = some (.int .i64 ps[k].2)) :
    ∀ j u, (cellsPl ps)[j]? = some u → w.cell? ⟨b, off + j, none⟩ = some u := by
  intro j u hj
  have hl : j < ps.length * 2 := by rw [← cellsPl_length]; exact (List.getElem?_eq_some_iff.1 hj).1
  have hk : j / 2 < ps.length := by omega
  have c := cellsPl_at hk
  have d := hc _ hk
  rcases Nat.mod_two_eq_zero_or_one j with m | m
  · have e : j = j / 2 * 2 := by omega
    rw [← e] at c d
    rw [c.1] at hj
    rw [d.1, ← hj]
  · have e : j / 2 * 2 + 1 = j := by omega
    have c2 := c.2
    have d2 := d.2
    rw [Nat.add_assoc, e] at d2
    rw [e] at c2
    rw [c2] at hj
    rw [d2, ← hj]
theorem cellsPl_one (ps : Pl) : ∀ u ∈ cellsPl ps, u.oneCell' = true := by
  intro u hu
  simp only [cellsPl, List.mem_flatMap] at hu
  obtain ⟨p, _, hp⟩ := hu
  exact encP_one p u hp
theorem p_clone (A : Option Addr) (ps : Pl) (cap : Nat) (W : World) (h : Pts W A ps) (h0 : 0 < ps.length) (hn : ps.length ≤ 70000) :
    Calls Tryz.prog 73 #[.slice A ps.length cap] W fun e w' => ∃ v, e = .returned v ∧ w'.ownsRow W.heap.size 43 2 v ps.length (cellsPl ps) ∧ Go.RowKit.Below W.heap.size W w' := by
  rcases h with rfl | ⟨b, off, rfl, hc⟩
  · simp at h0
  obtain ⟨i0, hi, hz0, hz1, hz2⟩ := info_parts info_pt
  have hcon := AnyE.slices_Clone Tryz.cloneP i0 _ 2 16 hi hz0 hz1 hz2 rfl (by decide) Tryz.sizeOf43 b off ps.length cap (cellsPl ps) W (cellsPl_length ps) (by unfold maxLen; omega) (by omega) (cells_at hc) (cellsPl_one ps)
  change Calls Tryz.prog 73 _ _ _ at hcon
  exact hcon.mono fun e w' ⟨v, he, ho, _, hb⟩ => ⟨v, he, ho, hb⟩
end Go.Proofs.YtooochbfnmmnkaaGreat
namespace Go.Proofs.YtooochbfnmmnkaaGreat
open Go.RowKit Go.Proofs.Gn
open Gx (dedup)
theorem dedup_snoc : ∀ (l : Pl) (a b : Int × Int), dedup (l ++ [a, b]) = if a = b then dedup (l ++ [a]) else dedup (l ++ [a]) ++ [b] := by
  intro l
  induction l with
  | nil =>
    intro a b
    simp only [List.nil_append, dedup]
    split
    · rename_i h; subst h; rfl
    · rfl
  | cons x l ih =>
    intro a b
    match l, ih with
    | [], ih =>
      have := ih a b
      simp only [List.nil_append] at this
      simp only [List.cons_append, List.nil_append]
      unfold dedup
      split
      · rename_i h
        subst h
        exact this
      · rw [this]
        split
        · rfl
        · rfl
    | y :: l, ih =>
      have := ih a b
      simp only [List.cons_append] at this ⊢
      conv => lhs; unfold dedup
      conv => rhs; unfold dedup
      split
      · exact this
      · rw [this]
        split <;> rfl
theorem dedup_take {ps : Pl} {k : Nat} (h0 : 0 < k) (h : k < ps.length) : dedup (ps.take (k + 1)) = if Gx.g ps (k - 1) = Gx.g ps k then dedup (ps.take k) else dedup (ps.take k) ++ [Gx.g ps k] := by
  obtain ⟨j, rfl⟩ : ∃ j, k = j + 1 := ⟨k - 1, by omega⟩
  have e1 : ps.take (j + 1 + 1) = ps.take j ++ [ps[j], ps[j + 1]] := by
    rw [List.take_succ_eq_append_getElem h, List.take_succ_eq_append_getElem (by omega), List.append_assoc]; rfl
  have e2 : ps.take (j + 1) = ps.take j ++ [ps[j]] := by rw [List.take_succ_eq_append_getElem (by omega)]
  rw [e1, dedup_snoc, Gx.g_eq h, Nat.add_sub_cancel, Gx.g_eq (by omega), e2]
theorem dedup_len : ∀ l : Pl, (dedup l).length ≤ l.length := by
  intro l
  induction l with
  | nil => exact Nat.le_refl _
  | cons a l ih =>
    match l, ih with
    | [], _ => exact Nat.le_refl _
    | b :: t, ih =>
      unfold dedup
      split
      · exact Nat.le_trans ih (by simp)
      · simp only [List.length_cons] at ih ⊢; omega
/-- Where the library stands behind the first equal neighbours: d points are kept of the first k + j. -/
def Inn (B : Nat) (W : World) (n k : Nat) (ps : Pl) (g cap : Nat) (wx : World) (d j : Nat) : Prop :=
  ∃ cur : Pl, d = (dedup (ps.take (k + j))).length ∧ d + 1 ≤ k + j ∧ cur.take d = dedup (ps.take (k + j)) ∧ (∀ t, k + j ≤ t + 1 → t < n → Gx.g cur t = Gx.g ps t) ∧
    wx.ownsRow B 43 2 (.slice (some ⟨g, 0, none⟩) n cap) n (cellsPl cur) ∧ Below B W wx
theorem cellsPl_set2 {ps : Pl} {k : Nat} (h : k < ps.length) (x y : Int) : ((cellsPl ps).set (k * 2) (.int .i64 x)).set (k * 2 + 1) (.int .i64 y) = cellsPl (ps.set k (x, y)) := by
  induction ps generalizing k with
  | nil => simp at h
  | cons p ps ih =>
    cases k with
    | zero => rfl
    | succ k =>
      have := ih (k := k) (by simpa using h)
      rw [show (k + 1) * 2 = k * 2 + 2 by omega, show k * 2 + 2 + 1 = k * 2 + 1 + 2 by omega]
      show .int .i64 p.1 :: .int .i64 p.2 :: ((cellsPl ps).set (k * 2) (.int .i64 x)).set (k * 2 + 1) (.int .i64 y) = _
      rw [this]
      rfl
theorem g_set_ne {l : Pl} {i j : Nat} {x : Int × Int} (h : i ≠ j) : Gx.g (l.set i x) j = Gx.g l j := by
  unfold Gx.g
  rw [List.getD_eq_getElem?_getD, List.getD_eq_getElem?_getD, List.getElem?_set_ne h]
theorem inn_same {B : Nat} {W : World} {n k : Nat} {ps : Pl} {g cap : Nat} {wx w' : World} {d j : Nat} (h : Inn B W n k ps g cap wx d j) (e : dedup (ps.take (k + j + 1)) = dedup (ps.take (k + j))) (hu : Up wx w') (hB : B ≤ W.heap.size) : Inn B W n k ps g cap w' d (j + 1) := by
  obtain ⟨cur, f1, f2, f3, f4, f5, f6⟩ := h
  exact ⟨cur, by rw [← Nat.add_assoc, e]; exact f1, by omega, by rw [← Nat.add_assoc, e]; exact f3, fun t h1 h2 => f4 t (by omega) h2, own_up f5 hu, below_up f6 hB hu⟩
theorem inn_step {B : Nat} {W : World} {n k : Nat} {ps : Pl} {g cap : Nat} {wx w' : World} {d j : Nat} {x y : Int} (h : Inn B W n k ps g cap wx d j) (e : dedup (ps.take (k + j + 1)) = dedup (ps.take (k + j)) ++ [(x, y)]) (hu : Up wx w') (hB : B ≤ W.heap.size) (hg : B ≤ g) (hkj : k + j < n) :
    Inn B W n k ps g cap ((w'.setCell ⟨g, d * 2, none⟩ (.int .i64 x)).setCell ⟨g, d * 2 + 1, none⟩ (.int .i64 y)) (d + 1) (j + 1) := by
  obtain ⟨cur, f1, f2, f3, f4, f5, f6⟩ := h
  have hl := own_len f5
  have f5' := own_up f5 hu
  have s1 := ((f5'.stored (d * 2) (.int .i64 x)).1.stored (d * 2 + 1) (.int .i64 y)).1
  rw [cellsPl_set2 (by omega)] at s1
  refine ⟨cur.set d (x, y), by rw [← Nat.add_assoc, e, List.length_append, ← f1]; rfl, by omega, ?_, fun t h1 h2 => ?_, s1, ?_⟩
  · rw [← Nat.add_assoc, e, ← f3, List.take_succ_eq_append_getElem (by simp; omega), List.take_set, List.set_eq_of_length_le (by rw [List.length_take]; omega)]
    simp
  · rw [g_set_ne (by omega)]
    exact f4 t (by omega) h2
  · exact ((below_up f6 hB hu).setCell hg _).setCell hg _
theorem own_setCells {B T d cap g : Nat} {xs : List Value} : ∀ (vs : List Value) (W : World) (o : Nat), W.ownsRow B T 2 (.slice (some ⟨g, 0, none⟩) d cap) d xs → d * 2 ≤ o → B ≤ g →
    (W.setCells g o vs).ownsRow B T 2 (.slice (some ⟨g, 0, none⟩) d cap) d xs ∧ Below B W (W.setCells g o vs) := by
  intro vs
  induction vs with
  | nil => intro W o h _ _; exact ⟨h, Below.refl _ _⟩
  | cons v r ih =>
    intro W o h ho hg
    have s1 := (h.stored o v).1
    rw [List.set_eq_of_length_le (by rw [h.1]; exact ho)] at s1
    have := ih _ (o + 1) s1 (by omega) hg
    exact ⟨this.1, ((Below.refl B W).setCell (p := ⟨g, o, none⟩) hg v).trans this.2⟩
theorem run_clear_pts (W : World) (ty : TypeId) (b o n c : Nat) (hn : 0 < n) (hc : ∀ j, j < n * 2 → (W.cell? ⟨b, o + j, none⟩).isSome = true) (hf : ∀ j, j < n * 2 → W.frozen? ⟨b, o + j, none⟩ = false) :
    ∃ vs, (Builtin.clear_ #[67] ty #[.slice (some ⟨b, o, none⟩) n c]).run Tryz.prog W = .ok (.tuple #[]) (W.setCells b o vs) := by
  have hz : ∀ v ∈ (Builtin.zeroCells (Value.agg #[Value.int IntKind.i64 0, Value.int IntKind.i64 0]).cells n).toList, v.oneCell' = true := by
    intro v hv
    simp only [Builtin.zeroCells, Array.mem_toList_iff, Array.mem_map, Array.mem_range] at hv
    obtain ⟨i, hi, rfl⟩ := hv
    have : i % (Value.agg #[Value.int IntKind.i64 0, Value.int IntKind.i64 0]).cells.size < 2 := Nat.mod_lt _ (by decide)
    generalize i % (Value.agg #[Value.int IntKind.i64 0, Value.int IntKind.i64 0]).cells.size = r at this ⊢
    match r, this with
    | 0, _ => rfl
    | 1, _ => rfl
  have hl : (Builtin.zeroCells (Value.agg #[Value.int IntKind.i64 0, Value.int IntKind.i64 0]).cells n).toList.length = n * 2 := by
    rw [Array.length_toList, size_zeroCells]; rfl
  refine ⟨(Builtin.zeroCells (Value.agg #[Value.int IntKind.i64 0, Value.int IntKind.i64 0]).cells n).toList, ?_⟩
  have hst := run_storeCells_cells (P := Tryz.prog) b o (Builtin.zeroCells (Value.agg #[Value.int IntKind.i64 0, Value.int IntKind.i64 0]).cells n).toList 0 W (by rw [hl]; simpa using hc) (by rw [hl]; simpa using hf) hz
  rw [Nat.add_zero] at hst
  obtain ⟨m, rfl⟩ : ∃ m, n = m + 1 := ⟨n - 1, by omega⟩
  simp [Builtin.clear_, run_underlying Tryz.underlying67, Tryz.zeroValue43, hst]
theorem p_compact1 {cap g : Nat} (W : World) :
    Calls Tryz.prog 76 #[.slice (some ⟨g, 0, none⟩) 1 cap] W fun e w' => e = .returned (.slice (some ⟨g, 0, none⟩) 1 cap) ∧ W = w' := by
  go_enter Tryz.func76, Tryz.ntmps76
  go_wp2
  go_ret
  exact ⟨rfl, rfl⟩
set_option maxRecDepth 100000 in
set_option maxHeartbeats 2000000 in
theorem p_compact {B n cap g : Nat} {ps : Pl} (W : World) (h : W.ownsRow B 43 2 (.slice (some ⟨g, 0, none⟩) n cap) n (cellsPl ps)) (hB : B ≤ W.heap.size) (hg : B ≤ g) (h2 : 2 ≤ n) (hn : n ≤ 70000) (hcap : n ≤ cap) (hcap2 : cap ≤ 9223372036854775807) :
    Calls Tryz.prog 76 #[.slice (some ⟨g, 0, none⟩) n cap] W fun e w' => e = .returned (.slice (some ⟨g, 0, none⟩) (dedup ps).length cap) ∧
      w'.ownsRow B 43 2 (.slice (some ⟨g, 0, none⟩) (dedup ps).length cap) (dedup ps).length (cellsPl (dedup ps)) ∧ Below B W w' := by
  have hln := own_len h
  have HO := hide h
  have HLN := hide hln
  clear h hln
  have g1 : (2 : Int) ≤ (n : Int) := by omega
  go_enter Tryz.func76, Tryz.ntmps76
  go_wp2_with fail
  go_loopw [3] (fun i wr => ∃ k : Nat, 1 ≤ k ∧ k ≤ n ∧ i = .int .i64 k ∧ Up W wr ∧ dedup (ps.take k) = ps.take k) (fun i _ => n - (intOf i).toNat)
  case atStart => exact ⟨1, by omega, by omega, rfl, up_refl _, by
    match ps with
    | [] => rfl
    | a :: t => rfl⟩
  case round =>
    obtain ⟨k, k1, kn, rfl, hu, hd⟩ := hrel
    by_cases hlt : k < n
    · have hl : k < ps.length := by rw [← unhide HLN]; exact hlt
      have hc := own_cells (own_up (unhide HO) hu)
      obtain ⟨a0, a1⟩ := pts_g hc (k := k - 1) (by omega)
      obtain ⟨b0, b1⟩ := pts_g hc (k := k) hl
      have hdt := dedup_take k1 hl
      have ht : ps.take k ++ [Gx.g ps k] = ps.take (k + 1) := by rw [List.take_succ_eq_append_getElem hl, Gx.g_eq hl]
      obtain ⟨P, hP⟩ : ∃ P, Gx.g ps (k - 1) = P := ⟨_, rfl⟩
      obtain ⟨Q, hQ⟩ : ∃ Q, Gx.g ps k = Q := ⟨_, rfl⟩
      rw [hP] at a0 a1 hdt
      rw [hQ] at b0 b1 hdt ht
      obtain ⟨p1, p2⟩ := P
      obtain ⟨q1, q2⟩ := Q
      simp only [Nat.zero_add] at a0 a1 b0 b1
      have HD := hide hd
      have HDT := hide hdt
      have HT := hide ht
      have j1 : IntKind.i64.wrap ((k : Int) - 1) = ((k - 1 : Nat) : Int) := by rw [IntWalk.i64_in _ ⟨by omega, by omega⟩]; omega
      have j2 : (k : Int) < (n : Int) := by omega
      have j3 : ((k - 1 : Nat) : Int) < (n : Int) := by omega
      clear hc hP hQ hd hdt ht
      have hcase : (q1 == p1) = false ∨ (q1 = p1 ∧ (q2 == p2) = false) ∨ (q1 = p1 ∧ q2 = p2) := by
        by_cases c1 : q1 = p1
        · by_cases c2 : q2 = p2
          · exact .inr (.inr ⟨c1, c2⟩)
          · exact .inr (.inl ⟨c1, by simpa using c2⟩)
        · exact .inl (by simpa using c1)
      rcases hcase with c | ⟨rfl, c⟩ | ⟨rfl, rfl⟩
      · have hd2 : dedup (ps.take (k + 1)) = ps.take (k + 1) := by
          rw [unhide HDT, if_neg (by intro e; simp at e; simp [e.1] at c), unhide HD, unhide HT]
        have HD2 := hide hd2
        clear hd2
        go_wp2_with fail
        go_quiet (fail)
        go_wp2_with fail
        go_roundw
        case rel => exact ⟨k + 1, by omega, by omega, by go_num, (by repeat' (first | (with_reducible exact up_refl _) | (with_reducible assumption) | (with_reducible refine up_alloc ?_ _) | (with_reducible refine up_drewN ?_ _) | (with_reducible refine up_drew ?_) | (with_reducible refine up_set ?_ (by first | (simp; done) | (simp; omega) | omega) _) | (refine up_trans ?_ (by with_reducible assumption)))), unhide HD2⟩
        case measure => simp [intOf]; omega
      · have hd2 : dedup (ps.take (k + 1)) = ps.take (k + 1) := by
          rw [unhide HDT, if_neg (by intro e; simp at e; simp [e] at c), unhide HD, unhide HT]
        have HD2 := hide hd2
        clear hd2
        go_wp2_with fail
        go_quiet (fail)
        go_wp2_with fail
        go_roundw
        case rel => exact ⟨k + 1, by omega, by omega, by go_num, (by repeat' (first | (with_reducible exact up_refl _) | (with_reducible assumption) | (with_reducible refine up_alloc ?_ _) | (with_reducible refine up_drewN ?_ _) | (with_reducible refine up_drew ?_) | (with_reducible refine up_set ?_ (by first | (simp; done) | (simp; omega) | omega) _) | (refine up_trans ?_ (by with_reducible assumption)))), unhide HD2⟩
        case measure => simp [intOf]; omega
      · have hd2 : dedup (ps.take (k + 1)) = ps.take k := by
          have := unhide HDT
          simp only [if_true] at this
          rw [this, unhide HD]
        have hlk : (ps.take k).length = k := by rw [List.length_take, ← unhide HLN]; omega
        go_wp2_with fail
        go_quiet (fail)
        go_wp2_with fail
        obtain ⟨L, hL⟩ : ∃ L, n - k = L := ⟨_, rfl⟩
        rw [hL]
        obtain ⟨wo, hwo⟩ : ∃ wo : World, wo = wr.drewN nq := ⟨_, rfl⟩
        have huo : Up W wo := by rw [hwo]; exact up_drewN hu _
        rw [← hwo]
        clear hwo
        have HS : Hid (Inn B W n k ps g cap wo k 1) := hide ⟨ps, by rw [hd2, hlk], Nat.le_refl _, by rw [hd2], fun _ _ _ => rfl, own_up (unhide HO) huo, huo.mono hB⟩
        clear hd2 hlk b0 b1 a0 a1 huo hu HT HD HDT
        go_loopw [3, 5] (fun i j wx => ∃ jn d : Nat, 1 ≤ jn ∧ jn ≤ L ∧ j = .int .i64 jn ∧ i = .int .i64 d ∧ Inn B W n k ps g cap wx d jn) (fun _ j _ => L - (intOf j).toNat)
        case atStart => exact ⟨1, k, by omega, by omega, rfl, rfl, unhide HS⟩
        case round =>
          obtain ⟨jn, d, e1, e2, rfl, rfl, hin⟩ := hrel
          have HIN := hide hin
          obtain ⟨cur, f1, f2, f3, f4, f5, f6⟩ := hin
          have f5l := own_len f5
          by_cases hlj : jn < L
          · obtain ⟨a0, a1⟩ := pts_g (own_cells f5) (k := k + jn) (by omega)
            obtain ⟨b0, b1⟩ := pts_g (own_cells f5) (k := k + (jn - 1)) (by omega)
            obtain ⟨d0, d1⟩ := pts_g (own_cells f5) (k := d) (by omega)
            have z0 := f5.frozenAt (d * 2)
            have z1 := f5.frozenAt (d * 2 + 1)
            rw [f4 (k + jn) (by omega) (by omega)] at a0 a1
            rw [f4 (k + (jn - 1)) (by omega) (by omega)] at b0 b1
            simp only [Nat.zero_add, Nat.add_mul] at a0 a1 b0 b1 d0 d1
            have hdt := dedup_take (ps := ps) (k := k + jn) (by omega) (by rw [← unhide HLN]; omega)
            rw [show k + jn - 1 = k + (jn - 1) by omega] at hdt
            obtain ⟨X, hX⟩ : ∃ X, Gx.g ps (k + jn) = X := ⟨_, rfl⟩
            obtain ⟨Y, hY⟩ : ∃ X, Gx.g ps (k + (jn - 1)) = X := ⟨_, rfl⟩
            rw [hX] at a0 a1 hdt
            rw [hY] at b0 b1 hdt
            obtain ⟨x1, x2⟩ := X
            obtain ⟨y1, y2⟩ := Y
            simp only at a0 a1 b0 b1
            have HDT := hide hdt
            have HX := hide hX
            have i1 : IntKind.i64.wrap ((jn : Int) - 1) = ((jn - 1 : Nat) : Int) := by rw [IntWalk.i64_in _ ⟨by omega, by omega⟩]; omega
            have i2 : (jn : Int) < (L : Int) := by omega
            have i3 : ((jn - 1 : Nat) : Int) < (L : Int) := by omega
            have i4 : (d : Int) < (n : Int) := by omega
            clear hdt hX hY f1 f3 f4 f5 f6
            have hcase : (x1 == y1) = false ∨ (x1 = y1 ∧ (x2 == y2) = false) ∨ (x1 = y1 ∧ x2 = y2) := by
              by_cases c1 : x1 = y1
              · by_cases c2 : x2 = y2
                · exact .inr (.inr ⟨c1, c2⟩)
                · exact .inr (.inl ⟨c1, by simpa using c2⟩)
              · exact .inl (by simpa using c1)
            rcases hcase with c | ⟨rfl, c⟩ | ⟨rfl, rfl⟩
            · have ed : dedup (ps.take (k + jn + 1)) = dedup (ps.take (k + jn)) ++ [(x1, x2)] := by
                rw [unhide HDT, if_neg (by intro e; simp at e; simp [e.1] at c)]
              have ST := hide (fun (w' : World) (hu : Up wr w') => inn_step (unhide HIN) ed hu hB hg (by omega))
              clear ed HDT
              go_wp2_with fail
              go_quiet (fail)
              go_wp2_with fail
              exact ⟨⟨jn + 1, d + 1, by omega, by omega, by go_num, by go_num, unhide ST _ (by repeat' (first | (with_reducible exact up_refl _) | (with_reducible assumption) | (with_reducible refine up_alloc ?_ _) | (with_reducible refine up_drewN ?_ _) | (with_reducible refine up_drew ?_) | (with_reducible refine up_set ?_ (by first | (simp; done) | (simp; omega) | omega) _) | (refine up_trans ?_ (by with_reducible assumption))))⟩, by simp [intOf]; omega⟩
            · have ed : dedup (ps.take (k + jn + 1)) = dedup (ps.take (k + jn)) ++ [(x1, x2)] := by
                rw [unhide HDT, if_neg (by intro e; simp at e; simp [e] at c)]
              have ST := hide (fun (w' : World) (hu : Up wr w') => inn_step (unhide HIN) ed hu hB hg (by omega))
              clear ed HDT
              go_wp2_with fail
              go_quiet (fail)
              go_wp2_with fail
              exact ⟨⟨jn + 1, d + 1, by omega, by omega, by go_num, by go_num, unhide ST _ (by repeat' (first | (with_reducible exact up_refl _) | (with_reducible assumption) | (with_reducible refine up_alloc ?_ _) | (with_reducible refine up_drewN ?_ _) | (with_reducible refine up_drew ?_) | (with_reducible refine up_set ?_ (by first | (simp; done) | (simp; omega) | omega) _) | (refine up_trans ?_ (by with_reducible assumption))))⟩, by simp [intOf]; omega⟩
            · have ed : dedup (ps.take (k + jn + 1)) = dedup (ps.take (k + jn)) := by
                rw [unhide HDT, if_pos rfl]
              have ST := hide (fun (w' : World) (hu : Up wr w') => inn_same (unhide HIN) ed hu hB)
              clear ed HDT
              go_wp2_with fail
              go_quiet (fail)
              go_wp2_with fail
              exact ⟨⟨jn + 1, d, by omega, by omega, by go_num, rfl, unhide ST _ (by repeat' (first | (with_reducible exact up_refl _) | (with_reducible assumption) | (with_reducible refine up_alloc ?_ _) | (with_reducible refine up_drewN ?_ _) | (with_reducible refine up_drew ?_) | (with_reducible refine up_set ?_ (by first | (simp; done) | (simp; omega) | omega) _) | (refine up_trans ?_ (by with_reducible assumption))))⟩, by simp [intOf]; omega⟩
          · obtain rfl : jn = L := by omega
            have ek : k + jn = n := by omega
            have ep : ps.take n = ps := List.take_of_length_le (by rw [← unhide HLN]; exact Nat.le_refl _)
            rw [ek, ep] at f1 f3
            have fz := fun j => f5.frozenAt j
            obtain ⟨vs, hvs⟩ := run_clear_pts wr 0 g (d * 2) (n - d) (cap - d) (by omega) (fun j hj => by
              rw [f5.cellAt _ (by omega)]
              have : d * 2 + j < (cellsPl cur).length := by rw [cellsPl_length]; omega
              rw [List.getElem?_eq_getElem this]; rfl) (fun j _ => fz _)
            have f7 := own_setCells vs wr (d * 2) (own_prefix f5 (m := d) (by omega)) (Nat.le_refl _) hg
            rw [cellsPl_take, f3] at f7
            have F7 := hide (show _ ∧ Below B W (wr.setCells g (d * 2) vs) from ⟨f7.1, f6.trans f7.2⟩)
            obtain ⟨WS, hWS⟩ : ∃ WS, wr.setCells g (d * 2) vs = WS := ⟨_, rfl⟩
            rw [hWS] at hvs F7
            have F1 := hide f1
            have i4 : (d : Int) < (n : Int) := by omega
            have i5 : d < n := by omega
            have i6 : d ≤ cap := by omega
            clear f1 f3 f4 f5 f6 f5l f7 fz hWS ep ek
            go_wp2_with fail
            go_ret
            rw [← unhide F1]
            exact ⟨rfl, unhide F7⟩
    · obtain rfl : k = n := by omega
      have e : dedup ps = ps := by
        have := hd
        rwa [List.take_of_length_le (by rw [← unhide HLN]; exact Nat.le_refl _)] at this
      have HF : Hid ((dedup ps).length = k) := hide (by rw [e]; exact (unhide HLN).symm)
      have HE := hide e
      clear hd e
      go_wp2_with fail
      go_ret
      refine ⟨?_, ?_, hu.mono hB⟩
      · rw [unhide HF]; rfl
      · rw [unhide HF, unhide HE]; exact own_up (unhide HO) hu
theorem p_compact_any {B n cap g : Nat} {ps : Pl} (W : World) (h : W.ownsRow B 43 2 (.slice (some ⟨g, 0, none⟩) n cap) n (cellsPl ps)) (hB : B ≤ W.heap.size) (hg : B ≤ g) (h1 : 1 ≤ n) (hn : n ≤ 70000) (hcap : n ≤ cap) (hcap2 : cap ≤ 9223372036854775807) :
    Calls Tryz.prog 76 #[.slice (some ⟨g, 0, none⟩) n cap] W fun e w' => e = .returned (.slice (some ⟨g, 0, none⟩) (dedup ps).length cap) ∧
      w'.ownsRow B 43 2 (.slice (some ⟨g, 0, none⟩) (dedup ps).length cap) (dedup ps).length (cellsPl (dedup ps)) ∧ Below B W w' := by
  rcases Nat.lt_or_ge n 2 with h2 | h2
  · obtain rfl : n = 1 := by omega
    have hl := own_len h
    match ps, hl with
    | [p], _ => exact (p_compact1 W).mono fun e w' ⟨he, hw⟩ => ⟨he, by rw [← hw]; exact h, by rw [← hw]; exact Below.refl _ _⟩
  · exact p_compact W h hB hg h2 hn hcap hcap2
end Go.Proofs.YtooochbfnmmnkaaGreat
namespace Go.Proofs.YtooochbfnmmnkaaGreat
open Go.RowKit Go.Proofs.Gn
/-- The corners that are left, in their order. -/
def turnsL (ss : Pl) : Pl := (Gx.chainR ss).reverse
theorem turnsL_snoc (ss : Pl) (p : Int × Int) : turnsL (ss ++ [p]) = leftS p (turnsL ss) ++ [p] := by
  unfold turnsL leftS
  rw [Gx.chainR_snoc, List.reverse_reverse]
  unfold Gx.pushS
  rw [List.reverse_cons]
theorem turnsL_sub (ss : Pl) : ∀ p ∈ turnsL ss, p ∈ ss := by
  intro p hp
  generalize hr : ss.reverse = r
  induction r generalizing ss p with
  | nil =>
    have : ss = [] := by simpa using hr
    subst this
    simp [turnsL, Gx.chainR] at hp
  | cons q r ih =>
    have e : ss = r.reverse ++ [q] := by rw [← List.reverse_reverse ss, hr]; simp
    rw [e] at hp ⊢
    rw [turnsL_snoc] at hp
    rcases List.mem_append.1 hp with hp | hp
    · exact List.mem_append_left _ (ih r.reverse p ((leftS_prefix _ _).subset hp) (by simp))
    · exact List.mem_append_right _ hp
theorem turnsL_len (ss : Pl) : (turnsL ss).length ≤ ss.length := by
  generalize hr : ss.reverse = r
  induction r generalizing ss with
  | nil =>
    have : ss = [] := by simpa using hr
    subst this
    simp [turnsL, Gx.chainR]
  | cons q r ih =>
    have e : ss = r.reverse ++ [q] := by rw [← List.reverse_reverse ss, hr]; simp
    rw [e, turnsL_snoc]
    have a := (leftS_prefix q (turnsL r.reverse)).length_le
    have b := ih r.reverse (by simp)
    simp only [List.length_append, List.length_cons, List.length_nil]
    omega
theorem turnsL_pos {ss : Pl} (h : 0 < ss.length) : 0 < (turnsL ss).length := by
  obtain ⟨t, q, e⟩ : ∃ t q, ss = t ++ [q] := by
    have hne : ss ≠ [] := by intro e; rw [e] at h; simp at h
    exact ⟨ss.dropLast, ss.getLast hne, (List.dropLast_concat_getLast hne).symm⟩
  rw [e, turnsL_snoc]
  simp
theorem bdL_sub {a b : Pl} (h : BdL b) (hs : ∀ p ∈ a, p ∈ b) : BdL a := fun p hp => h p (hs p hp)
theorem turns_own {W : World} {B : Nat} {v : Value} {m : Nat} {ss ps : Pl} {x y : Int} {k : Nat} (ht : turnsL (ss.take (k + 1)) = leftS (x, y) ps ++ [(x, y)]) (hq : leftS (x, y) ps = ps.take m) (hm : (leftS (x, y) ps).length = m)
    (ho : W.ownsRow B 43 2 v (m + 1) (cellsPl (ps.take m) ++ [.int .i64 x, .int .i64 y])) : W.ownsRow B 43 2 v (turnsL (ss.take (k + 1))).length (cellsPl (turnsL (ss.take (k + 1)))) := by
  rw [ht, cellsPl_snoc, List.length_append, hm, hq]
  exact ho
set_option maxRecDepth 100000 in
set_option maxHeartbeats 2000000 in
theorem p_leftTurns (A : Option Addr) (ss : Pl) (cap : Nat) (w : World) (h : Pts w A ss) (hn : ss.length ≤ 70000) (hb : BdL ss) :
    Calls Tryz.prog 77 #[.slice A ss.length cap] w fun e w' => ∃ v, e = .returned v ∧ w'.ownsRow w.heap.size 43 2 v (turnsL ss).length (cellsPl (turnsL ss)) ∧ Below w.heap.size w w' := by
  have HS := hide h
  have HBD := hide hb
  clear h hb
  obtain ⟨n, hN⟩ : ∃ n, ss.length = n := ⟨_, rfl⟩
  rw [hN] at hn ⊢
  have HN := hide hN
  clear hN
  obtain ⟨i0, hi, hz0, hz1, hz2⟩ := info_parts info_pt
  have HI := hide hi
  clear hi
  go_enter Tryz.func77, Tryz.ntmps77
  go_wp2_with fail
  go_loopw [3, 8] (fun v i wr => ∃ k : Nat, k ≤ n ∧ i = .int .i64 k ∧ wr.ownsRow w.heap.size 43 2 v (turnsL (ss.take k)).length (cellsPl (turnsL (ss.take k))) ∧ Below w.heap.size w wr ∧ (k = 0 → v = .slice none 0 0)) (fun _ i _ => n - (intOf i).toNat)
  case atStart => exact ⟨0, Nat.zero_le _, rfl, World.ownsRow_nil _ _ _ _, Below.refl _ _, fun _ => rfl⟩
  case round =>
    obtain ⟨k, hk, rfl, hown, hbe, hnil⟩ := hrel
    by_cases hlt : k < n
    · have hl : k < ss.length := by rw [unhide HN]; exact hlt
      obtain ⟨b, off, rfl, hc⟩ := (unhide HS).resolve_left (by intro e; rw [e] at hl; simp at hl)
      obtain ⟨c0, c1⟩ := hc k hl
      have bd := unhide HBD ss[k] (List.getElem_mem hl)
      have ht : ss.take (k + 1) = ss.take k ++ [(ss[k].1, ss[k].2)] := by rw [List.take_succ_eq_append_getElem hl]
      obtain ⟨x, hx⟩ : ∃ x, ss[k].1 = x := ⟨_, rfl⟩
      obtain ⟨y, hy⟩ : ∃ y, ss[k].2 = y := ⟨_, rfl⟩
      rw [hx] at c0 bd ht
      rw [hy] at c1 bd ht
      have hts := turnsL_snoc (ss.take k) (x, y)
      rw [← ht] at hts
      have d0 := up_cell hbe c0
      have d1 := up_cell hbe c1
      have bps : BdL (turnsL (ss.take k)) := bdL_sub (unhide HBD) fun p hp => List.mem_of_mem_take (turnsL_sub _ p hp)
      have lps : (turnsL (ss.take k)).length ≤ k := by have := turnsL_len (ss.take k); rw [List.length_take, unhide HN] at this; omega
      obtain ⟨ps, hps⟩ : ∃ ps, turnsL (ss.take k) = ps := ⟨_, rfl⟩
      rw [hps] at hown hts bps lps
      have lq := (leftS_prefix (x, y) ps).length_le
      have hq : leftS (x, y) ps = ps.take (leftS (x, y) ps).length := (List.prefix_iff_eq_take.1 (leftS_prefix (x, y) ps))
      have HTS := hide hts
      have HBE := hide hbe
      have HO := hide hown
      have HBP := hide bps
      have hk0 : k = 0 → ps = [] := fun e => by rw [← hps, e]; rfl
      by_cases hk1 : k = 0
      · subst hk1
        obtain rfl := hnil rfl
        obtain rfl := hk0 rfl
        simp only [Nat.zero_mul, Nat.add_zero] at d0 d1
        clear hown hbe hnil hk0 hps hts bps hx hy ht hc c0 c1 lps lq hq
        go_wp2_with (first
          | (go_at_call 100; refine (p_drop0 _ _ _).mono ?_; rintro e w2 ⟨rfl, hb2⟩; have x2 : w2.cell? ⟨wr.heap.size, 0, none⟩ = some (.int .i64 x) := up_cell hb2 (by go_cell); have y2 : w2.cell? ⟨wr.heap.size, 1, none⟩ = some (.int .i64 y) := up_cell hb2 (by go_cell))
          | (at_builtin; refine wpList_append_own _ rfl _ _ 67 rfl w.heap.size 43 i0 _ 2 16 Tryz.underlying67 (unhide HI) hz0 hz1 hz2 rfl (by decide) _ 0 (cellsPl (([] : Pl).take 0)) rfl (World.ownsRow_nil _ _ _ _) ⟨w2.heap.size, 0, none⟩ 1 1 [.int .i64 x, .int .i64 y] rfl rfl (two_new _ _ _ _) (by intro u hu; simp at hu; rcases hu with rfl | rfl <;> rfl) (by unfold maxLen; omega) (by omega) (by have := (unhide HBE).size; have := hb2.size; simp at this ⊢; omega) ?_; intro v' w3 hown' hgrow _))
        have R1 := turns_own (unhide HTS) (ps := []) (m := 0) rfl rfl hown'
        have R2 : Below w.heap.size w w3 := Below.grown (below_up (unhide HBE) (Nat.le_refl _) (up_alloc (up_trans (up_alloc (up_refl _) _) hb2) _)) hgrow (by have := (unhide HBE).size; have := hb2.size; simp at this ⊢; omega) (fun j hj => by cases hj)
        exact ⟨⟨1, by omega, by go_num, R1, R2, by omega⟩, by simp [intOf]; omega⟩
      · have hpos : 0 < ps.length := by
          rw [← hps]
          exact turnsL_pos (by rw [List.length_take, unhide HN]; omega)
        obtain ⟨g, cp, hv, hg, hcp, hcp2⟩ := own_some hown hpos
        subst hv
        obtain ⟨m, hm⟩ : ∃ m, (leftS (x, y) ps).length = m := ⟨_, rfl⟩
        have PD : ∀ W : World, W.ownsRow w.heap.size 43 2 (.slice (some ⟨g, 0, none⟩) ps.length cp) ps.length (cellsPl ps) → W.cell? ⟨wr.heap.size, 0, none⟩ = some (.int .i64 x) → W.cell? ⟨wr.heap.size, 1, none⟩ = some (.int .i64 y) →
            Calls Tryz.prog 100 #[.slice (some ⟨g, 0, none⟩) ps.length cp, .func (.func 101) #[] #[.pointer (some ⟨wr.heap.size, 0, none⟩)]] W fun e w' => e = .returned (.slice (some ⟨g, 0, none⟩) m cp) ∧ Up W w' := fun W hO hx hy => by
          have q := p_drop g ps cp wr.heap.size x y W (own_cells hO) hx hy hcp hcp2 bps bd.1 bd.2
          rwa [hm] at q
        rw [hm] at lq hq
        have HPD := hide PD
        have HQ := hide hq
        have HM := hide hm
        obtain ⟨N, hN2⟩ : ∃ N, ps.length = N := ⟨_, rfl⟩
        rw [hN2] at HO HPD lq lps ⊢
        clear hown hbe hnil hk0 hps hts bps hx hy ht hc c0 c1 PD hq hm hcp hcp2 hpos hN2
        go_wp2_with (first
          | (go_at_call 100; (with_reducible refine (unhide HPD _ ((unhide HO).alloc _) (by go_cell) (by go_cell)).mono ?_); rintro e w2 ⟨rfl, hb2⟩; have x2 : w2.cell? ⟨wr.heap.size, 0, none⟩ = some (.int .i64 x) := up_cell hb2 (by go_cell); have y2 : w2.cell? ⟨wr.heap.size, 1, none⟩ = some (.int .i64 y) := up_cell hb2 (by go_cell))
          | (at_builtin; refine wpList_append_own _ rfl _ _ 67 rfl w.heap.size 43 i0 _ 2 16 Tryz.underlying67 (unhide HI) hz0 hz1 hz2 rfl (by decide) _ m (cellsPl (ps.take m)) rfl (by rw [← cellsPl_take]; exact (own_prefix (own_up ((unhide HO).alloc _) hb2) lq).alloc _) ⟨w2.heap.size, 0, none⟩ 1 1 [.int .i64 x, .int .i64 y] rfl rfl (two_new _ _ _ _) (by intro u hu; simp at hu; rcases hu with rfl | rfl <;> rfl) (by unfold maxLen; omega) (by omega) (by have := (unhide HBE).size; have := hb2.size; simp at this ⊢; omega) ?_; intro v' w3 hown' hgrow _))
        have R1 := turns_own (unhide HTS) (unhide HQ) (unhide HM) hown'
        have R2 : Below w.heap.size w w3 := Below.grown (below_up (unhide HBE) (Nat.le_refl _) (up_alloc (up_trans (up_alloc (up_refl _) _) hb2) _)) hgrow (by have := (unhide HBE).size; have := hb2.size; simp at this ⊢; omega) (fun j hj => by cases hj; exact hg)
        exact ⟨⟨k + 1, by omega, by go_num, R1, R2, by omega⟩, by simp [intOf]; omega⟩
    · obtain rfl : k = n := by omega
      have e : ss.take k = ss := List.take_of_length_le (by rw [unhide HN]; exact Nat.le_refl _)
      rw [e] at hown
      have HO := hide hown
      have HBE := hide hbe
      clear e hown hbe hnil
      go_wp2_with fail
      exact bodyPost_ret (by simp [results, Tryz.results77, go_sem]) rfl ⟨_, rfl, unhide HO, unhide HBE⟩
end Go.Proofs.YtooochbfnmmnkaaGreat
namespace Go.Proofs.YtooochbfnmmnkaaGreat
open Go.RowKit Go.Proofs.Gn
theorem cellsPl_append (a b : Pl) : cellsPl (a ++ b) = cellsPl a ++ cellsPl b := by simp [cellsPl]
theorem hullF_eq {ps ss : Pl} (h : ss = Gx.sortU ps) : (ss.length = 1 → Gx.hullF ps = ss) ∧ (ss.length ≠ 1 → Gx.hullF ps = (turnsL ss).take ((turnsL ss).length - 1) ++ (turnsL ss.reverse).take ((turnsL ss.reverse).length - 1)) := by
  subst h
  unfold Gx.hullF Gx.hullS turnsL
  refine ⟨fun h => by rw [if_pos h], fun h => by rw [if_neg h, List.dropLast_eq_take, List.dropLast_eq_take]⟩
theorem own_one {W : World} {base e : Nat} {v : Value} {n : Nat} {ps : Pl} (h : W.ownsRow base e 2 v n (cellsPl ps)) : n = ps.length := own_len h
theorem sort_len (ps : Pl) : (Gx.sortU ps).length ≤ ps.length := by
  have : ∀ (l : Pl) (p : Int × Int), (Gx.insU p l).length ≤ l.length + 1 := by
    intro l p
    induction l with
    | nil => exact Nat.le_refl _
    | cons a l ih =>
      unfold Gx.insU
      split
      · simpa using ih
      · split <;> simp
  generalize hr : ps.reverse = r
  induction r generalizing ps with
  | nil =>
    have : ps = [] := by simpa using hr
    subst this
    exact Nat.le_refl _
  | cons q r ih =>
    have e : ps = r.reverse ++ [q] := by rw [← List.reverse_reverse ps, hr]; simp
    rw [e, Gx.sortU_snoc]
    have a := this (Gx.sortU r.reverse) q
    have b := ih r.reverse (by simp)
    simp only [List.length_append, List.length_cons, List.length_nil]
    omega
theorem own_base {W : World} {base b' e size n : Nat} {v : Value} {xs : List Value} (h : W.ownsRow base e size v n xs) (hb : b' ≤ base) : W.ownsRow b' e size v n xs := by
  rcases h with ⟨hl, h | ⟨g, cap, cur, rfl, h1, h2⟩⟩
  · exact ⟨hl, .inl h⟩
  · exact ⟨hl, .inr ⟨g, cap, cur, rfl, Nat.le_trans hb h1, h2⟩⟩
theorem own_lt {W : World} {base e size n m cap g : Nat} {xs : List Value} (h : W.ownsRow base e size (.slice (some ⟨g, 0, none⟩) n cap) m xs) : g < W.heap.size := by
  rcases h.2 with ⟨k, _⟩ | ⟨g', cap', cur, e1, _, hgg, _⟩
  · simp at k
  · simp only [Value.slice.injEq, Option.some.injEq, Addr.mk.injEq, and_true] at e1
    obtain ⟨rfl, _⟩ := e1
    exact (Array.getElem?_eq_some_iff.1 hgg).1
/-- leftTurns at a list of the call's own. -/
theorem p_turnsO {B m a cp g : Nat} {ss : Pl} (ha : (turnsL ss).length = a) (hm : ss.length = m) (h0 : 0 < m) (hn : m ≤ 70000) (hb : BdL ss) (W : World) (h : W.ownsRow B 43 2 (.slice (some ⟨g, 0, none⟩) m cp) m (cellsPl ss)) :
    Calls Tryz.prog 77 #[.slice (some ⟨g, 0, none⟩) m cp] W fun e w' => ∃ g4 c4, e = .returned (.slice (some ⟨g4, 0, none⟩) a c4) ∧ W.heap.size ≤ g4 ∧ a ≤ c4 ∧ c4 ≤ 9223372036854775807 ∧ w'.ownsRow W.heap.size 43 2 (.slice (some ⟨g4, 0, none⟩) a c4) a (cellsPl (turnsL ss)) ∧ Up W w' := by
  obtain ⟨A, c, e, hp⟩ := own_pts h
  rw [hm] at e
  simp only [Value.slice.injEq, true_and] at e
  obtain ⟨rfl, rfl⟩ := e
  have q := p_leftTurns (some ⟨g, 0, none⟩) ss cp W hp (by omega) hb
  rw [hm, ha] at q
  refine q.mono fun e w' ⟨v, he, ho, hb⟩ => ?_
  have := turnsL_pos (ss := ss) (by omega)
  obtain ⟨g4, c4, rfl, h1, h2, h3⟩ := own_some ho (by omega)
  exact ⟨g4, c4, he, h1, h2, h3, ho, hb⟩
set_option maxRecDepth 100000 in
set_option maxHeartbeats 2000000 in
theorem p_hull (A : Option Addr) (ps : Pl) (cap : Nat) (w : World) (h : Pts w A ps) (h0 : 0 < ps.length) (hn : ps.length ≤ 60000) (hb : BdL ps) :
    Calls Tryz.prog 47 #[.slice A ps.length cap] w fun e w' => ∃ v, e = .returned v ∧ w'.ownsRow w.heap.size 43 2 v (Gx.hullF ps).length (cellsPl (Gx.hullF ps)) ∧ Below w.heap.size w w' := by
  have PC := p_clone A ps cap w h h0 (by omega)
  obtain ⟨ss, hss⟩ : ∃ ss, Gx.sortU ps = ss := ⟨_, rfl⟩
  have hssl : ss.length ≤ ps.length := by rw [← hss]; exact sort_len ps
  have hss0 : 0 < ss.length := by
    rw [← hss]
    exact List.length_pos_iff.2 (Gx.sortU_ne (by intro e; rw [e] at h0; simp at h0))
  have hbs : BdL ss := by rw [← hss]; exact fun p hp => hb p (((Gx.sortU_ok ps).2 p).1 hp)
  have hF := hullF_eq hss.symm
  have PS : ∀ (W : World) (g cp : Nat), W.ownsRow w.heap.size 43 2 (.slice (some ⟨g, 0, none⟩) ps.length cp) ps.length (cellsPl ps) → Below w.heap.size w W → w.heap.size ≤ g → ps.length ≤ cp → cp ≤ 9223372036854775807 →
      Calls Tryz.prog 74 #[.slice (some ⟨g, 0, none⟩) ps.length cp, .func (.func 75) #[] #[]] W fun e w' => e = .returned (.tuple #[]) ∧
        (∃ qs : Pl, Gx.dedup qs = ss ∧ w'.ownsRow w.heap.size 43 2 (.slice (some ⟨g, 0, none⟩) ps.length cp) ps.length (cellsPl qs)) ∧ Below w.heap.size w w' := fun W g cp ho hb hg hc hc2 => by
    have hgl : g < W.heap.size := by
      rcases ho.2 with ⟨k, _⟩ | ⟨g', cap', cur, e1, _, hgg, _⟩
      · simp at k
      · simp only [Value.slice.injEq, Option.some.injEq, Addr.mk.injEq, and_true, true_and] at e1
        obtain ⟨rfl, rfl⟩ := e1
        exact (Array.getElem?_eq_some_iff.1 hgg).1
    refine (p_sort W ho hb.size hg hgl (by omega)).mono fun e w' ⟨he, qs, hp, hq, ho', hb'⟩ => ⟨he, ⟨qs, ?_, ho'⟩, hb.trans hb'⟩
    rw [← hss]
    exact Gx.dedup_sort hp hq
  have PK : ∀ (W : World) (g cp : Nat) (qs : Pl), Gx.dedup qs = ss → W.ownsRow w.heap.size 43 2 (.slice (some ⟨g, 0, none⟩) ps.length cp) ps.length (cellsPl qs) → Below w.heap.size w W → w.heap.size ≤ g → ps.length ≤ cp → cp ≤ 9223372036854775807 →
      Calls Tryz.prog 76 #[.slice (some ⟨g, 0, none⟩) ps.length cp] W fun e w' => e = .returned (.slice (some ⟨g, 0, none⟩) ss.length cp) ∧
        w'.ownsRow w.heap.size 43 2 (.slice (some ⟨g, 0, none⟩) ss.length cp) ss.length (cellsPl ss) ∧ Below w.heap.size w w' := fun W g cp qs hq ho hb hg hc hc2 => by
    refine (p_compact_any W ho hb.size hg (by omega) (by omega) hc hc2).mono fun e w' ⟨he, ho', hb'⟩ => ?_
    rw [hq] at he ho'
    exact ⟨he, ho', hb.trans hb'⟩
  obtain ⟨n, hN⟩ : ∃ n, ps.length = n := ⟨_, rfl⟩
  obtain ⟨m, hM⟩ : ∃ m, ss.length = m := ⟨_, rfl⟩
  rw [hN] at h0 hn hssl PC PS PK
  rw [hN]
  rw [hM] at hssl hss0 hF PK
  have HPC := hide PC
  have HPS := hide PS
  have HPK := hide PK
  have HBS := hide hbs
  have HM := hide hM
  have HF := hide hF
  clear PC PS PK h hb hss hbs hN hM hF
  have g1 : (1 : Int) ≤ (n : Int) := by omega
  by_cases h1 : m = 1
  · subst h1
    have e := (unhide HF).1 rfl
    rw [e, unhide HM]
    clear HBS HF e
    go_enter Tryz.func47, Tryz.ntmps47
    go_wp2_with (first
      | (go_at_call 73; (with_reducible refine (unhide HPC).mono ?_); rintro e w1 ⟨v, rfl, ho1, hb1⟩; obtain ⟨g, cp, rfl, hg, hcp, hcp2⟩ := own_some ho1 (by omega); have O1 := hide ho1; have B1 := hide hb1; clear ho1 hb1 HPC)
      | (go_at_call 74; (with_reducible refine (unhide HPS _ _ _ (unhide O1) (unhide B1) hg hcp hcp2).mono ?_); rintro e w2 ⟨rfl, ⟨qs, hq, ho2⟩, hb2⟩; have O2 := hide ho2; have B2 := hide hb2; have HQ := hide hq; clear ho2 hb2 hq HPS)
      | (go_at_call 76; (with_reducible refine (unhide HPK _ _ _ _ (unhide HQ) (unhide O2) (unhide B2) hg hcp hcp2).mono ?_); rintro e w3 ⟨rfl, ho3, hb3⟩; have O3 := hide ho3; have B3 := hide hb3; clear ho3 hb3 HPK))
    exact bodyPost_ret (by simp [results, Tryz.results47, go_sem]) rfl ⟨_, rfl, unhide O3, unhide B3⟩
  · have h2 : (m : Int) ≠ 1 := by omega
    have h3 : ((m : Int) == 1) = false := by simpa using h2
    obtain ⟨a, ha⟩ : ∃ a, (turnsL ss).length = a := ⟨_, rfl⟩
    obtain ⟨b, hb⟩ : ∃ b, (turnsL ss.reverse).length = b := ⟨_, rfl⟩
    have e := (unhide HF).2 h1
    rw [ha, hb] at e
    have ha0 : 0 < a := by rw [← ha]; exact turnsL_pos (by rw [unhide HM]; exact hss0)
    have hb0 : 0 < b := by rw [← hb]; exact turnsL_pos (by simp [unhide HM]; exact hss0)
    have ha1 : a ≤ m := by rw [← ha, ← unhide HM]; exact turnsL_len ss
    have hb1 : b ≤ m := by rw [← hb, ← unhide HM]; have := turnsL_len ss.reverse; simpa using this
    have P1 : ∀ (W : World) (g cp : Nat), W.ownsRow w.heap.size 43 2 (.slice (some ⟨g, 0, none⟩) m cp) m (cellsPl ss) → _ := fun W g cp ho => p_turnsO (cp := cp) ha (unhide HM) hss0 (by omega) (unhide HBS) W ho
    have P2 : ∀ (W : World) (g cp : Nat), W.ownsRow w.heap.size 43 2 (.slice (some ⟨g, 0, none⟩) m cp) m (cellsPl ss.reverse) → _ := fun W g cp ho => p_turnsO (cp := cp) hb (by rw [List.length_reverse]; exact unhide HM) hss0 (by omega) (bdL_sub (unhide HBS) fun p hp => List.mem_reverse.1 hp) W ho
    have HP1 := hide P1
    have HP2 := hide P2
    have HE := hide e
    clear HF P1 P2 e h2
    go_enter Tryz.func47, Tryz.ntmps47
    go_wp2_with (first
      | (go_at_call 73; (with_reducible refine (unhide HPC).mono ?_); rintro e w1 ⟨v, rfl, ho1, hb1⟩; obtain ⟨g, cp, rfl, hg, hcp, hcp2⟩ := own_some ho1 (by omega); have O1 := hide ho1; have B1 := hide hb1; clear ho1 hb1 HPC)
      | (go_at_call 74; (with_reducible refine (unhide HPS _ _ _ (unhide O1) (unhide B1) hg hcp hcp2).mono ?_); rintro e w2 ⟨rfl, ⟨qs, hq, ho2⟩, hb2⟩; have O2 := hide ho2; have B2 := hide hb2; have HQ := hide hq; clear ho2 hb2 hq HPS)
      | (go_at_call 76; (with_reducible refine (unhide HPK _ _ _ _ (unhide HQ) (unhide O2) (unhide B2) hg hcp hcp2).mono ?_); rintro e w3 ⟨rfl, ho3, hb3⟩; have O3 := hide ho3; have B3 := hide hb3; clear ho3 hb3 HPK)
      | (go_at_call 77; (with_reducible refine (unhide HP1 _ _ _ (unhide O3)).mono ?_); rintro e w4 ⟨g4, c4, rfl, hg4, hc4, hc4', ho4, hb4⟩; have O4 := hide ho4; have B4 := hide hb4; clear ho4 hb4 HP1)
      | (go_at_call 78; (with_reducible refine (p_reverse _ (own_up (unhide O3) (unhide B4)) (Nat.le_trans (unhide B3).size (up_size (unhide B4))) hg (by omega)).mono ?_); rintro e w5 ⟨rfl, ho5, hb5, hgr⟩; have O5 := hide ho5; have B5 := hide hb5; have GR := hide hgr; clear ho5 hb5 hgr)
      | (go_at_call 77; (with_reducible refine (unhide HP2 _ _ _ (unhide O5)).mono ?_); rintro e w6 ⟨g6, c6, rfl, hg6, hc6, hc6', ho6, hb6⟩; have O6 := hide ho6; have B6 := hide hb6; clear ho6 hb6 HP2))
    obtain ⟨i0, hi, hz0, hz1, hz2⟩ := info_parts info_pt
    have gne : g4 ≠ g := by
      have := own_lt (unhide O3)
      omega
    have OL : w6.ownsRow w.heap.size 43 2 (.slice (some ⟨g4, 0, none⟩) (a - 1) c4) (a - 1) (cellsPl ((turnsL ss).take (a - 1))) := by
      rw [← cellsPl_take]
      exact own_prefix (own_base (own_up ((unhide O4).kept (unhide GR) (.inr (by intro e; cases e; exact gne rfl))) (unhide B6)) (unhide B3).size) (Nat.sub_le _ _)
    have CR := cells_at (own_cells (own_prefix (unhide O6) (Nat.sub_le b 1)  |> (fun h => by rw [cellsPl_take] at h; exact h)))
    have BB : Below w.heap.size w w6 := (((unhide B3).trans ((unhide B4).mono (unhide B3).size)).trans (unhide B5)).trans ((unhide B6).mono (Nat.le_trans (unhide B3).size (Nat.le_trans (up_size (unhide B4)) (unhide B5).size)))
    have lr : ((turnsL ss.reverse).take (b - 1)).length = b - 1 := by rw [List.length_take]; omega
    have HI := hide hi
    have HOL := hide OL
    have HCR := hide CR
    have HBB := hide BB
    have HLR := hide lr
    have HLA := hide ha
    clear hi OL CR BB lr ha hb
    have w1' : IntKind.i64.wrap ((a : Int) - 1) = ((a - 1 : Nat) : Int) := by rw [IntWalk.i64_in _ ⟨by omega, by omega⟩]; omega
    have w2' : IntKind.i64.wrap ((b : Int) - 1) = ((b - 1 : Nat) : Int) := by rw [IntWalk.i64_in _ ⟨by omega, by omega⟩]; omega
    have w3' : ((a - 1 : Nat) : Int) ≤ (c4 : Int) := by omega
    have w4' : ((b - 1 : Nat) : Int) ≤ (c6 : Int) := by omega
    have w5' : a - 1 ≤ c4 := by omega
    have w6' : b - 1 ≤ c6 := by omega
    go_region_law (refine step_append_mine _ rfl (.tmp 26) (.tmp 31) 67 rfl w.heap.size 43 i0 _ 2 16 Tryz.underlying67 (unhide HI) hz0 hz1 hz2 rfl (Nat.zero_lt_succ _) (.slice (some ⟨g4, 0, none⟩) (a - 1) c4) (a - 1) (cellsPl ((turnsL ss).take (a - 1))) (by go_simp; done) (by exact unhide HOL) ⟨g6, 0, none⟩ (b - 1) c6 (cellsPl ((turnsL ss.reverse).take (b - 1))) (by go_simp; done) (by rw [cellsPl_length, unhide HLR]) (by intro j u hj; rw [show (⟨g6, 0, none⟩ : Addr).add j = ⟨g6, 0 + j, none⟩ from Go.WideShapes.add_plain _ _ _]; exact unhide HCR j u hj) (cellsPl_one _) (by unfold maxLen; omega) (by omega) (by exact (unhide HBB).size) ?_; intro v' w7 hown' hgrow)
    have hfin : w7.ownsRow w.heap.size 43 2 v' (Gx.hullF ps).length (cellsPl (Gx.hullF ps)) := by
      rw [unhide HE, cellsPl_append, List.length_append, unhide HLR, List.length_take, unhide HLA, Nat.min_eq_left (Nat.sub_le _ _)]
      exact hown'
    have hbel : Below w.heap.size w w7 := Below.grown (Below.drew (unhide HBB)) hgrow (Below.drew (unhide HBB)).size (fun j hj => by cases hj; exact Nat.le_trans (unhide B3).size hg4)
    have HFIN := hide hfin
    have HBEL := hide hbel
    clear hfin hbel hown' hgrow
    go_wp2
    exact bodyPost_ret (by simp [results, Tryz.results47, go_sem]) rfl ⟨_, rfl, unhide HFIN, unhide HBEL⟩
end Go.Proofs.YtooochbfnmmnkaaGreat
namespace Go.Proofs.YtooochbfnmmnkaaGreat
open Go.RowKit Go.Proofs.Gn
/-- A list as it lies: where, its points, its capacity. -/
structure Lst where
  at_ : Option Addr
  ps : Pl
  cap : Nat
def Lst.val (l : Lst) : Value := .slice l.at_ l.ps.length l.cap
/-- The slice at A holds these lists. -/
def Lss (w : World) (A : Option Addr) (ls : List Lst) : Prop :=
  ∃ b off, A = some ⟨b, off, none⟩ ∧ ∀ k (h : k < ls.length), w.cell? ⟨b, off + k, none⟩ = some ls[k].val ∧ Pts w ls[k].at_ ls[k].ps ∧ ls[k].ps.length ≤ 9223372036854775807
theorem lss_up {w w' : World} {A : Option Addr} {ls : List Lst} (h : Lss w A ls) (hu : Up w w') : Lss w' A ls := by
  obtain ⟨b, off, hA, hc⟩ := h
  exact ⟨b, off, hA, fun k hk => ⟨up_cell hu (hc k hk).1, pts_up (hc k hk).2.1 hu, (hc k hk).2.2⟩⟩
theorem lss_one {w : World} {b off : Nat} {l : Lst} (h0 : w.cell? ⟨b, off, none⟩ = some l.val) (h1 : Pts w l.at_ l.ps) (h2 : l.ps.length ≤ 9223372036854775807) : Lss w (some ⟨b, off, none⟩) [l] :=
  ⟨b, off, rfl, fun k hk => by
    obtain rfl : k = 0 := by simp at hk; omega
    exact ⟨h0, h1, h2⟩⟩
theorem lss_two {w : World} {b off : Nat} {l m : Lst} (h0 : w.cell? ⟨b, off, none⟩ = some l.val) (h1 : Pts w l.at_ l.ps) (h2 : l.ps.length ≤ 9223372036854775807) (k0 : w.cell? ⟨b, off + 1, none⟩ = some m.val) (k1 : Pts w m.at_ m.ps) (k2 : m.ps.length ≤ 9223372036854775807) : Lss w (some ⟨b, off, none⟩) [l, m] :=
  ⟨b, off, rfl, fun k hk => by
    match k, hk with
    | 0, _ => exact ⟨h0, h1, h2⟩
    | 1, _ => exact ⟨k0, k1, k2⟩⟩
/-- Is no list too long? Are all points valid? -/
def fewB (ls : List Lst) : Bool := ls.all fun l => decide (l.ps.length ≤ 256)
def okLL (ls : List Lst) : Bool := ls.all fun l => okL l.ps
def chkLL (ls : List Lst) : Int := if fewB ls then if okLL ls then 0 else 2 else 6
theorem all_take_succ {α : Type} {f : α → Bool} {l : List α} {k : Nat} (h : k < l.length) : (l.take (k + 1)).all f = ((l.take k).all f && f l[k]) := by
  rw [List.take_succ_eq_append_getElem h, List.all_append]
  simp
theorem all_at {α : Type} {f : α → Bool} {l : List α} {k : Nat} (h : k < l.length) (hk : f l[k] = false) : l.all f = false := by
  rw [List.all_eq_false]
  exact ⟨l[k], List.getElem_mem h, by simp [hk]⟩
theorem p_checkLists (A : Option Addr) (ls : List Lst) (cap : Nat) (w : World) (h : Lss w A ls) (hn : ls.length ≤ 9223372036854775807) :
    Calls Tryz.prog 46 #[.slice A ls.length cap] w fun e w' => e = .returned (.int .i64 (chkLL ls)) ∧ Up w w' := by
  have HL := hide h
  obtain ⟨b, off, rfl, hc⟩ := h
  have HC := hide hc
  clear hc
  obtain ⟨n, hN⟩ : ∃ n, ls.length = n := ⟨_, rfl⟩
  rw [hN]
  have HN := hide hN
  have hn' : n ≤ 9223372036854775807 := by omega
  clear hN hn
  go_enter Tryz.func46, Tryz.ntmps46
  go_wp2_with fail
  go_loopw [10] (fun i wr => ∃ k : Nat, k ≤ n ∧ i = .int .i64 k ∧ Up w wr ∧ fewB (ls.take k) = true) (fun i _ => n - (intOf i).toNat)
  case atStart => exact ⟨0, by omega, rfl, up_refl _, rfl⟩
  case round =>
    obtain ⟨k, hk, rfl, hu, ho⟩ := hrel
    have HO := hide ho
    clear ho
    by_cases hlt : k < n
    · have hl : k < ls.length := by rw [unhide HN]; exact hlt
      have hck := unhide HC k hl
      obtain ⟨l, hL⟩ : ∃ l, ls[k] = l := ⟨_, rfl⟩
      rw [hL] at hck
      have c0 := up_cell hu hck.1
      unfold Lst.val at c0
      have hm := hck.2.2
      have HX := hide hL
      clear hL hck
      by_cases hp : l.ps.length ≤ 256
      · go_wp2_with fail
        go_roundw
        case rel => exact ⟨k + 1, by omega, by go_num, hu, by unfold fewB; rw [all_take_succ hl, unhide HX]; have := unhide HO; unfold fewB at this; rw [this]; simpa using hp⟩
        case measure => simp [intOf]; omega
      · go_wp2_with fail
        go_ret
        refine ⟨ret_int ?_, hu⟩
        unfold chkLL fewB
        rw [all_at hl (by rw [unhide HX]; simpa using hp)]
        rfl
    · obtain rfl : k = n := by omega
      have hz : fewB ls = true := by
        have := unhide HO
        rwa [List.take_of_length_le (by rw [unhide HN]; omega)] at this
      have HZ := hide hz
      clear hz
      go_wp2_with fail
      go_loopw [20] (fun i wr => ∃ j : Nat, j ≤ k ∧ i = .int .i64 j ∧ Up w wr ∧ okLL (ls.take j) = true) (fun i _ => k - (intOf i).toNat)
      case atStart => exact ⟨0, by omega, rfl, hu, rfl⟩
      case round =>
        obtain ⟨j, hj, rfl, hu, ho⟩ := hrel
        have HO2 := hide ho
        clear ho
        by_cases hlt : j < k
        · have hl : j < ls.length := by rw [unhide HN]; exact hlt
          have hck := unhide HC j hl
          obtain ⟨l, hL⟩ : ∃ l, ls[j] = l := ⟨_, rfl⟩
          rw [hL] at hck
          have c0 := up_cell hu hck.1
          unfold Lst.val at c0
          have hp := hide (pts_up hck.2.1 hu)
          have hm := hck.2.2
          have HX := hide hL
          clear hL hck
          cases ho : okL l.ps
          · have hv : chkL l.ps = 2 := by unfold chkL; rw [ho]; rfl
            have HP := hide ho
            clear ho
            go_wp2_with (go_at_call 67; refine (p_checkPoints _ _ _ _ (unhide hp) hm).mono ?_; rintro e w' ⟨rfl, hb⟩)
            go_ret
            refine ⟨ret_int ?_, (by repeat' (first | (with_reducible exact up_refl _) | (with_reducible assumption) | (with_reducible refine up_alloc ?_ _) | (with_reducible refine up_drewN ?_ _) | (with_reducible refine up_drew ?_) | (with_reducible refine up_set ?_ (by first | (simp; done) | (simp; omega) | omega) _) | (refine up_trans ?_ (by with_reducible assumption))))⟩
            unfold chkLL okLL
            rw [unhide HZ, all_at hl (by rw [unhide HX]; exact unhide HP)]
            rfl
          · have hv : chkL l.ps = 0 := by unfold chkL; rw [ho]; rfl
            have HP := hide ho
            clear ho
            go_wp2_with (go_at_call 67; refine (p_checkPoints _ _ _ _ (unhide hp) hm).mono ?_; rintro e w' ⟨rfl, hb⟩)
            go_roundw
            case rel => exact ⟨j + 1, by omega, by go_num, (by repeat' (first | (with_reducible exact up_refl _) | (with_reducible assumption) | (with_reducible refine up_alloc ?_ _) | (with_reducible refine up_drewN ?_ _) | (with_reducible refine up_drew ?_) | (with_reducible refine up_set ?_ (by first | (simp; done) | (simp; omega) | omega) _) | (refine up_trans ?_ (by with_reducible assumption)))), by unfold okLL; rw [all_take_succ hl, unhide HX]; have := unhide HO2; unfold okLL at this; rw [this]; simpa using unhide HP⟩
            case measure => simp [intOf]; omega
        · obtain rfl : j = k := by omega
          have hz2 : chkLL ls = 0 := by
            unfold chkLL
            have := unhide HO2
            rw [List.take_of_length_le (by rw [unhide HN]; omega)] at this
            rw [unhide HZ, this]; rfl
          have HZ2 := hide hz2
          clear hz2
          go_wp2_with fail
          go_ret
          exact ⟨ret_int (unhide HZ2).symm, hu⟩
end Go.Proofs.YtooochbfnmmnkaaGreat
namespace Go.Proofs.YtooochbfnmmnkaaGreat
open Go.RowKit Go.Proofs.Gn
open Classical in
/-- Does it turn to the left at each corner? -/
noncomputable def tlB (l : Pl) : Bool := decide (∀ i, i < l.length → 0 < Gx.dt (Gx.g l i) (Gx.gc l (i + 1)) (Gx.gc l (i + 2)))
open Classical in
noncomputable def isHB (l : Pl) : Bool := decide (Gx.IsH l)
open Classical in
theorem isHB_iff {l : Pl} : isHB l = true ↔ Gx.IsH l := by unfold isHB; exact decide_eq_true_iff
open Classical in
theorem tlB_iff {l : Pl} : tlB l = true ↔ ∀ i, i < l.length → 0 < Gx.dt (Gx.g l i) (Gx.gc l (i + 1)) (Gx.gc l (i + 2)) := by unfold tlB; exact decide_eq_true_iff
theorem bool_no {b : Bool} (h : ¬ b = true) : b = false := by cases b; rfl; exact absurd rfl h
theorem tlB_yes {l : Pl} (h : ∀ i, i < l.length → 0 < Gx.dt (Gx.g l i) (Gx.gc l (i + 1)) (Gx.gc l (i + 2))) : tlB l = true := tlB_iff.2 h
theorem tlB_no {l : Pl} {i : Nat} (hi : i < l.length) (h : ¬ 0 < Gx.dt (Gx.g l i) (Gx.gc l (i + 1)) (Gx.gc l (i + 2))) : tlB l = false := bool_no fun k => h (tlB_iff.1 k i hi)
theorem tmod_nat (a b : Nat) : ((a : Int)).tmod (b : Int) = ((a % b : Nat) : Int) := rfl
/-- What isHull looks at of the corners up to k. -/
def FanOK (l : Pl) (k : Nat) : Prop := ∀ i, i < k → Gx.lt2 (Gx.g l 0) (Gx.g l (i + 1)) ∧ (0 < i → 0 < Gx.dt (Gx.g l 0) (Gx.g l i) (Gx.g l (i + 1)))
theorem fan_step {l : Pl} {k : Nat} (h : FanOK l k) (h1 : Gx.lt2 (Gx.g l 0) (Gx.g l (k + 1))) (h2 : 0 < k → 0 < Gx.dt (Gx.g l 0) (Gx.g l k) (Gx.g l (k + 1))) : FanOK l (k + 1) := fun i hi => by
  rcases Nat.lt_or_ge i k with c | c
  · exact h i c
  · obtain rfl : i = k := by omega
    exact ⟨h1, h2⟩
theorem isHB_no {l : Pl} {k : Nat} (hk : k + 1 < l.length) (h : ¬ (Gx.lt2 (Gx.g l 0) (Gx.g l (k + 1)) ∧ (0 < k → 0 < Gx.dt (Gx.g l 0) (Gx.g l k) (Gx.g l (k + 1))))) : isHB l = false := by
  refine bool_no fun q => ?_
  have p := isHB_iff.1 q
  exact h ⟨p.first k hk, fun h0 => p.fan k h0 hk⟩
theorem isHB_end {l : Pl} (h0 : 0 < l.length) (h : FanOK l (l.length - 1)) : isHB l = if l.length < 3 then true else tlB l := by
  have f1 : ∀ i, i + 1 < l.length → Gx.lt2 (Gx.g l 0) (Gx.g l (i + 1)) := fun i hi => (h i (by omega)).1
  have f2 : ∀ i, 0 < i → i + 1 < l.length → 0 < Gx.dt (Gx.g l 0) (Gx.g l i) (Gx.g l (i + 1)) := fun i h1 hi => (h i (by omega)).2 h1
  have ne : l ≠ [] := by intro e; rw [e] at h0; simp at h0
  split
  · rename_i c
    exact isHB_iff.2 ⟨ne, f1, f2, fun h3 => absurd h3 (by omega)⟩
  · rename_i c
    by_cases ht : ∀ i, i < l.length → 0 < Gx.dt (Gx.g l i) (Gx.gc l (i + 1)) (Gx.gc l (i + 2))
    · rw [tlB_yes ht]
      exact isHB_iff.2 ⟨ne, f1, f2, fun _ => ht⟩
    · have e : tlB l = false := bool_no fun k => ht (tlB_iff.1 k)
      rw [e]
      exact bool_no fun q => ht ((isHB_iff.1 q).turn (by omega))
end Go.Proofs.YtooochbfnmmnkaaGreat
namespace Go.Proofs.YtooochbfnmmnkaaGreat
open Go.RowKit Go.Proofs.Gn
/-- The length of the piece k, and of the first k pieces. -/
def px (ps : Pl) (k : Nat) : Int := (ps.getD k (0, 0)).1
def py (ps : Pl) (k : Nat) : Int := (ps.getD k (0, 0)).2
def far (ps : Pl) (k : Nat) : Int := root (sqd (px ps k) (py ps k) (px ps (k + 1)) (py ps (k + 1)))
def lon (ps : Pl) : Nat → Int
  | 0 => 0
  | k + 1 => lon ps k + far ps k
theorem lon_succ (ps : Pl) (k : Nat) : lon ps (k + 1) = lon ps k + far ps k := rfl
/-- A list that is looked at: not too long, its points valid, not empty. -/
def wayB (ps : Pl) : Bool := decide (ps.length ≤ 256) && okL ps && decide (0 < ps.length)
def wayE (ps : Pl) : Int := if ps.length ≤ 256 then if okL ps then if 0 < ps.length then 0 else 5 else 2 else 6
def wayV (ps : Pl) : Int := if wayB ps then lon ps (ps.length - 1) else 0
theorem okL_get {ps : Pl} (h : okL ps = true) {k : Nat} (hk : k < ps.length) : okp (px ps k) (py ps k) = true := by
  unfold px py
  rw [List.getD_eq_getElem?_getD, List.getElem?_eq_getElem hk]
  have := List.all_eq_true.1 h ps[k] (List.getElem_mem hk)
  simpa using this
theorem pts_get {w : World} {b off : Nat} {ps : Pl} (hc : ∀ k (h : k < ps.length), w.cell? ⟨b, off + k * 2, none⟩ = some (.int .i64 ps[k].1) ∧ w.cell? ⟨b, off + k * 2 + 1, none⟩ = some (.int .i64 ps[k].2)) {k : Nat} (hk : k < ps.length) :
    w.cell? ⟨b, off + k * 2, none⟩ = some (.int .i64 (px ps k)) ∧ w.cell? ⟨b, off + k * 2 + 1, none⟩ = some (.int .i64 (py ps k)) := by
  unfold px py
  rw [List.getD_eq_getElem?_getD, List.getElem?_eq_getElem hk]
  exact hc k hk
theorem far_bd {ps : Pl} (h : okL ps = true) {k : Nat} (hk : k + 1 < ps.length) : 0 ≤ far ps k ∧ far ps k ≤ 67108864 := by
  have a := okL_get h (k := k) (by omega)
  have b := okL_get h hk
  have a1 := okc_yes (okp_yes a).1
  have a2 := okc_yes (okp_yes a).2
  have b1 := okc_yes (okp_yes b).1
  have b2 := okc_yes (okp_yes b).2
  refine ⟨root_nonneg _, root_le (sqd_nonneg _ _ _ _) (by omega) ?_⟩
  unfold sqd
  have m1 := mul_bd2 (u := px ps (k + 1) - px ps k) (v := px ps (k + 1) - px ps k) (by omega) (by omega) (by omega) (by omega)
  have m2 := mul_bd2 (u := py ps (k + 1) - py ps k) (v := py ps (k + 1) - py ps k) (by omega) (by omega) (by omega) (by omega)
  omega
theorem lon_bd {ps : Pl} (h : okL ps = true) : ∀ k : Nat, k < ps.length → 0 ≤ lon ps k ∧ lon ps k ≤ 67108864 * (k : Int) := by
  intro k
  induction k with
  | zero => intro _; simp [lon]
  | succ k ih =>
    intro hk
    have a := ih (by omega)
    have b := far_bd h hk
    rw [lon_succ]
    omega
theorem chkLL_one (A : Option Addr) (ps : Pl) (cap : Nat) : chkLL [⟨A, ps, cap⟩] = if ps.length ≤ 256 then if okL ps then 0 else 2 else 6 := by
  simp [chkLL, fewB, okLL]
/-! ### The document's own answers -/
def ptsE (ps : Pl) : Int := if ps.length ≤ 256 then if okL ps then 0 else 2 else 6
end Go.Proofs.YtooochbfnmmnkaaGreat
namespace Go.Proofs.YtooochbfnmmnkaaGreat
open Go.RowKit Go.Proofs.Gn
theorem okL_bdL {ps : Pl} (h : okL ps = true) : BdL ps := fun p hp => okp_bd (List.all_eq_true.1 h p hp)
/-- The errors of hulls. -/
noncomputable def hulE (ls : List Lst) : Int := if chkLL ls = 0 then if (ls.all fun l => isHB l.ps) then 0 else 2 else chkLL ls
theorem chkLL_zero {ls : List Lst} (h : chkLL ls = 0) : ∀ l ∈ ls, l.ps.length ≤ 256 ∧ okL l.ps = true := by
  unfold chkLL at h
  intro l hl
  cases h1 : fewB ls with
  | false => rw [h1] at h; simp at h
  | true =>
    cases h2 : okLL ls with
    | false => rw [h1, h2] at h; simp at h
    | true => exact ⟨by simpa using List.all_eq_true.1 h1 l hl, List.all_eq_true.1 h2 l hl⟩
theorem hulE_one {A : Option Addr} {ps : Pl} {cap : Nat} (hl : ps.length ≤ 256) (ho : okL ps = true) : hulE [⟨A, ps, cap⟩] = if isHB ps then 0 else 2 := by
  have : chkLL [⟨A, ps, cap⟩] = 0 := by rw [chkLL_one, if_pos hl, ho]; rfl
  unfold hulE
  rw [if_pos this]
  simp
theorem p_HullNone (A : Option Addr) (cap : Nat) (w : World) :
    Calls Tryz.prog 22 #[.slice A 0 cap] w fun e w' => e = .returned (.tuple #[.slice none 0 0, .int .i64 5]) ∧ Up w w' := by
  have PC : ∀ W, Up w W → W.cell? ⟨w.heap.size, 0, none⟩ = some (.slice A 0 cap) → Calls Tryz.prog 46 #[.slice (some ⟨w.heap.size, 0, none⟩) 1 1] W fun e w' => e = .returned (.int .i64 0) ∧ Up W w' := fun W hu hw =>
    p_checkLists (some ⟨w.heap.size, 0, none⟩) [⟨A, [], cap⟩] 1 W (lss_one (l := ⟨A, [], cap⟩) hw (.inl rfl) (by simp)) (by simp)
  have HPC := hide PC
  clear PC
  go_enter Tryz.func22, Tryz.ntmps22
  go_wp2_with (go_at_call 46; (with_reducible refine (unhide HPC _ (by repeat' (first | (with_reducible exact up_refl _) | (with_reducible assumption) | (with_reducible refine up_alloc ?_ _) | (with_reducible refine up_drewN ?_ _) | (with_reducible refine up_drew ?_) | (with_reducible refine up_set ?_ (by first | (simp; done) | (simp; omega) | omega) _) | (refine up_trans ?_ (by with_reducible assumption)))) ?_).mono ?_); (· go_cell); rintro e w1 ⟨rfl, hb1⟩)
  go_ret2
  exact ⟨rfl, (by repeat' (first | (with_reducible exact up_refl _) | (with_reducible assumption) | (with_reducible refine up_alloc ?_ _) | (with_reducible refine up_drewN ?_ _) | (with_reducible refine up_drew ?_) | (with_reducible refine up_set ?_ (by first | (simp; done) | (simp; omega) | omega) _) | (refine up_trans ?_ (by with_reducible assumption))))⟩
theorem p_Hull (A : Option Addr) (ps : Pl) (cap : Nat) (w : World) (h : Pts w A ps) (h0 : 0 < ps.length) (hl : ps.length ≤ 256) (ho : okL ps = true) :
    Calls Tryz.prog 22 #[.slice A ps.length cap] w fun e w' => ∃ v, e = .returned (.tuple #[v, .int .i64 0]) ∧ w'.ownsRow w.heap.size 43 2 v (Gx.hullF ps).length (cellsPl (Gx.hullF ps)) ∧ Below w.heap.size w w' := by
  have PC : ∀ W, Up w W → W.cell? ⟨w.heap.size, 0, none⟩ = some (.slice A ps.length cap) → Calls Tryz.prog 46 #[.slice (some ⟨w.heap.size, 0, none⟩) 1 1] W fun e w' => e = .returned (.int .i64 0) ∧ Up W w' := fun W hu hw => by
    have q := p_checkLists (some ⟨w.heap.size, 0, none⟩) [⟨A, ps, cap⟩] 1 W (lss_one (l := ⟨A, ps, cap⟩) hw (pts_up h hu) (by show ps.length ≤ _; omega)) (by simp)
    rw [chkLL_one, if_pos hl, ho] at q
    exact q
  have PH : ∀ W, Up w W → Calls Tryz.prog 47 #[.slice A ps.length cap] W fun e w' => ∃ v, e = .returned v ∧ w'.ownsRow w.heap.size 43 2 v (Gx.hullF ps).length (cellsPl (Gx.hullF ps)) ∧ Up w w' := fun W hu =>
    (p_hull A ps cap W (pts_up h hu) h0 (by omega) (okL_bdL ho)).mono fun e w' ⟨v, he, hown, hb⟩ => ⟨v, he, own_base hown hu.size, up_trans hu hb⟩
  have HPC := hide PC
  have HPH := hide PH
  clear PC PH h ho
  obtain ⟨n, hN⟩ : ∃ n, ps.length = n := ⟨_, rfl⟩
  rw [hN] at HPC HPH h0 hl ⊢
  obtain ⟨R, hR⟩ : ∃ R, Gx.hullF ps = R := ⟨_, rfl⟩
  rw [hR] at HPH ⊢
  clear hN hR
  have n0 : ((n : Int) == 0) = false := by simp; omega
  go_enter Tryz.func22, Tryz.ntmps22
  go_wp2_with (first | (go_at_call 46; (with_reducible refine (unhide HPC _ (by repeat' (first | (with_reducible exact up_refl _) | (with_reducible assumption) | (with_reducible refine up_alloc ?_ _) | (with_reducible refine up_drewN ?_ _) | (with_reducible refine up_drew ?_) | (with_reducible refine up_set ?_ (by first | (simp; done) | (simp; omega) | omega) _) | (refine up_trans ?_ (by with_reducible assumption)))) ?_).mono ?_); (· go_cell); rintro e w1 ⟨rfl, hb1⟩) | (go_at_call 47; (with_reducible refine (unhide HPH _ (by repeat' (first | (with_reducible exact up_refl _) | (with_reducible assumption) | (with_reducible refine up_alloc ?_ _) | (with_reducible refine up_drewN ?_ _) | (with_reducible refine up_drew ?_) | (with_reducible refine up_set ?_ (by first | (simp; done) | (simp; omega) | omega) _) | (refine up_trans ?_ (by with_reducible assumption))))).mono ?_); rintro e w2 ⟨v, rfl, hown, hb2⟩))
  go_ret2
  exact ⟨v, rfl, hown, hb2⟩
end Go.Proofs.YtooochbfnmmnkaaGreat
