/- Pieces turned by a quarter: numbers. What each axle of a group carries: the document's own answers. The sums, parts and shares as they are handed out: the document's own answers. The parts of a platform, and which group tips: the document's own answers. A load of at most four boxes, as the laws of the top make it. -/
import Derived.Test.YthifcalemhpmoaaGreatPkMom
import Derived.Test.YthifcalemhpmoaaGreatPkRefDown
import Derived.Test.YthifcalemhpmoaaGreatPkChR
import Derived.Maps.AppendAt
import Derived.Test.YthifcalemhpmoaaGreatPkRefVeh
import Derived.Test.YthifcalemhpmoaaGreatPkTips
namespace Go.Proofs.YthifcalemhpmoaaGreat
open Go.RowKit Go.Proofs.Gn
attribute [local go_sem] Oper.semAt_some
set_option linter.unusedVariables false
structure Bxe where
  (x y z l w h m : Int)
def okBxe (b : Bxe) : Prop := (0 ≤ b.x ∧ b.x ≤ 255) ∧ (0 ≤ b.y ∧ b.y ≤ 255) ∧ (0 ≤ b.z ∧ b.z ≤ 255) ∧ (0 ≤ b.l ∧ b.l ≤ 255) ∧ (0 ≤ b.w ∧ b.w ≤ 255) ∧ (0 ≤ b.h ∧ b.h ≤ 255) ∧ (0 ≤ b.m ∧ b.m ≤ 65535)
def BxeAt (w : World) (b o : Nat) (e : Bxe) : Prop := w.cell? ⟨b, o, none⟩ = some (.int .u8 e.x) ∧ w.cell? ⟨b, o + 1, none⟩ = some (.int .u8 e.y) ∧ w.cell? ⟨b, o + 2, none⟩ = some (.int .u8 e.z) ∧ w.cell? ⟨b, o + 3, none⟩ = some (.int .u8 e.l) ∧ w.cell? ⟨b, o + 4, none⟩ = some (.int .u8 e.w) ∧ w.cell? ⟨b, o + 5, none⟩ = some (.int .u8 e.h) ∧ w.cell? ⟨b, o + 6, none⟩ = some (.int .u16 e.m)
/-- Where boxes lie. -/
def Bxes (w : World) (A : Option Addr) (bs : List Bxe) : Prop := bs = [] ∨ ∃ b off, A = some ⟨b, off, none⟩ ∧ ∀ k (h : k < bs.length), BxeAt w b (off + k * 7) bs[k]
/-- The piece that a box is. -/
def cgP (b : Bxe) : Pce := ⟨20 * b.x, 10 * b.y - 1280, 10 * b.z, 1 + 20 * b.l, 1 + 10 * b.w, 1 + 10 * b.h, 1 + b.m % 8000⟩
/-- The pieces of a load of boxes. -/
def cgL (bs : List Bxe) : List Pce := (bs.take 4).map cgP
def cellsPc (ps : List Pce) : List Value := ps.flatMap fun p => [.int .i64 p.x, .int .i64 p.y, .int .i64 p.z, .int .i64 p.l, .int .i64 p.w, .int .i64 p.h, .int .i64 p.m]
theorem cellsPc_snoc (ps : List Pce) (p : Pce) : cellsPc (ps ++ [p]) = cellsPc ps ++ [.int .i64 p.x, .int .i64 p.y, .int .i64 p.z, .int .i64 p.l, .int .i64 p.w, .int .i64 p.h, .int .i64 p.m] := by simp [cellsPc]
theorem info_pc : (Tryz.prog.info? 57).map (fun i => (i.zero, i.size, i.bytes)) = some (some (.agg #[.int .i64 0, .int .i64 0, .int .i64 0, .int .i64 0, .int .i64 0, .int .i64 0, .int .i64 0]), 7, 56) := by kernel_rfl
theorem news_anyC (W : World) (vs : List Value) (t : TypeId) : ∀ j u, vs[j]? = some u → (W.alloc (.cells vs.toArray t)).cell? ((⟨W.heap.size, 0, none⟩ : Addr).add j) = some u := fun j u hj => by
  have e : (⟨W.heap.size, 0, none⟩ : Addr).add j = ⟨W.heap.size, j, none⟩ := by unfold Addr.add; split <;> simp_all
  rw [e]
  exact (bx_new W vs t j u hj).1
theorem cellsPc_len (ps : List Pce) : (cellsPc ps).length = ps.length * 7 := by
  induction ps with
  | nil => rfl
  | cons p ps ih => unfold cellsPc at ih ⊢; rw [List.flatMap_cons, List.length_append, ih]; simp; omega
theorem cellsPc_at {ps : List Pce} : ∀ {k : Nat} (h : k < ps.length), (cellsPc ps)[k * 7]? = some (.int .i64 ps[k].x) ∧ (cellsPc ps)[k * 7 + 1]? = some (.int .i64 ps[k].y) ∧ (cellsPc ps)[k * 7 + 2]? = some (.int .i64 ps[k].z) ∧ (cellsPc ps)[k * 7 + 3]? = some (.int .i64 ps[k].l) ∧ (cellsPc ps)[k * 7 + 4]? = some (.int .i64 ps[k].w) ∧ (cellsPc ps)[k * 7 + 5]? = some (.int .i64 ps[k].h) ∧ (cellsPc ps)[k * 7 + 6]? = some (.int .i64 ps[k].m) := by
  induction ps with
  | nil => intro k h; simp at h
  | cons p ps ih =>
    intro k h
    have e : cellsPc (p :: ps) = .int .i64 p.x :: .int .i64 p.y :: .int .i64 p.z :: .int .i64 p.l :: .int .i64 p.w :: .int .i64 p.h :: .int .i64 p.m :: cellsPc ps := rfl
    rw [e]
    cases k with
    | zero => exact ⟨rfl, rfl, rfl, rfl, rfl, rfl, rfl⟩
    | succ k =>
      have q := ih (k := k) (by simpa using h)
      rw [show (k + 1) * 7 = k * 7 + 7 by omega]
      exact q
theorem own_pcs {W : World} {base e n : Nat} {v : Value} {ps : List Pce} (h : W.ownsRow base e 7 v n (cellsPc ps)) : ∃ A cap, v = .slice A ps.length cap ∧ Pcs W A ps := by
  have hl : (cellsPc ps).length = n * 7 := h.1
  rw [cellsPc_len] at hl
  obtain rfl : n = ps.length := by omega
  rcases h.2 with ⟨h1, h2⟩ | ⟨g, cap, cur, h1, _⟩
  · rw [h1]
    exact ⟨none, 0, by rw [h2], .inl (List.eq_nil_of_length_eq_zero h2)⟩
  · subst h1
    refine ⟨_, cap, rfl, .inr ⟨g, 0, rfl, fun k hk => ?_⟩⟩
    obtain ⟨a0, a1, a2, a3, a4, a5, a6⟩ := cellsPc_at hk
    simp only [Nat.zero_add]
    exact ⟨(h.cellAt (k * 7) (by omega)).trans a0, (h.cellAt (k * 7 + 1) (by omega)).trans a1, (h.cellAt (k * 7 + 2) (by omega)).trans a2, (h.cellAt (k * 7 + 3) (by omega)).trans a3, (h.cellAt (k * 7 + 4) (by omega)).trans a4, (h.cellAt (k * 7 + 5) (by omega)).trans a5, (h.cellAt (k * 7 + 6) (by omega)).trans a6⟩
theorem own_succC {W : World} {base e size k : Nat} {v : Value} {xs : List Value} (h : W.ownsRow base e size v (k + 1) xs) : ∃ g cap, v = .slice (some ⟨g, 0, none⟩) (k + 1) cap := by
  rcases h.2 with ⟨_, h2⟩ | ⟨g, cap, cur, h1, _⟩
  · omega
  · exact ⟨g, cap, h1⟩
theorem pcs_farC {W : World} {A : Option Addr} {ps : List Pce} {p : Addr} (h : Pcs W A ps) (hb : ∀ b off, A = some ⟨b, off, none⟩ → b ≠ p.block) (u : Value) : Pcs (W.setCell p u) A ps := by
  rcases h with h | ⟨b, off, e, hc⟩
  · exact .inl h
  · have hn := hb b off e
    have k : ∀ o v, W.cell? ⟨b, o, none⟩ = some v → (W.setCell p u).cell? ⟨b, o, none⟩ = some v := fun o v h => (World.cell?_of_block (a := ⟨b, o, none⟩) (Below.heap_setCell W p u b hn)).trans h
    refine .inr ⟨b, off, e, fun q hq => ?_⟩
    obtain ⟨a0, a1, a2, a3, a4, a5, a6⟩ := hc q hq
    exact ⟨k _ _ a0, k _ _ a1, k _ _ a2, k _ _ a3, k _ _ a4, k _ _ a5, k _ _ a6⟩
theorem bx_grownC {W W' : World} {b : Nat} {vs : List Value} {row : Option Nat} (h : Bx W b vs) (g : W.grownBy W' row) (hr : row ≠ some b) : Bx W' b vs := fun i v hi => by
  have hb : b < W.heap.size := World.block_lt_of_cell? _ _ (h i v hi).1
  have e := g.block b hb (fun e => hr e.symm)
  exact ⟨(World.cell?_of_block (a := ⟨b, i, none⟩) e).trans (h i v hi).1, (World.frozen?_of_block (a := ⟨b, i, none⟩) e).trans (h i v hi).2⟩
abbrev cgN : ByteArray := { data := #[99, 97, 114, 103, 111] }
set_option maxRecDepth 100000 in
set_option maxHeartbeats 8000000 in
theorem p_cargo (A : Option Addr) (bs : List Bxe) (cap : Nat) (w : World) (h : Bxes w A bs) (hb : ∀ k (h : k < bs.length), okBxe bs[k]) (hn : bs.length ≤ 9223372036854775807) :
    Calls Tryz.prog 5 #[.slice A bs.length cap] w fun e w' => (∃ P cp, e = .returned (loV cgN P (cgL bs).length cp none 0 0 300) ∧ Pcs w' P (cgL bs)) ∧ Up w w' := by
  have HS := hide h
  have HB := hide hb
  obtain ⟨N, hN⟩ : ∃ N, bs.length = N := ⟨_, rfl⟩
  have HN := hide hN
  rw [hN] at hn ⊢
  obtain ⟨i0', hi, hz0, hz1, hz2⟩ := info_parts info_pc
  have HI := hide hi
  clear h hb hN hi
  go_enter Tryz.func5, Tryz.ntmps5
  go_upto_region 2 with fail
  refine at_wpC (fun W0 hW0 => ?_)
  have U0 : Up w W0 := by rw [hW0]; exact (by repeat' (first | (with_reducible exact up_refl _) | (with_reducible assumption) | (with_reducible refine up_alloc ?_ _) | (with_reducible refine up_drewN ?_ _) | (with_reducible refine up_drew ?_) | (with_reducible refine up_set ?_ (by first | (simp; done) | (simp; omega) | omega) _) | (refine up_trans ?_ (by with_reducible assumption))))
  have hz : W0.heap.size = w.heap.size + 2 := by rw [hW0]; simp
  obtain ⟨bR, bL⟩ : Bx W0 w.heap.size [.string { data := #[] }, .slice none 0 0, .slice none 0 0, .int .i64 0] ∧ Bx W0 (w.heap.size + 1) [.string cgN, .slice none 0 0, .slice none 0 0, .int .i64 300] := by
    rw [hW0]
    refine ⟨bx_alloc (bx_new w _ _) _, ?_⟩
    have q := bx_new (w.alloc (.cells #[.string { data := #[] }, .slice none 0 0, .slice none 0 0, .int .i64 0] 27)) [.string cgN, .slice none 0 0, .slice none 0 0, .int .i64 300] 27
    rw [World.size_alloc] at q
    exact q
  clear hW0
  go_wp2
  go_loopw [4] (fun s4 wr => ∃ (k : Nat) (v : Value), k ≤ N ∧ k ≤ 4 ∧ s4 = .int .i64 k ∧ wr.ownsRow (w.heap.size + 1 + 1) 57 7 v k (cellsPc ((bs.take k).map cgP)) ∧ Bx wr (w.heap.size + 1) [.string cgN, v, .slice none 0 0, .int .i64 300] ∧ Bx wr w.heap.size [.string { data := #[] }, .slice none 0 0, .slice none 0 0, .int .i64 0] ∧ Up w wr) (fun s4 _ => N - (intOf s4).toNat)
  case atStart => exact ⟨0, .slice none 0 0, by omega, by omega, rfl, World.ownsRow_nil _ _ _ _, bL, bR, U0⟩
  case round =>
    clear bL bR U0 hz
    obtain ⟨k, v, hk, hk4, rfl, ow, bL, bR, hup⟩ := hrel
    by_cases hlt : k < N ∧ k < 4
    · have hl : k < bs.length := by rw [unhide HN]; exact hlt.1
      obtain ⟨b, off, rfl, hcc⟩ := (unhide HS).resolve_left (by intro e; rw [e] at hl; simp at hl)
      obtain ⟨x0, x1, x2, x3, x4, x5, x6⟩ := hcc k hl
      obtain ⟨o0, o1, o2, o3, o4, o5, o6⟩ := unhide HB k hl
      have hst : (bs.take (k + 1)).map cgP = (bs.take k).map cgP ++ [cgP bs[k]] := by rw [List.take_succ_eq_append_getElem hl, List.map_append]; rfl
      have HC := hide (show cellsPc ((bs.take (k + 1)).map cgP) = cellsPc ((bs.take k).map cgP) ++ [.int .i64 (20 * bs[k].x), .int .i64 (10 * bs[k].y - 1280), .int .i64 (10 * bs[k].z), .int .i64 (1 + 20 * bs[k].l), .int .i64 (1 + 10 * bs[k].w), .int .i64 (1 + 10 * bs[k].h), .int .i64 (1 + bs[k].m % 8000)] by rw [hst, cellsPc_snoc]; rfl)
      clear hcc hst
      generalize bs[k].x = X at *
      generalize bs[k].y = Y at *
      generalize bs[k].z = Z at *
      generalize bs[k].l = L at *
      generalize bs[k].w = W at *
      generalize bs[k].h = H at *
      generalize bs[k].m = M at *
      have y0 := up_cell hup x0
      have y1 := up_cell hup x1
      have y2 := up_cell hup x2
      have y3 := up_cell hup x3
      have y4 := up_cell hup x4
      have y5 := up_cell hup x5
      have y6 := up_cell hup x6
      have i0 : (0 : Int) ≤ (k : Int) := by omega
      have i1 : (k : Int) < (N : Int) := by omega
      have i2 : (k : Int) < 4 := by omega
      have i3 : (k : Int).toNat = k := by omega
      have hwk : IntKind.i64.wrap ((k : Int) + 1) = (k : Int) + 1 := IntWalk.i64_in _ ⟨by omega, by omega⟩
      have a0 : IntKind.i64.wrap X = X := IntWalk.i64_in _ ⟨by omega, by omega⟩
      have a1 : IntKind.i64.wrap Y = Y := IntWalk.i64_in _ ⟨by omega, by omega⟩
      have a2 : IntKind.i64.wrap Z = Z := IntWalk.i64_in _ ⟨by omega, by omega⟩
      have a3 : IntKind.i64.wrap L = L := IntWalk.i64_in _ ⟨by omega, by omega⟩
      have a4 : IntKind.i64.wrap W = W := IntWalk.i64_in _ ⟨by omega, by omega⟩
      have a5 : IntKind.i64.wrap H = H := IntWalk.i64_in _ ⟨by omega, by omega⟩
      have a6 : IntKind.i64.wrap M = M := IntWalk.i64_in _ ⟨by omega, by omega⟩
      have b0 : IntKind.i64.wrap (20 * X) = 20 * X := IntWalk.i64_in _ ⟨by omega, by omega⟩
      have b1 : IntKind.i64.wrap (10 * Y) = 10 * Y := IntWalk.i64_in _ ⟨by omega, by omega⟩
      have b1' : IntKind.i64.wrap (10 * Y - 1280) = 10 * Y - 1280 := IntWalk.i64_in _ ⟨by omega, by omega⟩
      have b2 : IntKind.i64.wrap (10 * Z) = 10 * Z := IntWalk.i64_in _ ⟨by omega, by omega⟩
      have b3 : IntKind.i64.wrap (20 * L) = 20 * L := IntWalk.i64_in _ ⟨by omega, by omega⟩
      have b3' : IntKind.i64.wrap (1 + 20 * L) = 1 + 20 * L := IntWalk.i64_in _ ⟨by omega, by omega⟩
      have b4 : IntKind.i64.wrap (10 * W) = 10 * W := IntWalk.i64_in _ ⟨by omega, by omega⟩
      have b4' : IntKind.i64.wrap (1 + 10 * W) = 1 + 10 * W := IntWalk.i64_in _ ⟨by omega, by omega⟩
      have b5 : IntKind.i64.wrap (10 * H) = 10 * H := IntWalk.i64_in _ ⟨by omega, by omega⟩
      have b5' : IntKind.i64.wrap (1 + 10 * H) = 1 + 10 * H := IntWalk.i64_in _ ⟨by omega, by omega⟩
      have m1 : M.tmod 8000 = M % 8000 := Int.tmod_eq_emod_of_nonneg (by omega)
      have b6 : IntKind.i64.wrap (M % 8000) = M % 8000 := IntWalk.i64_in _ ⟨by omega, by omega⟩
      have b6' : IntKind.i64.wrap (1 + M % 8000) = 1 + M % 8000 := IntWalk.i64_in _ ⟨by omega, by omega⟩
      clear x0 x1 x2 x3 x4 x5 x6
      go_upto_region 6 with fail
      refine at_wpC (fun W1 hW1 => ?_)
      have U1 : Up wr W1 := by rw [hW1]; exact (by repeat' (first | (with_reducible exact up_refl _) | (with_reducible assumption) | (with_reducible refine up_alloc ?_ _) | (with_reducible refine up_drewN ?_ _) | (with_reducible refine up_drew ?_) | (with_reducible refine up_set ?_ (by first | (simp; done) | (simp; omega) | omega) _) | (refine up_trans ?_ (by with_reducible assumption))))
      have bB : Bx W1 wr.heap.size [.int .u8 X, .int .u8 Y, .int .u8 Z, .int .u8 L, .int .u8 W, .int .u8 H, .int .u16 M] := by rw [hW1]; exact bx_new wr _ _
      clear hW1 y0 y1 y2 y3 y4 y5 y6
      have bL1 := bx_up bL U1
      have bR1 := bx_up bR U1
      have ow1 := own_up ow U1
      have up1 := up_trans hup U1
      obtain ⟨g, hg⟩ : ∃ g, wr.heap.size = g := ⟨_, rfl⟩
      rw [hg] at bB ⊢
      clear bL bR ow hup U1 hg
      have z0 := (bB 0 _ rfl).1
      have z1 := (bB 1 _ rfl).1
      have z2 := (bB 2 _ rfl).1
      have z3 := (bB 3 _ rfl).1
      have z4 := (bB 4 _ rfl).1
      have z5 := (bB 5 _ rfl).1
      have z6 := (bB 6 _ rfl).1
      have l1 := (bL1 1 _ rfl).1
      have HL := hide bL1
      have HR := hide bR1
      have HO := hide ow1
      have HU := hide up1
      have rL : v.ownBlock ≠ some (w.heap.size + 1) := fun e => by have := (ow1.lt _ e).1; omega
      have rR : v.ownBlock ≠ some w.heap.size := fun e => by have := (ow1.lt _ e).1; omega
      have HOw := hide (fun g (h : v.ownBlock = some g) => (ow1.lt g h).1)
      clear bB bL1 bR1 ow1 up1
      go_wp2_with (at_builtin; refine wpList_append_own_at _ rfl _ _ 24 rfl (w.heap.size + 1 + 1) 57 i0' _ 7 56 Tryz.underlying24 (unhide HI) hz0 hz1 hz2 rfl (by decide) _ k (cellsPc ((bs.take k).map cgP)) rfl ((unhide HO).alloc _) _ 1 1 [.int .i64 (20 * X), .int .i64 (10 * Y - 1280), .int .i64 (10 * Z), .int .i64 (1 + 20 * L), .int .i64 (1 + 10 * W), .int .i64 (1 + 10 * H), .int .i64 (1 + M % 8000)] rfl rfl (news_anyC _ _ _) (by intro u hu; simp at hu; rcases hu with rfl | rfl | rfl | rfl | rfl | rfl | rfl <;> rfl) (by unfold maxLen; omega) (by omega) (by have := bx_lt (unhide HL) (by simp); simp; omega) ?_; intro v' w7 hown' hgrow _ hblk; obtain ⟨g7, c7, hv7⟩ := own_succC hown'; subst hv7; have bL7 := bx_grownC (bx_up (unhide HL) (up_alloc (up_refl _) _)) hgrow rL; have q0 := (bL7 1 _ rfl).1; have q1 := (bL7 1 _ rfl).2; have bR7 := bx_grownC (bx_up (unhide HR) (up_alloc (up_refl _) _)) hgrow rR; have up7 : Up w w7 := Below.grown (up_alloc (unhide HU) _) hgrow (up_alloc (unhide HU) _).size (fun g e => by have := unhide HOw _ e; omega))
      have R1 : w7.ownsRow (w.heap.size + 1 + 1) 57 7 (.slice (some ⟨g7, 0, none⟩) (k + 1) c7) (k + 1) (cellsPc ((bs.take (k + 1)).map cgP)) := by rw [unhide HC]; exact hown'
      have R2 := ownsRow_setCell_below R1 (a := ⟨w.heap.size + 1, 1, none⟩) (by simp only; omega) (.slice (some ⟨g7, 0, none⟩) (k + 1) c7)
      have R3 := bx_set bL7 1 (.slice (some ⟨g7, 0, none⟩) (k + 1) c7)
      have R4 := bx_far bR7 (p := ⟨w.heap.size + 1, 1, none⟩) (by simp only; omega) (.slice (some ⟨g7, 0, none⟩) (k + 1) c7)
      have R5 := up_set up7 (p := ⟨w.heap.size + 1, 1, none⟩) (by simp only; omega) (.slice (some ⟨g7, 0, none⟩) (k + 1) c7)
      first
        | exact ⟨⟨k + 1, (.slice (some ⟨g7, 0, none⟩) (k + 1) c7), by omega, by omega, by go_num, R2, R3, R4, R5⟩, by simp [intOf]; omega⟩
        | (go_roundw; (case rel => exact ⟨k + 1, (.slice (some ⟨g7, 0, none⟩) (k + 1) c7), by omega, by omega, by go_num, R2, R3, R4, R5⟩); (case measure => simp [intOf]; omega))
        | (trace_state; sorry)
    · have hE : bs.take k = bs.take 4 := by
        by_cases h4 : k = 4
        · rw [h4]
        · rw [List.take_of_length_le (by rw [unhide HN]; omega), List.take_of_length_le (by rw [unhide HN]; omega)]
      rw [hE, show (bs.take 4).map cgP = cgL bs from rfl] at ow
      obtain ⟨P, cp, rfl, hP⟩ := own_pcs ow
      have hfar : ∀ bb oo, P = some ⟨bb, oo, none⟩ → bb ≠ w.heap.size := fun bb oo e => (by have := (ow.lt bb (by rw [e]; rfl)).1; omega)
      have c0 := (bL 0 _ rfl).1
      have c1 := (bL 1 _ rfl).1
      have c2 := (bL 2 _ rfl).1
      have c3 := (bL 3 _ rfl).1
      have d0 := (bR 0 _ rfl).1
      have d1 := (bR 1 _ rfl).1
      have d2 := (bR 2 _ rfl).1
      have d3 := (bR 3 _ rfl).1
      have f0 := (bR 0 _ rfl).2
      have f1 := (bR 1 _ rfl).2
      have f2 := (bR 2 _ rfl).2
      have f3 := (bR 3 _ rfl).2
      have HFar := hide hfar
      have HP := hide hP
      have HU := hide hup
      obtain ⟨K, hK⟩ : ∃ K, (cgL bs).length = K := ⟨_, rfl⟩
      rw [hK] at c1
      have HKK := hide hK
      clear hfar hP hE hK ow hup
      by_cases hlN : k < N
      · have i1 : (k : Int) < (N : Int) := by omega
        have i2 : ¬ (k : Int) < 4 := by omega
        go_wp2
        have B9 := bx_set (bx_set (bx_set (bx_set bR 0 (.string cgN)) 1 (.slice P K cp)) 2 (.slice none 0 0)) 3 (.int .i64 300)
        have U9 : Up w ((((wr.setCell ⟨w.heap.size, 0, none⟩ (.string cgN)).setCell ⟨w.heap.size, 1, none⟩ (.slice P K cp)).setCell ⟨w.heap.size, 2, none⟩ (.slice none 0 0)).setCell ⟨w.heap.size, 3, none⟩ (.int .i64 300)) := up_set (up_set (up_set (up_set (unhide HU) (by simp) _) (by simp) _) (by simp) _) (by simp) _
        have Q9 := pcs_farC (pcs_farC (pcs_farC (pcs_farC (unhide HP) (p := ⟨w.heap.size, 0, none⟩) (unhide HFar) (.string cgN)) (p := ⟨w.heap.size, 1, none⟩) (unhide HFar) (.slice P K cp)) (p := ⟨w.heap.size, 2, none⟩) (unhide HFar) (.slice none 0 0)) (p := ⟨w.heap.size, 3, none⟩) (unhide HFar) (.int .i64 300)
        generalize (((wr.setCell ⟨w.heap.size, 0, none⟩ (.string cgN)).setCell ⟨w.heap.size, 1, none⟩ (.slice P K cp)).setCell ⟨w.heap.size, 2, none⟩ (.slice none 0 0)).setCell ⟨w.heap.size, 3, none⟩ (.int .i64 300) = W9 at *
        have z0 := (B9 0 _ rfl).1
        have z1 := (B9 1 _ rfl).1
        have z2 := (B9 2 _ rfl).1
        have z3 := (B9 3 _ rfl).1
        refine bodyPost_ret (v := loV cgN P K cp none 0 0 300) (by simp [results, Tryz.f5, go_sem, z0, z1, z2, z3]) rfl ?_
        exact ⟨⟨P, ⟨cp, by rw [unhide HKK]⟩, Q9⟩, U9⟩
      · have i1 : ¬ (k : Int) < (N : Int) := by omega
        go_wp2
        have B9 := bx_set (bx_set (bx_set (bx_set bR 0 (.string cgN)) 1 (.slice P K cp)) 2 (.slice none 0 0)) 3 (.int .i64 300)
        have U9 : Up w ((((wr.setCell ⟨w.heap.size, 0, none⟩ (.string cgN)).setCell ⟨w.heap.size, 1, none⟩ (.slice P K cp)).setCell ⟨w.heap.size, 2, none⟩ (.slice none 0 0)).setCell ⟨w.heap.size, 3, none⟩ (.int .i64 300)) := up_set (up_set (up_set (up_set (unhide HU) (by simp) _) (by simp) _) (by simp) _) (by simp) _
        have Q9 := pcs_farC (pcs_farC (pcs_farC (pcs_farC (unhide HP) (p := ⟨w.heap.size, 0, none⟩) (unhide HFar) (.string cgN)) (p := ⟨w.heap.size, 1, none⟩) (unhide HFar) (.slice P K cp)) (p := ⟨w.heap.size, 2, none⟩) (unhide HFar) (.slice none 0 0)) (p := ⟨w.heap.size, 3, none⟩) (unhide HFar) (.int .i64 300)
        generalize (((wr.setCell ⟨w.heap.size, 0, none⟩ (.string cgN)).setCell ⟨w.heap.size, 1, none⟩ (.slice P K cp)).setCell ⟨w.heap.size, 2, none⟩ (.slice none 0 0)).setCell ⟨w.heap.size, 3, none⟩ (.int .i64 300) = W9 at *
        have z0 := (B9 0 _ rfl).1
        have z1 := (B9 1 _ rfl).1
        have z2 := (B9 2 _ rfl).1
        have z3 := (B9 3 _ rfl).1
        refine bodyPost_ret (v := loV cgN P K cp none 0 0 300) (by simp [results, Tryz.f5, go_sem, z0, z1, z2, z3]) rfl ?_
        exact ⟨⟨P, ⟨cp, by rw [unhide HKK]⟩, Q9⟩, U9⟩
end Go.Proofs.YthifcalemhpmoaaGreat
namespace Go.Proofs.YthifcalemhpmoaaGreat
open Go.RowKit Go.Proofs.Gn
theorem bx_two' (w : World) (v1 v2 : List Value) (t1 t2 : TypeId) : Bx ((w.alloc (.cells v1.toArray t1)).alloc (.cells v2.toArray t2)) w.heap.size v1 ∧ Bx ((w.alloc (.cells v1.toArray t1)).alloc (.cells v2.toArray t2)) (w.heap.size + 1) v2 := by
  refine ⟨bx_alloc (bx_new w _ _) _, ?_⟩
  have h := bx_new (w.alloc (.cells v1.toArray t1)) v2 t2
  rwa [sz1] at h
end Go.Proofs.YthifcalemhpmoaaGreat
namespace Go.Proofs.YthifcalemhpmoaaGreat
open Go.RowKit Go.Proofs.Gn
def z3 : List Value := [.int .i64 0, .int .i64 0, .int .i64 0]
theorem atE_cases (ps : List Gs.Sup) (X Y : Int) : (¬ chE ps = 0 ∧ atE ps X Y = chE ps) ∨ (chE ps = 0 ∧ ptE X Y = 3 ∧ atE ps X Y = 3) ∨ (chE ps = 0 ∧ ptE X Y = 0 ∧ atE ps X Y = 0) := by
  unfold atE
  by_cases c : chE ps = 0
  · rw [if_pos c]
    right
    unfold ptE
    split
    · exact .inr ⟨c, rfl, rfl⟩
    · exact .inl ⟨c, rfl, rfl⟩
  · rw [if_neg c]
    exact .inl ⟨c, rfl⟩
end Go.Proofs.YthifcalemhpmoaaGreat
namespace Go.Proofs.YthifcalemhpmoaaGreat
open Go.RowKit Go.Proofs.Gn
theorem boE_ch {ps : List Gs.Sup} {m X Y : Int} (h : chE ps = 0) : (boE ps m X Y = 0 ∧ msE m = 0 ∧ ptE X Y = 0) ∨ (boE ps m X Y = 3 ∧ msE m = 3) ∨ (boE ps m X Y = 3 ∧ msE m = 0 ∧ ptE X Y = 3) := by
  have h1 : msE m = 0 ∨ msE m = 3 := by unfold msE; split <;> simp
  have h2 : ptE X Y = 0 ∨ ptE X Y = 3 := by unfold ptE; split <;> simp
  unfold boE
  rw [if_pos h]
  rcases h1 with h1 | h1 <;> rcases h2 with h2 | h2 <;> simp [h1, h2]
end Go.Proofs.YthifcalemhpmoaaGreat
namespace Go.Proofs.YthifcalemhpmoaaGreat
open Go.RowKit Go.Proofs.Gn
set_option linter.unusedVariables false
/-- A piece, turned to the left. -/
def trP (p : Pce) : Pce := ⟨-(p.y + p.w), p.x, p.z, p.w, p.l, p.h, p.m⟩
theorem tr_ok {p : Pce} (h : okP p = true) : okP (trP p) = true := by
  rw [okP_iff] at h ⊢
  unfold okPp at h ⊢
  unfold trP
  dsimp only
  omega
theorem tr_oks {L : List Pce} (h : okPs L = true) : okPs (L.map trP) = true := by
  unfold okPs at h ⊢
  rw [List.all_eq_true] at h ⊢
  intro p hp
  obtain ⟨q, hq, rfl⟩ := List.mem_map.1 hp
  exact tr_ok (h q hq)
theorem mas_tr (L : List Pce) : mas (L.map trP) = mas L := by
  induction L with
  | nil => rfl
  | cons p L ih => simp only [List.map_cons, mas, ih]; rfl
theorem moX_tr (L : List Pce) : mo fX (L.map trP) = -(mo fY L) := by
  induction L with
  | nil => rfl
  | cons p L ih =>
    simp only [List.map_cons, mo, ih]
    have : fX (trP p) = -(fY p) := by unfold fX fY trP; dsimp only; grind
    omega
theorem moY_tr (L : List Pce) : mo fY (L.map trP) = mo fX L := by
  induction L with
  | nil => rfl
  | cons p L ih =>
    simp only [List.map_cons, mo, ih]
    have : fY (trP p) = fX p := rfl
    omega
theorem moZ_tr (L : List Pce) : mo fZ (L.map trP) = mo fZ L := by
  induction L with
  | nil => rfl
  | cons p L ih =>
    simp only [List.map_cons, mo, ih]
    have : fZ (trP p) = fZ p := rfl
    omega
theorem lo_tr {L : List Pce} (h : loE cgN L [] 300 = 0) : loE cgN (L.map trP) [] 300 = 0 := by
  obtain ⟨g, a, b, c, d, e⟩ := loE_ok h
  have hc := tr_oks c
  exact lo0 ⟨by rw [List.length_map]; exact g.1, by rw [List.length_map]; exact g.2.1, g.2.2⟩ a ((win_iff _ _ _).2 b) (by rw [hc, d]; rfl) ((win_iff _ _ _).2 (by rw [mas_tr]; exact e))
end Go.Proofs.YthifcalemhpmoaaGreat
