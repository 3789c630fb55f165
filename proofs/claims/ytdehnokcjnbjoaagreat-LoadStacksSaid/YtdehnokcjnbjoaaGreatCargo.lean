/- A load of at most four boxes, as the laws of the top make it. -/
import Derived.Test.YtdehnokcjnbjoaaGreatChkL
import Derived.Test.YtdehnokcjnbjoaaGreatPkLdM
import Derived.Test.YtdehnokcjnbjoaaGreatPkLdE
import Derived.Maps.AppendAt
namespace Go.Proofs.YtdehnokcjnbjoaaGreat
open Go.RowKit Go.Proofs.Gn
attribute [local go_sem] Oper.semAt_some
set_option linter.unusedVariables false
structure Bxe where
  (x y z l w h m : Int)
def okBxe (b : Bxe) : Prop := (0 ≤ b.x ∧ b.x ≤ 255) ∧ (0 ≤ b.y ∧ b.y ≤ 255) ∧ (0 ≤ b.z ∧ b.z ≤ 255) ∧ (0 ≤ b.l ∧ b.l ≤ 255) ∧ (0 ≤ b.w ∧ b.w ≤ 255) ∧ (0 ≤ b.h ∧ b.h ≤ 255) ∧ (0 ≤ b.m ∧ b.m ≤ 65535)
def BxeAt (w : World) (b o : Nat) (e : Bxe) : Prop := w.cell? ⟨b, o, none⟩ = some (.int .u8 e.x) ∧ w.cell? ⟨b, o + 1, none⟩ = some (.int .u8 e.y) ∧ w.cell? ⟨b, o + 2, none⟩ = some (.int .u8 e.z) ∧ w.cell? ⟨b, o + 3, none⟩ = some (.int .u8 e.l) ∧ w.cell? ⟨b, o + 4, none⟩ = some (.int .u8 e.w) ∧ w.cell? ⟨b, o + 5, none⟩ = some (.int .u8 e.h) ∧ w.cell? ⟨b, o + 6, none⟩ = some (.int .u16 e.m)
/-- Where boxes lie. -/
def Bxes (w : World) (A : Option Addr) (bs : List Bxe) : Prop := bs = [] ∨ ∃ b off, A = some ⟨b, off, none⟩ ∧ ∀ k (h : k < bs.length), BxeAt w b (off + k * 7) bs[k]
/-- The piece that a box is. -/
def cgP (b : Bxe) : Pce := ⟨20 * b.x, 10 * b.y - 1280, 10 * b.z, 1 + 20 * b.l, 1 + 10 * b.w, 1 + 10 * b.h, 1 + b.m % 8000⟩
/-- The pieces of a load of boxes. -/
def cgL (bs : List Bxe) : List Pce := (bs.take 4).map cgP
def cellsPc (ps : List Pce) : List Value := ps.flatMap fun p => [.int .i64 p.x, .int .i64 p.y, .int .i64 p.z, .int .i64 p.l, .int .i64 p.w, .int .i64 p.h, .int .i64 p.m]
theorem cellsPc_snoc (ps : List Pce) (p : Pce) : cellsPc (ps ++ [p]) = cellsPc ps ++ [.int .i64 p.x, .int .i64 p.y, .int .i64 p.z, .int .i64 p.l, .int .i64 p.w, .int .i64 p.h, .int .i64 p.m] := by simp [cellsPc]
theorem info_pc : (Tryz.prog.info? 75).map (fun i => (i.zero, i.size, i.bytes)) = some (some (.agg #[.int .i64 0, .int .i64 0, .int .i64 0, .int .i64 0, .int .i64 0, .int .i64 0, .int .i64 0]), 7, 56) := by kernel_rfl
theorem news_anyC (W : World) (vs : List Value) (t : TypeId) : ∀ j u, vs[j]? = some u → (W.alloc (.cells vs.toArray t)).cell? ((⟨W.heap.size, 0, none⟩ : Addr).add j) = some u := fun j u hj => by
  have e : (⟨W.heap.size, 0, none⟩ : Addr).add j = ⟨W.heap.size, j, none⟩ := by unfold Addr.add; split <;> simp_all
  rw [e]
  exact (bx_new W vs t j u hj).1
theorem cellsPc_len (ps : List Pce) : (cellsPc ps).length = ps.length * 7 := by
  induction ps with
  | nil => rfl
  | cons p ps ih => unfold cellsPc at ih ⊢; rw [List.flatMap_cons, List.length_append, ih]; simp; omega
theorem cellsPc_at {ps : List Pce} : ∀ {k : Nat} (h : k < ps.length), (cellsPc ps)[k * 7]? = some (.int .i64 ps[k].x) ∧ (cellsPc ps)[k * 7 + 1]? = some (.int .i64 ps[k].y) ∧ (cellsPc ps)[k * 7 + 2]? = some (.int .i64 ps[k].z) ∧ (cellsPc ps)[k * 7 + 3]? = some (.int .i64 ps[k].l) ∧ (cellsPc ps)[k * 7 + 4]? = some (.int .i64 ps[k].w) ∧ (cellsPc ps)[k * 7 + 5]? = some (.int .i64 ps[k].h) ∧ (cellsPc ps)[k * 7 + 6]? = some (.int .i64 ps[k].m) := by
  induction ps with
  | nil => intro k h; simp at h
  | cons p ps ih =>
    intro k h
    have e : cellsPc (p :: ps) = .int .i64 p.x :: .int .i64 p.y :: .int .i64 p.z :: .int .i64 p.l :: .int .i64 p.w :: .int .i64 p.h :: .int .i64 p.m :: cellsPc ps := rfl
    rw [e]
    cases k with
    | zero => exact ⟨rfl, rfl, rfl, rfl, rfl, rfl, rfl⟩
    | succ k =>
      have q := ih (k := k) (by simpa using h)
      rw [show (k + 1) * 7 = k * 7 + 7 by omega]
      exact q
theorem own_pcs {W : World} {base e n : Nat} {v : Value} {ps : List Pce} (h : W.ownsRow base e 7 v n (cellsPc ps)) : ∃ A cap, v = .slice A ps.length cap ∧ Pcs W A ps := by
  have hl : (cellsPc ps).length = n * 7 := h.1
  rw [cellsPc_len] at hl
  obtain rfl : n = ps.length := by omega
  rcases h.2 with ⟨h1, h2⟩ | ⟨g, cap, cur, h1, _⟩
  · rw [h1]
    exact ⟨none, 0, by rw [h2], .inl (List.eq_nil_of_length_eq_zero h2)⟩
  · subst h1
    refine ⟨_, cap, rfl, .inr ⟨g, 0, rfl, fun k hk => ?_⟩⟩
    obtain ⟨a0, a1, a2, a3, a4, a5, a6⟩ := cellsPc_at hk
    simp only [Nat.zero_add]
    exact ⟨(h.cellAt (k * 7) (by omega)).trans a0, (h.cellAt (k * 7 + 1) (by omega)).trans a1, (h.cellAt (k * 7 + 2) (by omega)).trans a2, (h.cellAt (k * 7 + 3) (by omega)).trans a3, (h.cellAt (k * 7 + 4) (by omega)).trans a4, (h.cellAt (k * 7 + 5) (by omega)).trans a5, (h.cellAt (k * 7 + 6) (by omega)).trans a6⟩
/-- A capacity that is right for a length. -/
def CapOk (n cp : Nat) : Prop := n ≤ cp ∧ cp ≤ 9223372036854775807
theorem own_pcsK {W : World} {base e n : Nat} {v : Value} {ps : List Pce} (h : W.ownsRow base e 7 v n (cellsPc ps)) : ∃ A cap, v = .slice A ps.length cap ∧ Pcs W A ps ∧ CapOk ps.length cap := by
  have hl : (cellsPc ps).length = n * 7 := h.1
  rw [cellsPc_len] at hl
  have hn : n = ps.length := by omega
  obtain ⟨A, cap, hv, hp⟩ := own_pcs h
  refine ⟨A, cap, hv, hp, ?_⟩
  rcases h.2 with ⟨h1, h2⟩ | ⟨g, cap', cur, h1, h3, h4, h5, h6, _⟩
  · rw [hv] at h1
    simp only [Value.slice.injEq] at h1
    exact ⟨by omega, by omega⟩
  · rw [hv] at h1
    simp only [Value.slice.injEq] at h1
    obtain ⟨_, _, rfl⟩ := h1
    unfold maxLen at h6
    exact ⟨by omega, by omega⟩
theorem own_succC {W : World} {base e size k : Nat} {v : Value} {xs : List Value} (h : W.ownsRow base e size v (k + 1) xs) : ∃ g cap, v = .slice (some ⟨g, 0, none⟩) (k + 1) cap := by
  rcases h.2 with ⟨_, h2⟩ | ⟨g, cap, cur, h1, _⟩
  · omega
  · exact ⟨g, cap, h1⟩
theorem pcs_farC {W : World} {A : Option Addr} {ps : List Pce} {p : Addr} (h : Pcs W A ps) (hb : ∀ b off, A = some ⟨b, off, none⟩ → b ≠ p.block) (u : Value) : Pcs (W.setCell p u) A ps := by
  rcases h with h | ⟨b, off, e, hc⟩
  · exact .inl h
  · have hn := hb b off e
    have k : ∀ o v, W.cell? ⟨b, o, none⟩ = some v → (W.setCell p u).cell? ⟨b, o, none⟩ = some v := fun o v h => (World.cell?_of_block (a := ⟨b, o, none⟩) (Below.heap_setCell W p u b hn)).trans h
    refine .inr ⟨b, off, e, fun q hq => ?_⟩
    obtain ⟨a0, a1, a2, a3, a4, a5, a6⟩ := hc q hq
    exact ⟨k _ _ a0, k _ _ a1, k _ _ a2, k _ _ a3, k _ _ a4, k _ _ a5, k _ _ a6⟩
theorem bx_grownC {W W' : World} {b : Nat} {vs : List Value} {row : Option Nat} (h : Bx W b vs) (g : W.grownBy W' row) (hr : row ≠ some b) : Bx W' b vs := fun i v hi => by
  have hb : b < W.heap.size := World.block_lt_of_cell? _ _ (h i v hi).1
  have e := g.block b hb (fun e => hr e.symm)
  exact ⟨(World.cell?_of_block (a := ⟨b, i, none⟩) e).trans (h i v hi).1, (World.frozen?_of_block (a := ⟨b, i, none⟩) e).trans (h i v hi).2⟩
abbrev cgN : ByteArray := { data := #[99, 97, 114, 103, 111] }
end Go.Proofs.YtdehnokcjnbjoaaGreat
