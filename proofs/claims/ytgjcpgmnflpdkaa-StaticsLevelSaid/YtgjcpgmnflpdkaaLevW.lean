/- Three rows of the call's own, a copy of the supports and the sums' box: what appends and stores leave of them. -/
import Derived.Test.YtgjcpgmnflpdkaaLevF
namespace Go.Proofs.Ytgjcpgmnflpdkaa
open Go.RowKit Go.Proofs.Gn
theorem bx_same {W W' : World} {b : Nat} {vs : List Value} (h : Bx W b vs) (hb : W'.heap[b]? = W.heap[b]?) : Bx W' b vs := fun j v hj =>
  ⟨(World.cell?_of_block (a := ⟨b, j, none⟩) hb).trans (h j v hj).1, (by simp [World.frozen?, hb] : W'.frozen? ⟨b, j, none⟩ = W.frozen? ⟨b, j, none⟩).trans (h j v hj).2⟩
theorem q_lt {W : World} {g k : Nat} {ps : List Gs.Sup} (h : QAt W g ps k) (h0 : 0 < ps.length) : g < W.heap.size := World.block_lt_of_cell? _ _ (h 0 h0).1.1
structure Lev (w wo : World) (g b9 : Nat) (ps : List Gs.Sup) (V9 : List Value) (kq : Nat) (W : World) (s1 s2 s3 : Value) (k1 k2 k3 : Nat) (L1 L2 L3 : List Int) : Prop where
  o1 : W.ownsRow wo.heap.size 2 1 s1 k1 (cellsI L1)
  o2 : W.ownsRow wo.heap.size 2 1 s2 k2 (cellsI L2)
  o3 : W.ownsRow wo.heap.size 2 1 s3 k3 (cellsI L3)
  a12 : Apart s1 s2
  a13 : Apart s1 s3
  a23 : Apart s2 s3
  q : QAt W g ps kq
  bx : Bx W b9 V9
  up : Up w W
  hg : g < wo.heap.size
  hb9 : b9 < wo.heap.size
  hne : b9 ≠ g
  hwg : w.heap.size ≤ g
  hw : w.heap.size ≤ wo.heap.size
  sz : wo.heap.size ≤ W.heap.size
section
variable {w wo W W' : World} {g b9 kq k1 k2 k3 : Nat} {ps : List Gs.Sup} {V9 : List Value} {s1 s2 s3 : Value} {L1 L2 L3 : List Int}
theorem lev_up (h : Lev w wo g b9 ps V9 kq W s1 s2 s3 k1 k2 k3 L1 L2 L3) (h0 : 0 < ps.length) (hv : 0 < V9.length) (hu : Up W W') : Lev w wo g b9 ps V9 kq W' s1 s2 s3 k1 k2 k3 L1 L2 L3 :=
  ⟨own_upI h.o1 hu, own_upI h.o2 hu, own_upI h.o3 hu, h.a12, h.a13, h.a23, q_same h.q (hu.block g (q_lt h.q h0)), bx_up h.bx hu, up_trans h.up hu, h.hg, h.hb9, h.hne, h.hwg, h.hw, Nat.le_trans h.sz hu.size⟩
theorem lev_rot (h : Lev w wo g b9 ps V9 kq W s1 s2 s3 k1 k2 k3 L1 L2 L3) : Lev w wo g b9 ps V9 kq W s2 s3 s1 k2 k3 k1 L2 L3 L1 :=
  ⟨h.o2, h.o3, h.o1, h.a23, apart_symm h.a12, apart_symm h.a13, h.q, h.bx, h.up, h.hg, h.hb9, h.hne, h.hwg, h.hw, h.sz⟩
theorem lev_app {s1' : Value} {x : Int} (h : Lev w wo g b9 ps V9 kq W s1 s2 s3 k1 k2 k3 L1 L2 L3) (h0 : 0 < ps.length) (hv : 0 < V9.length) (hown : W'.ownsRow wo.heap.size 2 1 s1' (k1 + 1) (cellsI L1 ++ [.int .i64 x])) (hgr : W.grownBy W' s1.ownBlock) (hat : s1'.ownBlock = s1.ownBlock ∨ s1'.ownBlock = some W.heap.size) :
    Lev w wo g b9 ps V9 kq W' s1' s2 s3 (k1 + 1) k2 k3 (L1 ++ [x]) L2 L3 := by
  have hrow : ∀ j, s1.ownBlock = some j → wo.heap.size ≤ j := fun j hj => (h.o1.lt j hj).1
  refine ⟨by rw [cellsI_snoc]; exact hown, own_beside h.o2 h.a12 hgr, own_beside h.o3 h.a13 hgr, apart_new h.o2 h.a12 hat, apart_new h.o3 h.a13 hat, h.a23, ?_, ?_, ?_, h.hg, h.hb9, h.hne, h.hwg, h.hw, Nat.le_trans h.sz hgr.size⟩
  · exact q_same h.q (hgr.block g (q_lt h.q h0) fun e => by have := hrow g e.symm; have := h.hg; omega)
  · exact bx_same h.bx (hgr.block b9 (bx_lt h.bx hv) fun e => by have := hrow b9 e.symm; have := h.hb9; omega)
  · exact h.up.grown hgr h.up.size fun j hj => Nat.le_trans h.hw (hrow j hj)
theorem lev_set (h : Lev w wo g b9 ps V9 kq W s1 s2 s3 k1 k2 k3 L1 L2 L3) (hk : kq < ps.length) :
    Lev w wo g b9 ps V9 (kq + 1) ((W.setCell ⟨g, 0 + kq * 6 + 4, none⟩ (.int .i64 0)).setCell ⟨g, 0 + kq * 6 + 5, none⟩ (.int .i64 4096)) s1 s2 s3 k1 k2 k3 L1 L2 L3 := by
  have ne : ∀ {v : Value} {k : Nat} {L : List Int}, W.ownsRow wo.heap.size 2 1 v k (cellsI L) → v.ownBlock ≠ some g := fun ho e => by have := (ho.lt g e).1; have := h.hg; omega
  have st : ∀ {v : Value} {k : Nat} {L : List Int}, W.ownsRow wo.heap.size 2 1 v k (cellsI L) → ((W.setCell ⟨g, 0 + kq * 6 + 4, none⟩ (.int .i64 0)).setCell ⟨g, 0 + kq * 6 + 5, none⟩ (.int .i64 4096)).ownsRow wo.heap.size 2 1 v k (cellsI L) :=
    fun ho => ownsRow_setCell_other (ownsRow_setCell_other ho (a := ⟨g, 0 + kq * 6 + 4, none⟩) (ne ho) _) (a := ⟨g, 0 + kq * 6 + 5, none⟩) (ne ho) _
  exact ⟨st h.o1, st h.o2, st h.o3, h.a12, h.a13, h.a23, q_step h.q hk, bx_far (bx_far h.bx (p := ⟨g, 0 + kq * 6 + 4, none⟩) (fun e => h.hne e.symm) _) (p := ⟨g, 0 + kq * 6 + 5, none⟩) (fun e => h.hne e.symm) _, up_set (up_set h.up (by have := h.hwg; simpa using this) _) (by have := h.hwg; simpa using this) _, h.hg, h.hb9, h.hne, h.hwg, h.hw, by simpa using h.sz⟩
end
theorem info_sup : (Try.prog.info? 61).map (fun i => (i.zero, i.size, i.bytes)) = some (some (.agg #[.int .i64 0, .int .i64 0, .int .i64 0, .int .i64 0, .int .i64 0, .int .i64 0]), 6, 48) := by kernel_rfl
theorem tm_bd (x : Int) : -999 ≤ Int.tmod x 1000 ∧ Int.tmod x 1000 ≤ 999 := by
  have a := Int.tmod_lt_of_pos x (show (0 : Int) < 1000 by decide)
  have b := Int.lt_tmod_of_pos x (show (0 : Int) < 1000 by decide)
  omega
/-- The height of the ground below support k. -/
def hgt (gr : List Int) (k : Nat) : Int := Int.tmod (gr[k]?.getD 0) 1000
theorem hgt_in {gr : List Int} {k : Nat} (h : k < gr.length) : hgt gr k = Int.tmod gr[k] 1000 := by unfold hgt; rw [List.getElem?_eq_getElem h]; rfl
theorem hgt_out {gr : List Int} {k : Nat} (h : ¬ k < gr.length) : hgt gr k = 0 := by unfold hgt; rw [List.getElem?_eq_none (by omega)]; rfl
theorem cellsS_one (ps : List Gs.Sup) : ∀ u ∈ cellsS ps, u.oneCell' = true := by
  intro u hu
  unfold cellsS at hu
  obtain ⟨s, _, hs⟩ := List.mem_flatMap.1 hu
  simp at hs
  rcases hs with rfl | rfl | rfl | rfl | rfl | rfl <;> rfl
end Go.Proofs.Ytgjcpgmnflpdkaa
