/- A parameter that is a load, opened. Two lists of pieces put together (slices.Concat). A load of boxes turned by a quarter. Pieces turned by a quarter: numbers. A load of boxes, copied. A load of boxes that is checked, and returned. Pieces as cells that are copied. -/
import Derived.Test.YtdehnokcjnbjoaaCargo
import Derived.Test.YtdehnokcjnbjoaaChkL
import Derived.Test.YtdehnokcjnbjoaaChU
import Derived.Test.YtdehnokcjnbjoaaPkMom
import Derived.Test.YtdehnokcjnbjoaaShelfG
import Derived.Deep.SlicePairs
import Derived.WideKeyArgs
import Derived.ProofKit
import Derived.OpenShut
import Derived.Lib.SmallJoins
namespace Go.Proofs.Ytdehnokcjnbjoaa
open Go.RowKit Go.Proofs.Gn
set_option linter.unusedVariables false
theorem pcs_news {W : World} {b : Nat} {ps : List Pce} : ∀ {off : Nat} (h : ∀ k (hk : k < ps.length), PceAt W b (off + k * 7) ps[k]), ∀ j u, (cellsPc ps)[j]? = some u → W.cell? ⟨b, off + j, none⟩ = some u := by
  induction ps with
  | nil => intro off h j u hj; simp [cellsPc] at hj
  | cons p ps ih =>
    intro off h j u hj
    have e : cellsPc (p :: ps) = .int .i64 p.x :: .int .i64 p.y :: .int .i64 p.z :: .int .i64 p.l :: .int .i64 p.w :: .int .i64 p.h :: .int .i64 p.m :: cellsPc ps := rfl
    rw [e] at hj
    obtain ⟨a0, a1, a2, a3, a4, a5, a6⟩ := h 0 (by simp)
    match j, hj with
    | 0, hj => simp at hj; subst hj; simpa using a0
    | 1, hj => simp at hj; subst hj; simpa using a1
    | 2, hj => simp at hj; subst hj; simpa using a2
    | 3, hj => simp at hj; subst hj; simpa using a3
    | 4, hj => simp at hj; subst hj; simpa using a4
    | 5, hj => simp at hj; subst hj; simpa using a5
    | 6, hj => simp at hj; subst hj; simpa using a6
    | (j + 7), hj =>
      have q := ih (off := off + 7) (fun k hk => by
        have t := h (k + 1) (by simpa using hk)
        rw [show off + (k + 1) * 7 = off + 7 + k * 7 by omega] at t
        exact t) j u (by simpa using hj)
      rw [show off + (j + 7) = off + 7 + j by omega]
      exact q
theorem cellsPc_one {ps : List Pce} : ∀ u ∈ cellsPc ps, u.oneCell' = true := by
  intro u hu
  unfold cellsPc at hu
  obtain ⟨p, _, hp⟩ := List.mem_flatMap.1 hu
  simp at hp
  rcases hp with rfl | rfl | rfl | rfl | rfl | rfl | rfl <;> rfl
theorem addr_add (b o j : Nat) : (⟨b, o, none⟩ : Addr).add j = ⟨b, o + j, none⟩ := by
  unfold Addr.add
  split <;> simp_all
theorem cellsPc_append (a b : List Pce) : cellsPc (a ++ b) = cellsPc a ++ cellsPc b := by simp [cellsPc]
end Go.Proofs.Ytdehnokcjnbjoaa
namespace Go.Proofs.Ytdehnokcjnbjoaa
open Go.RowKit Go.Proofs.Gn
attribute [local go_sem] Oper.semAt_some
set_option linter.unusedVariables false
abbrev lo0V : Value := .agg #[.string { data := #[] }, .slice none 0 0, .slice none 0 0, .int .i64 0]
theorem p_checkC (P : Option Addr) (ps : List Pce) (cp : Nat) (w : World) (h : Pcs w P ps) (hn : ps.length ≤ 100) (E : Int) (hE : loE cgN ps [] 300 = E) :
    Calls Try.prog 34 #[loV cgN P ps.length cp none 0 0 300] w fun e w' => e = .returned (.int .i64 E) ∧ Up w w' := by
  have q := p_CheckL cgN P ps cp none [] 0 300 w h (.inl rfl) (by omega) (by simp)
  rw [hE] at q
  exact q
set_option maxRecDepth 100000 in
set_option maxHeartbeats 4000000 in
theorem p_resultOk (P : Option Addr) (ps : List Pce) (cp : Nat) (w : World) (h : Pcs w P ps) (hE : loE cgN ps [] 300 = 0) (hn : ps.length ≤ 100) :
    Calls Try.prog 36 #[loV cgN P ps.length cp none 0 0 300] w fun e w' => e = .returned (.tuple #[loV cgN P ps.length cp none 0 0 300, .int .i64 0]) ∧ Up w w' := by
  have HC := hide (fun W (hW : Up w W) => p_checkC P ps cp W (pcs_up h hW) hn 0 hE)
  clear h hE
  generalize ps.length = n at *
  go_enter Try.func36, Try.ntmps36
  go_upto_region 1 with fail
  refine at_wpC (fun W0 hW0 => ?_)
  have U0 : Up w W0 := by rw [hW0]; exact (by repeat' (first | (with_reducible exact up_refl _) | (with_reducible assumption) | (with_reducible refine up_alloc ?_ _) | (with_reducible refine up_drewN ?_ _) | (with_reducible refine up_drew ?_) | (with_reducible refine up_set ?_ (by first | (simp; done) | (simp; omega) | omega) _) | (refine up_trans ?_ (by with_reducible assumption))))
  have hz : W0.heap.size = w.heap.size + 2 := by rw [hW0]; simp
  obtain ⟨bA, bR⟩ : Bx W0 w.heap.size [.string cgN, .slice P n cp, .slice none 0 0, .int .i64 300] ∧ Bx W0 (w.heap.size + 1) [.string { data := #[] }, .slice none 0 0, .slice none 0 0, .int .i64 0] := by
    rw [hW0]
    refine ⟨bx_alloc (bx_new w _ _) _, ?_⟩
    have q := bx_new (w.alloc (.cells #[.string cgN, .slice P n cp, .slice none 0 0, .int .i64 300] 25)) [.string { data := #[] }, .slice none 0 0, .slice none 0 0, .int .i64 0] 25
    rw [World.size_alloc] at q
    exact q
  clear hW0
  have c0 := (bA 0 _ rfl).1
  have c1 := (bA 1 _ rfl).1
  have c2 := (bA 2 _ rfl).1
  have c3 := (bA 3 _ rfl).1
  go_upto_region 3 with (go_at_call 34; (with_reducible refine (unhide HC _ U0).mono ?_); rintro e w1 ⟨rfl, hb⟩)
  have bA1 := bx_up bA hb
  have bR1 := bx_up bR hb
  have U1 := up_trans U0 hb
  clear c0 c1 c2 c3 bA bR U0 hb HC
  have c0 := (bA1 0 _ rfl).1
  have c1 := (bA1 1 _ rfl).1
  have c2 := (bA1 2 _ rfl).1
  have c3 := (bA1 3 _ rfl).1
  have d0 := (bR1 0 _ rfl).1
  have d1 := (bR1 1 _ rfl).1
  have d2 := (bR1 2 _ rfl).1
  have d3 := (bR1 3 _ rfl).1
  have f0 := (bR1 0 _ rfl).2
  have f1 := (bR1 1 _ rfl).2
  have f2 := (bR1 2 _ rfl).2
  have f3 := (bR1 3 _ rfl).2
  go_wp2_with fail
  have B9 := bx_set (bx_set (bx_set (bx_set bR1 0 (.string cgN)) 1 (.slice P n cp)) 2 (.slice none 0 0)) 3 (.int .i64 300)
  have U9 : Up w ((((w1.setCell ⟨w.heap.size + 1, 0, none⟩ (.string cgN)).setCell ⟨w.heap.size + 1, 1, none⟩ (.slice P n cp)).setCell ⟨w.heap.size + 1, 2, none⟩ (.slice none 0 0)).setCell ⟨w.heap.size + 1, 3, none⟩ (.int .i64 300)) := up_set (up_set (up_set (up_set U1 (by simp only; omega) _) (by simp only; omega) _) (by simp only; omega) _) (by simp only; omega) _
  generalize (((w1.setCell ⟨w.heap.size + 1, 0, none⟩ (.string cgN)).setCell ⟨w.heap.size + 1, 1, none⟩ (.slice P n cp)).setCell ⟨w.heap.size + 1, 2, none⟩ (.slice none 0 0)).setCell ⟨w.heap.size + 1, 3, none⟩ (.int .i64 300) = W9 at *
  have z0 := (B9 0 _ rfl).1
  have z1 := (B9 1 _ rfl).1
  have z2 := (B9 2 _ rfl).1
  have z3 := (B9 3 _ rfl).1
  refine bodyPost_ret (v := .tuple #[loV cgN P n cp none 0 0 300, .int .i64 0]) (by simp [results, Try.f36, go_sem, z0, z1, z2, z3]) rfl ?_
  exact ⟨rfl, U9⟩
end Go.Proofs.Ytdehnokcjnbjoaa
namespace Go.Proofs.Ytdehnokcjnbjoaa
open Go.RowKit Go.Proofs.Gn
attribute [local go_sem] Oper.semAt_some
set_option linter.unusedVariables false
theorem nilPc (a : Addr) (n c : Nat) (w : World) : (binOp BinOp.eql 22 (.slice (some a) n c) (.slice none 0 0)).run Try.prog w = .ok (.bool false) w := by
  first | (kernel_rfl) | (simp [binOp, go_sem]; done) | (simp [binOp, Op.equalIn, run_underlying Try.underlying22, go_sem])
theorem nilEy (w : World) : (binOp BinOp.eql 23 (.slice none 0 0) (.slice none 0 0)).run Try.prog w = .ok (.bool true) w := by
  first | (kernel_rfl) | (simp [binOp, go_sem]; done) | (simp [binOp, Op.equalIn, run_underlying Try.underlying23, go_sem])
theorem bx_own7 {W : World} {base e n g cap : Nat} {ps : List Pce} (h : W.ownsRow base e 7 (.slice (some ⟨g, 0, none⟩) n cap) n (cellsPc ps)) : Bx W g (cellsPc ps) := fun j v hj => by
  have hl := h.1
  have hj2 : j < (cellsPc ps).length := (List.getElem?_eq_some_iff.1 hj).1
  exact ⟨(h.cellAt j (by omega)).trans hj, h.frozenAt j⟩
set_option maxRecDepth 100000 in
set_option maxHeartbeats 8000000 in
theorem p_ClonePc (A : Option Addr) (L : List Pce) (cap : Nat) (h0 : 0 < L.length) (hn : L.length ≤ 100) (w : World) (hp : Pcs w A L) :
    Calls Try.prog 65 #[.slice A L.length cap] w fun e w' => ∃ g c, e = .returned (.slice (some ⟨g, 0, none⟩) L.length c) ∧ Bx w' g (cellsPc L) ∧ w.heap.size ≤ g ∧ Up w w' := by
  rcases hp with hx | ⟨ba, off, rfl, hc⟩
  · rw [hx] at h0; simp at h0
  have HNW := hide (pcs_news (W := w.alloc (.cells #[] 76)) (b := ba) (ps := L) (off := off) fun k hk => pceAt_up (hc k hk) (up_alloc (up_refl w) _))
  clear hc
  obtain ⟨i1', hj, hy0, hy1, hy2⟩ := info_parts info_pc
  have HJ := hide hj
  clear hj
  have hls0 := cellsPc_len L
  obtain ⟨n, hN⟩ : ∃ n, L.length = n := ⟨_, rfl⟩
  rw [hN] at h0 hn hls0 ⊢
  clear hN
  have hnil := fun W => nilPc ⟨ba, off, none⟩ n cap W
  go_enter Try.func65, Try.ntmps65
  go_wp2_with (at_builtin; refine wpList_append_own _ rfl _ _ 22 rfl w.heap.size 76 i1' _ 7 56 Try.underlying22 (unhide HJ) hy0 hy1 hy2 rfl (by decide) (.slice (some ⟨w.heap.size, 0, none⟩) 0 0) 0 [] rfl (World.ownsRow_made w #[] 0 (Nat.le_refl _) (by unfold maxLen; omega) rfl) ⟨ba, off, none⟩ n cap (cellsPc L) rfl hls0 (fun j u hj => by rw [addr_add]; exact unhide HNW j u hj) cellsPc_one (by unfold maxLen; omega) (by omega) (by simp) ?_; intro vq W2 hown hgrow _)
  simp only [Nat.zero_add, List.nil_append] at hown
  rcases hown.2 with ⟨_, h00⟩ | ⟨g, cq, cur, rfl, hbg, hgg, _⟩
  · omega
  have U2 : Up w W2 := (up_alloc (up_refl w) _).grown hgrow (up_alloc (up_refl w) _).size (by intro j hj; simp [Value.ownBlock] at hj; omega)
  have Q2 := hide (bx_own7 hown)
  clear hown hgrow hgg HNW hls0
  go_wp2_with fail
  go_ret
  exact ⟨g, cq, rfl, unhide Q2, hbg, U2⟩
theorem p_CloneEy (w : World) :
    Calls Try.prog 66 #[.slice none 0 0] w fun e w' => e = .returned (.slice none 0 0) ∧ w = w' := by
  have hnil := fun W => nilEy W
  go_enter Try.func66, Try.ntmps66
  go_wp2
  go_ret
  exact ⟨rfl, rfl⟩
/-- What stays while a load is copied. -/
def CB (A : Option Addr) (n cp : Nat) (w wx : World) : Prop := Bx wx w.heap.size [.string cgN, .slice A n cp, .slice none 0 0, .int .i64 300] ∧ Bx wx (w.heap.size + 1) [.string { data := #[] }, .slice none 0 0, .slice none 0 0, .int .i64 0] ∧ Up w wx
theorem CB.ups {A : Option Addr} {n cp : Nat} {w wx wy : World} (h : CB A n cp w wx) (hu : Up wx wy) : CB A n cp w wy := ⟨bx_up h.1 hu, bx_up h.2.1 hu, up_trans h.2.2 hu⟩
theorem CB.cells {A : Option Addr} {n cp : Nat} {w wx : World} (h : CB A n cp w wx) : wx.cell? ⟨w.heap.size, 1, none⟩ = some (.slice A n cp) ∧ wx.cell? ⟨w.heap.size, 2, none⟩ = some (.slice none 0 0) ∧ CB A n cp w wx := ⟨(h.1 1 _ rfl).1, (h.1 2 _ rfl).1, h⟩
set_option maxRecDepth 100000 in
set_option maxHeartbeats 8000000 in
theorem p_cloneL (A : Option Addr) (L : List Pce) (cp : Nat) (w : World) (h : Pcs w A L) (h0 : 0 < L.length) (hn : L.length ≤ 100) :
    Calls Try.prog 35 #[loV cgN A L.length cp none 0 0 300] w fun e w' => (∃ g c, e = .returned (loV cgN (some ⟨g, 0, none⟩) L.length c none 0 0 300) ∧ Bx w' g (cellsPc L) ∧ w.heap.size ≤ g) ∧ Up w w' := by
  have HC := hide (fun W (hW : Up w W) => p_ClonePc A L cp h0 hn W (pcs_up h hW))
  have HE := hide (fun W => p_CloneEy W)
  generalize hq : cellsPc L = vs at *
  generalize L.length = n at *
  clear h hq
  go_enter Try.func35, Try.ntmps35
  go_upto_region 1 with fail
  refine at_wpC (fun W0 hW0 => ?_)
  have U0 : Up w W0 := by rw [hW0]; exact (by repeat' (first | (with_reducible exact up_refl _) | (with_reducible assumption) | (with_reducible refine up_alloc ?_ _) | (with_reducible refine up_drewN ?_ _) | (with_reducible refine up_drew ?_) | (with_reducible refine up_set ?_ (by first | (simp; done) | (simp; omega) | omega) _) | (refine up_trans ?_ (by with_reducible assumption))))
  have hz : W0.heap.size = w.heap.size + 2 := by rw [hW0]; simp
  obtain ⟨bA, bR⟩ : Bx W0 w.heap.size [.string cgN, .slice A n cp, .slice none 0 0, .int .i64 300] ∧ Bx W0 (w.heap.size + 1) [.string { data := #[] }, .slice none 0 0, .slice none 0 0, .int .i64 0] := by
    rw [hW0]
    refine ⟨bx_alloc (bx_new w _ _) _, ?_⟩
    have q := bx_new (w.alloc (.cells #[.string cgN, .slice A n cp, .slice none 0 0, .int .i64 300] 25)) [.string { data := #[] }, .slice none 0 0, .slice none 0 0, .int .i64 0] 25
    rw [World.size_alloc] at q
    exact q
  clear hW0
  have H0 : CB A n cp w W0 := ⟨bA, bR, U0⟩
  have c1 := (bA 1 _ rfl).1
  have c2 := (bA 2 _ rfl).1
  have f1 := (bA 1 _ rfl).2
  have f2 := (bA 2 _ rfl).2
  clear bA bR
  go_region_with (first
      | (go_at_call 65; (with_reducible refine (unhide HC _ (by repeat' (first | (with_reducible exact up_refl _) | (with_reducible assumption) | (with_reducible refine up_alloc ?_ _) | (with_reducible refine up_drewN ?_ _) | (with_reducible refine up_drew ?_) | (with_reducible refine up_set ?_ (by first | (simp; done) | (simp; omega) | omega) _) | (refine up_trans ?_ (by with_reducible assumption))))).mono ?_); rintro e w2 ⟨g, c, rfl, hg, hgz, hu2⟩; have d1 := up_cell hu2 c1; have d2 := up_cell hu2 c2; have e1 := up_frozen hu2 c1 f1; have e2 := up_frozen hu2 c2 f2)
      | (go_at_call 66; (with_reducible refine (unhide HE _).mono ?_); rintro e w3 ⟨rfl, rfl⟩))
  all_goals
    have hw2 : Up W0 w2 := up_trans (by repeat' (first | (with_reducible exact up_refl _) | (with_reducible assumption) | (with_reducible refine up_alloc ?_ _) | (with_reducible refine up_drewN ?_ _) | (with_reducible refine up_drew ?_) | (with_reducible refine up_set ?_ (by first | (simp; done) | (simp; omega) | omega) _) | (refine up_trans ?_ (by with_reducible assumption)))) hu2
    have hgg : w.heap.size + 2 ≤ g := by
      have := hgz
      first | (simp [hz] at this; omega) | omega
    have A9 := bx_set (bx_set (bx_up H0.1 hw2) 1 (.slice (some ⟨g, 0, none⟩) n c)) 2 (.slice none 0 0)
    have R9 := bx_far (bx_far (bx_up H0.2.1 hw2) (p := ⟨w.heap.size, 1, none⟩) (by simp only; omega) (.slice (some ⟨g, 0, none⟩) n c)) (p := ⟨w.heap.size, 2, none⟩) (by simp only; omega) (.slice none 0 0)
    have G9 := bx_far (bx_far hg (p := ⟨w.heap.size, 1, none⟩) (by simp only; omega) (.slice (some ⟨g, 0, none⟩) n c)) (p := ⟨w.heap.size, 2, none⟩) (by simp only; omega) (.slice none 0 0)
    have U9 := up_set (up_set (up_trans H0.2.2 hw2) (p := ⟨w.heap.size, 1, none⟩) (by simp only; omega) (.slice (some ⟨g, 0, none⟩) n c)) (p := ⟨w.heap.size, 2, none⟩) (by simp only; omega) (.slice none 0 0)
    generalize (w2.setCell ⟨w.heap.size, 1, none⟩ (.slice (some ⟨g, 0, none⟩) n c)).setCell ⟨w.heap.size, 2, none⟩ (.slice none 0 0) = W9 at A9 R9 G9 U9 ⊢
    clear hg hgz hu2 hw2 c1 c2 f1 f2 d1 d2 e1 e2 H0 HC HE hz U0
    have c0 := (A9 0 _ rfl).1
    have c1 := (A9 1 _ rfl).1
    have c2 := (A9 2 _ rfl).1
    have c3 := (A9 3 _ rfl).1
    have d0 := (R9 0 _ rfl).1
    have d1 := (R9 1 _ rfl).1
    have d2 := (R9 2 _ rfl).1
    have d3 := (R9 3 _ rfl).1
    have e0 := (R9 0 _ rfl).2
    have e1 := (R9 1 _ rfl).2
    have e2 := (R9 2 _ rfl).2
    have e3 := (R9 3 _ rfl).2
    go_wp2_with fail
    have B9 := bx_set (bx_set (bx_set (bx_set R9 0 (.string cgN)) 1 (.slice (some ⟨g, 0, none⟩) n c)) 2 (.slice none 0 0)) 3 (.int .i64 300)
    have V9 := up_set (up_set (up_set (up_set U9 (p := ⟨w.heap.size + 1, 0, none⟩) (by simp only; omega) (.string cgN)) (p := ⟨w.heap.size + 1, 1, none⟩) (by simp only; omega) (.slice (some ⟨g, 0, none⟩) n c)) (p := ⟨w.heap.size + 1, 2, none⟩) (by simp only; omega) (.slice none 0 0)) (p := ⟨w.heap.size + 1, 3, none⟩) (by simp only; omega) (.int .i64 300)
    have K9 := bx_far (bx_far (bx_far (bx_far G9 (p := ⟨w.heap.size + 1, 0, none⟩) (by simp only; omega) (.string cgN)) (p := ⟨w.heap.size + 1, 1, none⟩) (by simp only; omega) (.slice (some ⟨g, 0, none⟩) n c)) (p := ⟨w.heap.size + 1, 2, none⟩) (by simp only; omega) (.slice none 0 0)) (p := ⟨w.heap.size + 1, 3, none⟩) (by simp only; omega) (.int .i64 300)
    generalize (((W9.setCell ⟨w.heap.size + 1, 0, none⟩ (.string cgN)).setCell ⟨w.heap.size + 1, 1, none⟩ (.slice (some ⟨g, 0, none⟩) n c)).setCell ⟨w.heap.size + 1, 2, none⟩ (.slice none 0 0)).setCell ⟨w.heap.size + 1, 3, none⟩ (.int .i64 300) = WA at B9 V9 K9 ⊢
    have z0 := (B9 0 _ rfl).1
    have z1 := (B9 1 _ rfl).1
    have z2 := (B9 2 _ rfl).1
    have z3 := (B9 3 _ rfl).1
    refine bodyPost_ret (v := loV cgN (some ⟨g, 0, none⟩) n c none 0 0 300) (by simp [results, Try.f35, go_sem, z0, z1, z2, z3]) rfl ?_
    exact ⟨⟨g, c, rfl, K9, by omega⟩, V9⟩
end Go.Proofs.Ytdehnokcjnbjoaa
namespace Go.Proofs.Ytdehnokcjnbjoaa
open Go.RowKit Go.Proofs.Gn
set_option linter.unusedVariables false
/-- A piece, turned to the left. -/
def trP (p : Pce) : Pce := ⟨-(p.y + p.w), p.x, p.z, p.w, p.l, p.h, p.m⟩
theorem tr_ok {p : Pce} (h : okP p = true) : okP (trP p) = true := by
  rw [okP_iff] at h ⊢
  unfold okPp at h ⊢
  unfold trP
  dsimp only
  omega
theorem tr_oks {L : List Pce} (h : okPs L = true) : okPs (L.map trP) = true := by
  unfold okPs at h ⊢
  rw [List.all_eq_true] at h ⊢
  intro p hp
  obtain ⟨q, hq, rfl⟩ := List.mem_map.1 hp
  exact tr_ok (h q hq)
theorem mas_tr (L : List Pce) : mas (L.map trP) = mas L := by
  induction L with
  | nil => rfl
  | cons p L ih => simp only [List.map_cons, mas, ih]; rfl
theorem moX_tr (L : List Pce) : mo fX (L.map trP) = -(mo fY L) := by
  induction L with
  | nil => rfl
  | cons p L ih =>
    simp only [List.map_cons, mo, ih]
    have : fX (trP p) = -(fY p) := by unfold fX fY trP; dsimp only; grind
    omega
theorem moY_tr (L : List Pce) : mo fY (L.map trP) = mo fX L := by
  induction L with
  | nil => rfl
  | cons p L ih =>
    simp only [List.map_cons, mo, ih]
    have : fY (trP p) = fX p := rfl
    omega
theorem moZ_tr (L : List Pce) : mo fZ (L.map trP) = mo fZ L := by
  induction L with
  | nil => rfl
  | cons p L ih =>
    simp only [List.map_cons, mo, ih]
    have : fZ (trP p) = fZ p := rfl
    omega
theorem lo_tr {L : List Pce} (h : loE cgN L [] 300 = 0) : loE cgN (L.map trP) [] 300 = 0 := by
  obtain ⟨g, a, b, c, d, e⟩ := loE_ok h
  have hc := tr_oks c
  exact lo0 ⟨by rw [List.length_map]; exact g.1, by rw [List.length_map]; exact g.2.1, g.2.2⟩ a ((win_iff _ _ _).2 b) (by rw [hc, d]; rfl) ((win_iff _ _ _).2 (by rw [mas_tr]; exact e))
end Go.Proofs.Ytdehnokcjnbjoaa
namespace Go.Proofs.Ytdehnokcjnbjoaa
open Go.RowKit Go.Proofs.Gn
attribute [local go_sem] Oper.semAt_some
set_option linter.unusedVariables false
theorem set7 (y0 y1 y2 y3 y4 y5 y6 v0 v1 v2 v3 v4 v5 v6 : Value) (xs zs : List Value) :
    (((((((xs ++ y0 :: y1 :: y2 :: y3 :: y4 :: y5 :: y6 :: zs).set xs.length v0).set (xs.length + 1) v1).set (xs.length + 2) v2).set (xs.length + 3) v3).set (xs.length + 4) v4).set (xs.length + 5) v5).set (xs.length + 6) v6 = xs ++ v0 :: v1 :: v2 :: v3 :: v4 :: v5 :: v6 :: zs := by
  induction xs with
  | nil => rfl
  | cons x xs ih =>
    simp only [List.length_cons, List.cons_append]
    rw [show xs.length + 1 + 1 = xs.length + 1 + 1 from rfl]
    simp only [Nat.add_right_comm _ 1, List.set_cons_succ]
    rw [ih]
theorem cellsPc_split (A B : List Pce) (p : Pce) : cellsPc (A ++ p :: B) = cellsPc A ++ .int .i64 p.x :: .int .i64 p.y :: .int .i64 p.z :: .int .i64 p.l :: .int .i64 p.w :: .int .i64 p.h :: .int .i64 p.m :: cellsPc B := by simp [cellsPc]
/-- A list of which the first pieces have been turned. -/
def tdL (L : List Pce) (k : Nat) : List Pce := (L.take k).map trP ++ L.drop k
theorem td_0 (L : List Pce) : tdL L 0 = L := by simp [tdL]
theorem td_n (L : List Pce) {k : Nat} (h : L.length ≤ k) : tdL L k = L.map trP := by
  unfold tdL
  rw [List.take_of_length_le h, List.drop_eq_nil_of_le h, List.append_nil]
theorem td_at (L : List Pce) {k : Nat} (h : k < L.length) : tdL L k = (L.take k).map trP ++ L[k] :: L.drop (k + 1) ∧ tdL L (k + 1) = (L.take k).map trP ++ trP L[k] :: L.drop (k + 1) := by
  unfold tdL
  rw [List.drop_eq_getElem_cons h]
  refine ⟨rfl, ?_⟩
  rw [List.take_succ_eq_append_getElem h, List.map_append, List.append_assoc]
  rfl
theorem td_len (L : List Pce) {k : Nat} (h : k < L.length) : (cellsPc ((L.take k).map trP)).length = k * 7 := by
  rw [cellsPc_len, List.length_map, List.length_take, Nat.min_eq_left (Nat.le_of_lt h)]
theorem bx_td {W : World} {g : Nat} {L : List Pce} {k : Nat} (h : k < L.length) (hb : Bx W g (cellsPc (tdL L k))) :
    PceAt W g (k * 7) L[k] ∧ (∀ j, j < 7 → W.frozen? ⟨g, k * 7 + j, none⟩ = false) ∧ Bx (((((((W.setCell ⟨g, k * 7, none⟩ (.int .i64 (trP L[k]).x)).setCell ⟨g, k * 7 + 1, none⟩ (.int .i64 (trP L[k]).y)).setCell ⟨g, k * 7 + 2, none⟩ (.int .i64 (trP L[k]).z)).setCell ⟨g, k * 7 + 3, none⟩ (.int .i64 (trP L[k]).l)).setCell ⟨g, k * 7 + 4, none⟩ (.int .i64 (trP L[k]).w)).setCell ⟨g, k * 7 + 5, none⟩ (.int .i64 (trP L[k]).h)).setCell ⟨g, k * 7 + 6, none⟩ (.int .i64 (trP L[k]).m)) g (cellsPc (tdL L (k + 1))) := by
  obtain ⟨e1, e2⟩ := td_at L h
  have hl := td_len L h
  rw [e1, cellsPc_split] at hb
  have at' : ∀ j v, (Value.int .i64 L[k].x :: .int .i64 L[k].y :: .int .i64 L[k].z :: .int .i64 L[k].l :: .int .i64 L[k].w :: .int .i64 L[k].h :: .int .i64 L[k].m :: cellsPc (L.drop (k + 1)))[j]? = some v → W.cell? ⟨g, k * 7 + j, none⟩ = some v ∧ W.frozen? ⟨g, k * 7 + j, none⟩ = false := fun j v hj => hb (k * 7 + j) v (by rw [List.getElem?_append_right (by omega), hl, Nat.add_sub_cancel_left]; exact hj)
  refine ⟨⟨(at' 0 _ rfl).1, (at' 1 _ rfl).1, (at' 2 _ rfl).1, (at' 3 _ rfl).1, (at' 4 _ rfl).1, (at' 5 _ rfl).1, (at' 6 _ rfl).1⟩, ?_, ?_⟩
  · intro j hj
    match j, hj with
    | 0, _ => exact (at' 0 _ rfl).2
    | 1, _ => exact (at' 1 _ rfl).2
    | 2, _ => exact (at' 2 _ rfl).2
    | 3, _ => exact (at' 3 _ rfl).2
    | 4, _ => exact (at' 4 _ rfl).2
    | 5, _ => exact (at' 5 _ rfl).2
    | 6, _ => exact (at' 6 _ rfl).2
  · have q := bx_set (bx_set (bx_set (bx_set (bx_set (bx_set (bx_set hb (k * 7) (.int .i64 (trP L[k]).x)) (k * 7 + 1) (.int .i64 (trP L[k]).y)) (k * 7 + 2) (.int .i64 (trP L[k]).z)) (k * 7 + 3) (.int .i64 (trP L[k]).l)) (k * 7 + 4) (.int .i64 (trP L[k]).w)) (k * 7 + 5) (.int .i64 (trP L[k]).h)) (k * 7 + 6) (.int .i64 (trP L[k]).m)
    rw [← hl, set7, hl, ← cellsPc_split, ← e2] at q
    exact q
theorem pcs_bx {W : World} {g : Nat} {L : List Pce} (h : Bx W g (cellsPc L)) : Pcs W (some ⟨g, 0, none⟩) L := by
  refine .inr ⟨g, 0, rfl, fun k hk => ?_⟩
  obtain ⟨a0, a1, a2, a3, a4, a5, a6⟩ := cellsPc_at hk
  simp only [Nat.zero_add]
  exact ⟨(h _ _ a0).1, (h _ _ a1).1, (h _ _ a2).1, (h _ _ a3).1, (h _ _ a4).1, (h _ _ a5).1, (h _ _ a6).1⟩
/-- What lies there while a load is turned. -/
def TdB (L : List Pce) (g n c s : Nat) (w wx : World) : Prop := Bx wx s [.string cgN, .slice (some ⟨g, 0, none⟩) n c, .slice none 0 0, .int .i64 300] ∧ Bx wx (w.heap.size + 1) [.string { data := #[] }, .slice none 0 0, .slice none 0 0, .int .i64 0] ∧ Up w wx
theorem TdB.ups {L : List Pce} {g n c s : Nat} {w wx wy : World} (h : TdB L g n c s w wx) (hu : Up wx wy) : TdB L g n c s w wy := ⟨bx_up h.1 hu, bx_up h.2.1 hu, up_trans h.2.2 hu⟩
theorem TdB.set {L : List Pce} {g n c s : Nat} {w wx : World} (h : TdB L g n c s w wx) {p : Addr} (hp : p.block = g) (h1 : g ≠ s) (h2 : w.heap.size + 2 ≤ g) (u : Value) : TdB L g n c s w (wx.setCell p u) :=
  ⟨bx_far h.1 (by omega) u, bx_far h.2.1 (by omega) u, up_set h.2.2 (by omega) u⟩
def TdO (L : List Pce) (g : Nat) (s24 : Value) (wr : World) : Prop := (s24 = .int .i64 0 ∧ Bx wr g (cellsPc L)) ∨ (s24 = .int .i64 1 ∧ Bx wr g (cellsPc (L.map trP)))
set_option maxRecDepth 100000 in
set_option maxHeartbeats 16000000 in
theorem p_Turned (A : Option Addr) (L : List Pce) (cp : Nat) (w : World) (h : Pcs w A L) (hE : loE cgN L [] 300 = 0) :
    Calls Try.prog 11 #[loV cgN A L.length cp none 0 0 300, .int .i64 1] w fun e w' => (∃ P c, e = .returned (.tuple #[loV cgN P L.length c none 0 0 300, .int .i64 0]) ∧ Pcs w' P (L.map trP)) ∧ Up w w' := by
  obtain ⟨hg, _, _, hok, _⟩ := loE_ok hE
  have HC := hide (fun W (hW : Up w W) => p_checkC A L cp W (pcs_up h hW) (by omega) 0 hE)
  have HCl := hide (fun W (hW : Up w W) => p_cloneL A L cp W (pcs_up h hW) (by omega) (by omega))
  have HR := hide (fun g c W (hW : Bx W g (cellsPc (L.map trP))) => by
    have q := p_resultOk (some ⟨g, 0, none⟩) (L.map trP) c W (pcs_bx hW) (lo_tr hE) (by rw [List.length_map]; omega)
    rw [List.length_map] at q
    exact q)
  have HOk := hide hok
  obtain ⟨n, hn⟩ : ∃ n, L.length = n := ⟨_, rfl⟩
  have HN := hide hn
  rw [hn] at hg HC HCl HR ⊢
  have h32 : n ≤ 32 := hg.2.1
  have h01 : 0 < n := by omega
  clear h hE hok hn hg
  go_enter Try.func11, Try.ntmps11
  go_upto_region 1 with fail
  refine at_wpC (fun W0 hW0 => ?_)
  have U0 : Up w W0 := by rw [hW0]; exact (by repeat' (first | (with_reducible exact up_refl _) | (with_reducible assumption) | (with_reducible refine up_alloc ?_ _) | (with_reducible refine up_drewN ?_ _) | (with_reducible refine up_drew ?_) | (with_reducible refine up_set ?_ (by first | (simp; done) | (simp; omega) | omega) _) | (refine up_trans ?_ (by with_reducible assumption))))
  have hz : W0.heap.size = w.heap.size + 2 := by rw [hW0]; simp
  obtain ⟨bA, bR⟩ : Bx W0 w.heap.size [.string cgN, .slice A n cp, .slice none 0 0, .int .i64 300] ∧ Bx W0 (w.heap.size + 1) [.string { data := #[] }, .slice none 0 0, .slice none 0 0, .int .i64 0] := by
    rw [hW0]
    refine ⟨bx_alloc (bx_new w _ _) _, ?_⟩
    have q := bx_new (w.alloc (.cells #[.string cgN, .slice A n cp, .slice none 0 0, .int .i64 300] 25)) [.string { data := #[] }, .slice none 0 0, .slice none 0 0, .int .i64 0] 25
    rw [World.size_alloc] at q
    exact q
  clear hW0
  have c0 := (bA 0 _ rfl).1
  have c1 := (bA 1 _ rfl).1
  have c2 := (bA 2 _ rfl).1
  have c3 := (bA 3 _ rfl).1
  go_upto_region 4 with (go_at_call 34; (with_reducible refine (unhide HC _ U0).mono ?_); rintro e w1 ⟨rfl, u1⟩)
  have bA1 := bx_up bA u1
  have bR1 := bx_up bR u1
  have U1 := up_trans U0 u1
  have hz1 : w.heap.size + 2 ≤ w1.heap.size := by have := u1.size; omega
  clear c0 c1 c2 c3 bA bR U0 u1 HC hz
  have c0 := (bA1 0 _ rfl).1
  have c1 := (bA1 1 _ rfl).1
  have c2 := (bA1 2 _ rfl).1
  have c3 := (bA1 3 _ rfl).1
  go_upto_region 5 with (go_at_call 35; (with_reducible refine (unhide HCl _ U1).mono ?_); rintro e w2 ⟨⟨g, c, rfl, bG, hgz⟩, u2⟩)
  refine at_wpC (fun W5 hW5 => ?_)
  have u25 : Up w2 W5 := by rw [hW5]; exact (by repeat' (first | (with_reducible exact up_refl _) | (with_reducible assumption) | (with_reducible refine up_alloc ?_ _) | (with_reducible refine up_drewN ?_ _) | (with_reducible refine up_drew ?_) | (with_reducible refine up_set ?_ (by first | (simp; done) | (simp; omega) | omega) _) | (refine up_trans ?_ (by with_reducible assumption))))
  have b7 : Bx W5 w2.heap.size [.string cgN, .slice (some ⟨g, 0, none⟩) n c, .slice none 0 0, .int .i64 300] := by rw [hW5]; exact bx_new w2 _ _
  have bG5 := bx_up bG u25
  have hgl : g < w2.heap.size := bx_lt bG (by rw [cellsPc_len, unhide HN]; omega)
  have T5 : TdB L g n c w2.heap.size w W5 := ⟨b7, bx_up (bx_up bR1 u2) u25, up_trans (up_trans U1 u2) u25⟩
  obtain ⟨s, hs⟩ : ∃ s, w2.heap.size = s := ⟨_, rfl⟩
  rw [hs] at T5 hgl ⊢
  clear hW5 u25 b7 bG u2 U1 bR1 bA1 c0 c1 c2 c3 HCl hs
  have hgs : g ≠ s := by omega
  have hg2 : w.heap.size + 2 ≤ g := by omega
  clear hgl hgz hz1
  go_upto_region 6 with fail
  go_loopw [24] (fun s24 wr => TdO L g s24 wr ∧ TdB L g n c s w wr) (fun s24 _ => 1 - (intOf s24).toNat)
  case atStart => exact ⟨.inl ⟨rfl, bG5⟩, T5⟩
  case round =>
    clear bG5 T5
    obtain ⟨hO, hT⟩ := hrel
    rcases hO with ⟨rfl, bG⟩ | ⟨rfl, bG⟩
    · obtain ⟨wo, rfl⟩ : ∃ wo, wo = wr := ⟨_, rfl⟩
      have c1 := (hT.1 1 _ rfl).1
      go_upto_region 8 with fail
      clear c1
      have e0 := td_0 L
      rw [← e0] at bG
      go_loopw [29] (fun s29 wr => ∃ k : Nat, k ≤ n ∧ s29 = .int .i64 k ∧ Bx wr g (cellsPc (tdL L k)) ∧ TdB L g n c s w wr) (fun s29 _ => n - (intOf s29).toNat)
      case atStart => exact ⟨0, by omega, rfl, bG, hT⟩
      case round =>
        clear bG hT e0
        obtain ⟨k, hk, rfl, bK, hT⟩ := hrel
        by_cases hlt : k < n
        · have hl : k < L.length := by rw [unhide HN]; exact hlt
          have HT := fun W hb => bx_td (W := W) (g := g) hl hb
          simp only [trP, PceAt] at HT
          have hp : okPp L[k] := by
            have := List.all_eq_true.1 (show L.all okP = true from unhide HOk) L[k] (List.getElem_mem hl)
            rwa [okP_iff] at this
          obtain ⟨⟨a0, a1, a2, a3, a4, a5, a6⟩, _, _⟩ := HT wr bK
          have c1 := (hT.1 1 _ rfl).1
          unfold okPp at hp
          have h1 : IntKind.i64.wrap (L[k].y + L[k].w) = L[k].y + L[k].w := IntWalk.i64_in _ ⟨by omega, by omega⟩
          have h2 : IntKind.i64.wrap (-(L[k].y + L[k].w)) = -(L[k].y + L[k].w) := IntWalk.i64_in _ ⟨by omega, by omega⟩
          have hwk : IntKind.i64.wrap ((k : Int) + 1) = (k : Int) + 1 := IntWalk.i64_in _ ⟨by omega, by omega⟩
          have i0 : (0 : Int) ≤ (k : Int) := by omega
          have i1 : (k : Int) < (n : Int) := by omega
          have i3 : (k : Int).toNat = k := by omega
          have HT := hide HT
          clear hp
          generalize L[k].x = x at *
          generalize L[k].y = y at *
          generalize L[k].z = z at *
          generalize L[k].l = l at *
          generalize L[k].w = d at *
          generalize L[k].h = t at *
          generalize L[k].m = m at *
          go_upto_region 10 with fail
          refine at_wpC (fun W9 hW9 => ?_)
          have u9 : Up wr W9 := by rw [hW9]; exact (by repeat' (first | (with_reducible exact up_refl _) | (with_reducible assumption) | (with_reducible refine up_alloc ?_ _) | (with_reducible refine up_drewN ?_ _) | (with_reducible refine up_drew ?_) | (with_reducible refine up_set ?_ (by first | (simp; done) | (simp; omega) | omega) _) | (refine up_trans ?_ (by with_reducible assumption))))
          have b9 : Bx W9 wr.heap.size [.int .i64 x, .int .i64 y, .int .i64 z, .int .i64 l, .int .i64 d, .int .i64 t, .int .i64 m] := by rw [hW9]; exact bx_new wr _ _
          have hgw : g < wr.heap.size := World.block_lt_of_cell? _ _ a0
          have hsw : s < wr.heap.size := World.block_lt_of_cell? _ _ c1
          have hww : w.heap.size + 2 ≤ wr.heap.size := by omega
          obtain ⟨q, hq⟩ : ∃ q, wr.heap.size = q := ⟨_, rfl⟩
          rw [hq] at b9 hgw hsw hww ⊢
          have T9 := hT.ups u9
          have bK9 := bx_up bK u9
          clear hW9 c1 a0 a1 a2 a3 a4 a5 a6 hT bK u9 hq
          have p0 := (b9 0 _ rfl).1
          have p1 := (b9 1 _ rfl).1
          have p2 := (b9 2 _ rfl).1
          have p3 := (b9 3 _ rfl).1
          have p4 := (b9 4 _ rfl).1
          have q0 := (b9 0 _ rfl).2
          have q1 := (b9 1 _ rfl).2
          have q3 := (b9 3 _ rfl).2
          have q4 := (b9 4 _ rfl).2
          go_upto_region 11 with fail
          refine at_wpC (fun WA hWA => ?_)
          have bA : Bx WA q [.int .i64 (-(y + d)), .int .i64 x, .int .i64 z, .int .i64 d, .int .i64 l, .int .i64 t, .int .i64 m] := by rw [hWA]; exact bx_set (bx_set (bx_set (bx_set b9 0 _) 1 _) 3 _) 4 _
          have TA : TdB L g n c s w WA := by
            rw [hWA]
            obtain ⟨x1, x2, x3⟩ := T9
            exact ⟨bx_far (bx_far (bx_far (bx_far x1 (by simp only; omega) _) (by simp only; omega) _) (by simp only; omega) _) (by simp only; omega) _, bx_far (bx_far (bx_far (bx_far x2 (by simp only; omega) _) (by simp only; omega) _) (by simp only; omega) _) (by simp only; omega) _, up_set (up_set (up_set (up_set x3 (by simp only; omega) _) (by simp only; omega) _) (by simp only; omega) _) (by simp only; omega) _⟩
          have bKA : Bx WA g (cellsPc (tdL L k)) := by
            rw [hWA]
            exact bx_far (bx_far (bx_far (bx_far bK9 (by simp only; omega) _) (by simp only; omega) _) (by simp only; omega) _) (by simp only; omega) _
          obtain ⟨⟨a0, a1, a2, a3, a4, a5, a6⟩, hf, hN⟩ := unhide HT WA bKA
          clear hWA bK9 T9 b9 p0 p1 p2 p3 p4 q0 q1 q3 q4 HT bKA
          have HN9 := hide hN
          have f0 := hf 0 (by omega)
          have f1 := hf 1 (by omega)
          have f2 := hf 2 (by omega)
          have f3 := hf 3 (by omega)
          have f4 := hf 4 (by omega)
          have f5 := hf 5 (by omega)
          have f6 := hf 6 (by omega)
          rw [Nat.add_zero] at f0
          have p0 := (bA 0 _ rfl).1
          have p1 := (bA 1 _ rfl).1
          have p2 := (bA 2 _ rfl).1
          have p3 := (bA 3 _ rfl).1
          have p4 := (bA 4 _ rfl).1
          have p5 := (bA 5 _ rfl).1
          have p6 := (bA 6 _ rfl).1
          have c1 := (TA.1 1 _ rfl).1
          clear hf hN
          go_wp2_with fail
          have TB := TdB.set (TdB.set (TdB.set (TdB.set (TdB.set (TdB.set (TdB.set TA (p := ⟨g, k * 7, none⟩) rfl hgs hg2 (.int .i64 (-(y + d)))) (p := ⟨g, k * 7 + 1, none⟩) rfl hgs hg2 (.int .i64 x)) (p := ⟨g, k * 7 + 2, none⟩) rfl hgs hg2 (.int .i64 z)) (p := ⟨g, k * 7 + 3, none⟩) rfl hgs hg2 (.int .i64 d)) (p := ⟨g, k * 7 + 4, none⟩) rfl hgs hg2 (.int .i64 l)) (p := ⟨g, k * 7 + 5, none⟩) rfl hgs hg2 (.int .i64 t)) (p := ⟨g, k * 7 + 6, none⟩) rfl hgs hg2 (.int .i64 m)
          go_roundw
          case rel => exact ⟨k + 1, by omega, by go_num, unhide HN9, TB⟩
          case measure => simp [intOf]; omega
        · obtain rfl : k = n := by omega
          rw [td_n L (by rw [unhide HN]; exact Nat.le_refl _)] at bK
          have i1 : ¬ (k : Int) < (k : Int) := by omega
          have c2 := (hT.1 2 _ rfl).1
          obtain ⟨wp, rfl⟩ : ∃ wp, wp = wr := ⟨_, rfl⟩
          go_upto_region 14 with fail
          clear c2
          go_loopw [59] (fun s59 wr => s59 = .int .i64 0 ∧ Bx wr g (cellsPc (L.map trP)) ∧ TdB L g k c s w wr) (fun _ _ => 0)
          case atStart => exact ⟨rfl, bK, hT⟩
          case round =>
            clear bK hT
            obtain ⟨rfl, bK, hT⟩ := hrel
            go_wp2_with fail
            go_roundw
            case rel => exact ⟨.inr ⟨rfl, bK⟩, hT⟩
            case measure => simp [intOf]
    · have c0 := (hT.1 0 _ rfl).1
      have c1 := (hT.1 1 _ rfl).1
      have c2 := (hT.1 2 _ rfl).1
      have c3 := (hT.1 3 _ rfl).1
      go_wp2_with (go_at_call 36; (with_reducible refine (unhide HR g c _ bG).mono ?_); rintro e w8 ⟨rfl, u8⟩; have T8 := hT.ups u8; have bG8 := bx_up bG u8; have d0 := (T8.2.1 0 _ rfl).1; have d1 := (T8.2.1 1 _ rfl).1; have d2 := (T8.2.1 2 _ rfl).1; have d3 := (T8.2.1 3 _ rfl).1; have e0 := (T8.2.1 0 _ rfl).2; have e1 := (T8.2.1 1 _ rfl).2; have e2 := (T8.2.1 2 _ rfl).2; have e3 := (T8.2.1 3 _ rfl).2)
      have B9 := bx_set (bx_set (bx_set (bx_set T8.2.1 0 (.string cgN)) 1 (.slice (some ⟨g, 0, none⟩) n c)) 2 (.slice none 0 0)) 3 (.int .i64 300)
      have V9 := up_set (up_set (up_set (up_set T8.2.2 (p := ⟨w.heap.size + 1, 0, none⟩) (by simp only; omega) (.string cgN)) (p := ⟨w.heap.size + 1, 1, none⟩) (by simp only; omega) (.slice (some ⟨g, 0, none⟩) n c)) (p := ⟨w.heap.size + 1, 2, none⟩) (by simp only; omega) (.slice none 0 0)) (p := ⟨w.heap.size + 1, 3, none⟩) (by simp only; omega) (.int .i64 300)
      have K9 := bx_far (bx_far (bx_far (bx_far bG8 (p := ⟨w.heap.size + 1, 0, none⟩) (by simp only; omega) (.string cgN)) (p := ⟨w.heap.size + 1, 1, none⟩) (by simp only; omega) (.slice (some ⟨g, 0, none⟩) n c)) (p := ⟨w.heap.size + 1, 2, none⟩) (by simp only; omega) (.slice none 0 0)) (p := ⟨w.heap.size + 1, 3, none⟩) (by simp only; omega) (.int .i64 300)
      generalize (((w8.setCell ⟨w.heap.size + 1, 0, none⟩ (.string cgN)).setCell ⟨w.heap.size + 1, 1, none⟩ (.slice (some ⟨g, 0, none⟩) n c)).setCell ⟨w.heap.size + 1, 2, none⟩ (.slice none 0 0)).setCell ⟨w.heap.size + 1, 3, none⟩ (.int .i64 300) = WA at B9 V9 K9 ⊢
      have z0 := (B9 0 _ rfl).1
      have z1 := (B9 1 _ rfl).1
      have z2 := (B9 2 _ rfl).1
      have z3 := (B9 3 _ rfl).1
      refine bodyPost_ret (v := .tuple #[loV cgN (some ⟨g, 0, none⟩) n c none 0 0 300, .int .i64 0]) (by simp [results, Try.f11, go_sem, z0, z1, z2, z3]) rfl ?_
      exact ⟨⟨_, c, rfl, pcs_bx K9⟩, V9⟩
end Go.Proofs.Ytdehnokcjnbjoaa
namespace Go.Proofs.Ytdehnokcjnbjoaa
open Go.RowKit Go.Proofs.Gn
attribute [local go_sem] Oper.semAt_some
set_option linter.unusedVariables false
theorem p_GrowPc (n : Nat) (h0 : 0 < n) (hn : n ≤ 1000) (w : World) :
    Calls Try.prog 67 #[.slice none 0 0, .int .i64 n] w fun e w' => ∃ v, e = .returned v ∧ w'.ownsRow w.heap.size 76 7 v 0 [] ∧ Up w w' := by
  obtain ⟨i0', hi, hz0, hz1, hz2⟩ := info_parts info_pc
  have q := Any8.slices_Grow_grow Try.growPc i0' _ hi hz0 (by rw [hz1]; decide) none 0 0 n [] w (Nat.le_refl _) (by omega) (by rw [hz2]; omega) (by omega) (by simp) (fun _ => rfl) (fun a ha => by cases ha)
  refine q.mono ?_
  rintro e w' ⟨rfl, rfl⟩
  have hge := grownCap_ge w (0 + n) 0 (Try.growPc_ren.t 25)
  have hle := grownCap_le_maxLen w (0 + n) 0 (Try.growPc_ren.t 25) (by unfold maxLen; omega)
  generalize grownCap w (0 + n) 0 (Try.growPc_ren.t 25) = G at *
  refine ⟨_, rfl, World.ownsRow_made w.drew _ G (Nat.le_refl _) hle ?_, up_alloc (up_drew (up_refl _)) _⟩
  rw [Array.size_append, Array.size_append, size_zeroCells, size_zeroCells]
  show 0 + (0 + n - 0) * 7 + (G - (0 + n)) * 7 = G * 7
  omega
/-- How far the first loop has come. -/
def CcA (L1 N : Nat) (s3 s11 : Value) : Prop := (s11 = .int .i64 0 ∧ s3 = .int .i64 0) ∨ (s11 = .int .i64 1 ∧ s3 = .int .i64 L1) ∨ (s11 = .int .i64 2 ∧ s3 = .int .i64 N)
/-- How far the second one has. -/
def CcB (B : Nat) (p1 p2 : List Pce) (L1 L2 : Nat) (s6 s27 : Value) (w : World) : Prop := (s27 = .int .i64 0 ∧ w.ownsRow B 76 7 s6 0 []) ∨ (s27 = .int .i64 1 ∧ w.ownsRow B 76 7 s6 L1 (cellsPc p1)) ∨ (s27 = .int .i64 2 ∧ w.ownsRow B 76 7 s6 (L1 + L2) (cellsPc (p1 ++ p2)))
set_option maxRecDepth 100000 in
set_option maxHeartbeats 8000000 in
theorem p_ConcatPc (g : Nat) (A1 A2 : Option Addr) (p1 p2 : List Pce) (c1 c2 : Nat) (w : World) (hg : Bx w g [.slice A1 p1.length c1, .slice A2 p2.length c2]) (h1 : Pcs w A1 p1) (h2 : Pcs w A2 p2) (n1 : 0 < p1.length ∧ p1.length ≤ 100) (n2 : 0 < p2.length ∧ p2.length ≤ 100) :
    Calls Try.prog 41 #[.slice (some ⟨g, 0, none⟩) 2 2] w fun e w' => (∃ v, e = .returned v ∧ w'.ownsRow w.heap.size 76 7 v (p1.length + p2.length) (cellsPc (p1 ++ p2))) ∧ Up w w' := by
  obtain ⟨b1, o1, rfl, q1⟩ := h1.resolve_left (by intro e; rw [e] at n1; simp at n1)
  obtain ⟨b2, o2, rfl, q2⟩ := h2.resolve_left (by intro e; rw [e] at n2; simp at n2)
  have HN1 := hide (pcs_news q1)
  have HN2 := hide (pcs_news q2)
  have HL1 := hide (cellsPc_len p1)
  have HL2 := hide (cellsPc_len p2)
  have HG := hide hg
  have HGr := hide (fun n h0 hn W => p_GrowPc n h0 hn W)
  obtain ⟨i0', hi, hz0, hz1, hz2⟩ := info_parts info_pc
  have HI := hide hi
  obtain ⟨L1, hL1⟩ : ∃ n, p1.length = n := ⟨_, rfl⟩
  obtain ⟨L2, hL2⟩ : ∃ n, p2.length = n := ⟨_, rfl⟩
  rw [hL1] at n1 HL1 HG ⊢
  rw [hL2] at n2 HL2 HG ⊢
  clear hL1 hL2 h1 h2 q1 q2 hg hi
  obtain ⟨N, hN⟩ : ∃ N, L1 + L2 = N := ⟨_, rfl⟩
  have HN := hide hN
  have hNb : 0 < N ∧ N ≤ 200 := by omega
  have hNi : (L1 : Int) + (L2 : Int) = (N : Int) := by omega
  have w1 : IntKind.i64.wrap ((L1 : Int) + (L2 : Int)) = (N : Int) := by rw [hNi]; exact IntWalk.i64_in _ ⟨by omega, by omega⟩
  clear hN hNi
  have c0 := (unhide HG 0 _ rfl).1
  have c1' := (unhide HG 1 _ rfl).1
  go_enter Try.func41, Try.ntmps41
  go_upto_region 3 with fail
  go_loopw [3, 11] (fun s3 s11 wr => CcA L1 N s3 s11 ∧ wr = w) (fun _ s11 _ => 2 - (intOf s11).toNat)
  case atStart => exact ⟨.inl ⟨rfl, rfl⟩, rfl⟩
  case round =>
    obtain ⟨hA, rfl⟩ := hrel
    rcases hA with ⟨rfl, rfl⟩ | ⟨rfl, rfl⟩ | ⟨rfl, rfl⟩
    · go_wp2_with fail
      go_roundw
      case rel => exact ⟨.inr (.inl ⟨rfl, by first | rfl | go_num⟩), by trivial⟩
      case measure => simp [intOf]
    · go_wp2_with fail
      go_roundw
      case rel => exact ⟨.inr (.inr ⟨rfl, by first | rfl | go_num⟩), by trivial⟩
      case measure => simp [intOf]
    · have hnn : ¬ (N : Int) < 0 := by omega
      have HUn := hide (up_refl wr)
      clear c0 c1' w1
      go_wp2_with (go_at_call 67; (with_reducible refine (unhide HGr N hNb.1 (by omega) _).mono ?_); rintro e w2 ⟨v, rfl, ho, hu⟩; have HO := hide ho; have HU := hide hu; clear ho hu)
      clear HUn
      obtain ⟨wo, rfl⟩ : ∃ wo, wo = wr := ⟨_, rfl⟩
      go_loopw [6, 27] (fun s6 s27 wx => CcB wo.heap.size p1 p2 L1 L2 s6 s27 wx ∧ Up wo wx) (fun _ s27 _ => 2 - (intOf s27).toNat)
      case atStart => exact ⟨.inl ⟨rfl, unhide HO⟩, unhide HU⟩
      case round =>
        obtain ⟨hB, hux⟩ := hrel
        clear HO HU
        have d0 := up_cell hux (unhide HG 0 _ rfl).1
        have d1 := up_cell hux (unhide HG 1 _ rfl).1
        have HU := hide hux
        have hsz := hux.size
        rcases hB with ⟨rfl, ho⟩ | ⟨rfl, ho⟩ | ⟨rfl, ho⟩
        · have HO := hide ho
          clear ho hux
          go_wp2_with (at_builtin; refine wpList_append_own _ rfl (.tmp 31) (.tmp 32) 22 rfl wo.heap.size 76 i0' _ 7 56 Try.underlying22 (unhide HI) hz0 hz1 hz2 rfl (by decide) _ 0 [] rfl (unhide HO) ⟨b1, o1, none⟩ L1 c1 (cellsPc p1) rfl (unhide HL1) (fun j u hj => by rw [addr_add]; exact up_cell (unhide HU) (unhide HN1 j u hj)) cellsPc_one (by unfold maxLen; omega) (by omega) hsz ?_; intro v' w7 hown' hgrow _)
          have R1 : w7.ownsRow wo.heap.size 76 7 v' L1 (cellsPc p1) := by simpa using hown'
          have R2 : Up wo w7 := (unhide HU).grown hgrow hsz fun g hg => ((unhide HO).lt g hg).1
          go_roundw
          case rel => exact ⟨.inr (.inl ⟨rfl, R1⟩), R2⟩
          case measure => simp [intOf]
        · have HO := hide ho
          clear ho hux
          go_wp2_with (at_builtin; refine wpList_append_own _ rfl (.tmp 31) (.tmp 32) 22 rfl wo.heap.size 76 i0' _ 7 56 Try.underlying22 (unhide HI) hz0 hz1 hz2 rfl (by decide) _ L1 (cellsPc p1) rfl (unhide HO) ⟨b2, o2, none⟩ L2 c2 (cellsPc p2) rfl (unhide HL2) (fun j u hj => by rw [addr_add]; exact up_cell (unhide HU) (unhide HN2 j u hj)) cellsPc_one (by unfold maxLen; omega) (by omega) hsz ?_; intro v' w7 hown' hgrow _)
          have R1 : w7.ownsRow wo.heap.size 76 7 v' (L1 + L2) (cellsPc (p1 ++ p2)) := by rw [cellsPc_append]; exact hown'
          have R2 : Up wo w7 := (unhide HU).grown hgrow hsz fun g hg => ((unhide HO).lt g hg).1
          go_roundw
          case rel => exact ⟨.inr (.inr ⟨rfl, R1⟩), R2⟩
          case measure => simp [intOf]
        · have HO := hide ho
          clear ho hux d0 d1
          go_wp2_with fail
          go_ret
          exact ⟨⟨_, rfl, unhide HO⟩, unhide HU⟩
end Go.Proofs.Ytdehnokcjnbjoaa
namespace Go.Proofs.Ytdehnokcjnbjoaa
open Go.RowKit Go.Proofs.Gn Go.ChangeShapes Go.WideShapes Go.Deep Go.Joins Go.ChangeAt
instance : Inhabited Pce := ⟨⟨0, 0, 0, 0, 0, 0, 0⟩⟩
instance : Inhabited Eye := ⟨⟨0, 0, 0, 0⟩⟩
theorem Try.laidOutL : laidOutB Try.prog = true := by kernel_rfl
theorem Try.readLoad : Try.prog.readableRec 25 = true := by kernel_rfl
theorem Try.cellsPiece : Try.prog.cellsOf 76 = 7 := by kernel_rfl
theorem Try.cellsEye : Try.prog.cellsOf 78 = 4 := by kernel_rfl
theorem Try.cellsLoad : Try.prog.cellsOf 25 = 4 := by kernel_rfl
theorem Try.cellsI64L : Try.prog.cellsOf 2 = 1 := by kernel_rfl
theorem add_atL {a : Addr} (h : a.spot = none) (n : Nat) : a.add n = ⟨a.block, a.off + n, none⟩ := by
  obtain ⟨b, o, s⟩ := a
  subst h
  unfold Addr.add
  split
  · subst n; rfl
  · rfl
set_option maxRecDepth 100000 in
theorem pcs_open {H : Type} {enc : TypeId × Value → H} {W : World} {base fuel : Nat} {v : Value} {x : DataW H × List MemPlace} (hf : DataW.trod enc Try.prog W base (fun _ => true) true fuel 22 [v] = some x) :
    ∃ A ps cap, v = .slice A (List.length ps) cap ∧ Pcs W A ps ∧ ps.length ≤ 9223372036854775807 := by
  rcases open_slice Try.underlying22 hf with ⟨hc, _⟩ | ⟨a, len, cap, m, n, D, Pl, hc, hb, hl, hm, hmm, hx, hi⟩
  · simp only [List.cons.injEq, and_true] at hc
    exact ⟨none, [], 0, hc, .inl rfl, by simp⟩
  · simp only [List.cons.injEq, and_true] at hc
    have hlm : len ≤ m := by rw [hmm]; split <;> omega
    by_cases h0 : len = 0
    · subst h0
      exact ⟨some a, [], cap, by simpa using hc, .inl rfl, by simp⟩
    have hs : a.spot = none := by
      obtain ⟨cs', h1, h2⟩ := hi 0 (by omega)
      rw [Try.cellsPiece] at h1
      obtain ⟨_, hlen, hcell⟩ := World.cells?_some h1
      match cs', hlen with
      | [v0, v1, v2, v3, v4, v5, v6], _ =>
        have c0 := hcell 0 (by omega)
        simpa [Addr.add] using World.cell?_spot c0
    have each : ∀ i, i < len → ∃ s : Pce, PceAt W a.block (a.off + i * 7) s := by
      intro i hlt
      obtain ⟨cs', h1, h2⟩ := hi i (by omega)
      rw [Try.cellsPiece] at h1
      obtain ⟨_, hlen, hcell⟩ := World.cells?_some h1
      obtain ⟨xs, k, hk, hxy, _, hxl, hg⟩ := DataW.trod_struct Try.underlying76 h2
      match xs, hxl, cs', hlen with
      | [y0, y1, y2, y3, y4, y5, y6], _, [v0, v1, v2, v3, v4, v5, v6], _ =>
        have g0 := hg 0 _ rfl
        have g1 := hg 1 _ rfl
        have g2 := hg 2 _ rfl
        have g3 := hg 3 _ rfl
        have g4 := hg 4 _ rfl
        have g5 := hg 5 _ rfl
        have g6 := hg 6 _ rfl
        simp [Try.cellsI64L] at g0 g1 g2 g3 g4 g5 g6
        obtain ⟨x0, e0, _, _⟩ := DataW.trod_int Try.underlying2 g0
        obtain ⟨x1, e1, _, _⟩ := DataW.trod_int Try.underlying2 g1
        obtain ⟨x2, e2, _, _⟩ := DataW.trod_int Try.underlying2 g2
        obtain ⟨x3, e3, _, _⟩ := DataW.trod_int Try.underlying2 g3
        obtain ⟨x4, e4, _, _⟩ := DataW.trod_int Try.underlying2 g4
        obtain ⟨x5, e5, _, _⟩ := DataW.trod_int Try.underlying2 g5
        obtain ⟨x6, e6, _, _⟩ := DataW.trod_int Try.underlying2 g6
        simp only [List.cons.injEq, and_true] at e0 e1 e2 e3 e4 e5 e6
        subst e0 e1 e2 e3 e4 e5 e6
        have c0 := hcell 0 (by omega)
        have c1 := hcell 1 (by omega)
        have c2 := hcell 2 (by omega)
        have c3 := hcell 3 (by omega)
        have c4 := hcell 4 (by omega)
        have c5 := hcell 5 (by omega)
        have c6 := hcell 6 (by omega)
        rw [add_add, add_atL hs] at c0 c1 c2 c3 c4 c5 c6
        exact ⟨⟨x0, x1, x2, x3, x4, x5, x6⟩, by simpa using c0, by simpa [Nat.add_assoc] using c1, by simpa [Nat.add_assoc] using c2, by simpa [Nat.add_assoc] using c3, by simpa [Nat.add_assoc] using c4, by simpa [Nat.add_assoc] using c5, by simpa [Nat.add_assoc] using c6⟩
    obtain ⟨q, hq⟩ := choose_lt each
    refine ⟨some a, (List.range len).map q, cap, by simpa using hc, ?_, by simp [maxLen] at hm ⊢; omega⟩
    refine .inr ⟨a.block, a.off, by obtain ⟨_, _, _⟩ := a; subst hs; rfl, fun k hk => ?_⟩
    have hk2 : k < len := by simpa using hk
    have := hq k hk2
    simpa using this
set_option maxRecDepth 100000 in
theorem eyes_open {H : Type} {enc : TypeId × Value → H} {W : World} {base fuel : Nat} {v : Value} {x : DataW H × List MemPlace} (hf : DataW.trod enc Try.prog W base (fun _ => true) true fuel 23 [v] = some x) :
    ∃ A ps cap, v = .slice A (List.length ps) cap ∧ Eyes W A ps ∧ ps.length ≤ 9223372036854775807 := by
  rcases open_slice Try.underlying23 hf with ⟨hc, _⟩ | ⟨a, len, cap, m, n, D, Pl, hc, hb, hl, hm, hmm, hx, hi⟩
  · simp only [List.cons.injEq, and_true] at hc
    exact ⟨none, [], 0, hc, .inl rfl, by simp⟩
  · simp only [List.cons.injEq, and_true] at hc
    have hlm : len ≤ m := by rw [hmm]; split <;> omega
    by_cases h0 : len = 0
    · subst h0
      exact ⟨some a, [], cap, by simpa using hc, .inl rfl, by simp⟩
    have hs : a.spot = none := by
      obtain ⟨cs', h1, h2⟩ := hi 0 (by omega)
      rw [Try.cellsEye] at h1
      obtain ⟨_, hlen, hcell⟩ := World.cells?_some h1
      match cs', hlen with
      | [v0, v1, v2, v3], _ =>
        have c0 := hcell 0 (by omega)
        simpa [Addr.add] using World.cell?_spot c0
    have each : ∀ i, i < len → ∃ s : Eye, EyeAt W a.block (a.off + i * 4) s := by
      intro i hlt
      obtain ⟨cs', h1, h2⟩ := hi i (by omega)
      rw [Try.cellsEye] at h1
      obtain ⟨_, hlen, hcell⟩ := World.cells?_some h1
      obtain ⟨xs, k, hk, hxy, _, hxl, hg⟩ := DataW.trod_struct Try.underlying78 h2
      match xs, hxl, cs', hlen with
      | [y0, y1, y2, y3], _, [v0, v1, v2, v3], _ =>
        have g0 := hg 0 _ rfl
        have g1 := hg 1 _ rfl
        have g2 := hg 2 _ rfl
        have g3 := hg 3 _ rfl
        simp [Try.cellsI64L] at g0 g1 g2 g3
        obtain ⟨x0, e0, _, _⟩ := DataW.trod_int Try.underlying2 g0
        obtain ⟨x1, e1, _, _⟩ := DataW.trod_int Try.underlying2 g1
        obtain ⟨x2, e2, _, _⟩ := DataW.trod_int Try.underlying2 g2
        obtain ⟨x3, e3, _, _⟩ := DataW.trod_int Try.underlying2 g3
        simp only [List.cons.injEq, and_true] at e0 e1 e2 e3
        subst e0 e1 e2 e3
        have c0 := hcell 0 (by omega)
        have c1 := hcell 1 (by omega)
        have c2 := hcell 2 (by omega)
        have c3 := hcell 3 (by omega)
        rw [add_add, add_atL hs] at c0 c1 c2 c3
        exact ⟨⟨x0, x1, x2, x3⟩, by simpa using c0, by simpa [Nat.add_assoc] using c1, by simpa [Nat.add_assoc] using c2, by simpa [Nat.add_assoc] using c3⟩
    obtain ⟨q, hq⟩ := choose_lt each
    refine ⟨some a, (List.range len).map q, cap, by simpa using hc, ?_, by simp [maxLen] at hm ⊢; omega⟩
    refine .inr ⟨a.block, a.off, by obtain ⟨_, _, _⟩ := a; subst hs; rfl, fun k hk => ?_⟩
    have hk2 : k < len := by simpa using hk
    have := hq k hk2
    simpa using this
set_option maxRecDepth 100000 in
theorem load_open {H : Type} {enc : TypeId × Value → H} {W : World} {base b0 : Nat} {r : Reach} {v : Value} {d : DataW H} {p : List MemPlace} (hv : Value.okWide Try.prog W r b0 25 v) (h : DataW.Trod enc Try.prog W base (fun _ => true) true 25 v d p) :
    ∃ s A ps capA B ys capB f, v = loV s A (List.length ps) capA B (List.length ys) capB f ∧ Pcs W A ps ∧ Eyes W B ys ∧ ps.length ≤ 9223372036854775807 ∧ ys.length ≤ 9223372036854775807 ∧ s.size ≤ maxLen := by
  obtain ⟨v0, v1, v2, v3, y0, y1, y2, y3, n, rfl, rfl, rfl, h0, h1, h2, h3⟩ := open_agg4 Try.underlying25 (by kernel_rfl) Try.cellsLoad hv h
  obtain ⟨s, e0, _, hs⟩ := DataW.trod_string Try.underlying9 h0
  simp only [List.cons.injEq, and_true] at e0
  subst e0
  obtain ⟨A, ps, capA, rfl, hA, hn⟩ := pcs_open h1
  obtain ⟨B, ys, capB, rfl, hB, hm⟩ := eyes_open h2
  obtain ⟨f, e3, _, _⟩ := DataW.trod_int Try.underlying2 h3
  simp only [List.cons.injEq, and_true] at e3
  subst e3
  exact ⟨s, A, ps, capA, B, ys, capB, f, rfl, hA, hB, hn, hm, hs⟩
/-- A load reads as it did. -/
theorem load_shut {H : Type} {enc : TypeId × Value → H} {W W' : World} {sp : Nat → Bool} {v : Value} {d : DataW H} {p : List MemPlace} (h : DataW.Trod enc Try.prog W 0 (fun _ => true) true 25 v d p) (hb : Below W.heap.size W W') (hlt : ∀ x ∈ p, x.block < W.heap.size) (hsp : ∀ x ∈ p, sp x.block = true) :
    DataW.Trod enc Try.prog W' 0 sp true 25 v d p :=
  WideElems.Trod_stays Try.laidOutL Try.readLoad (of_decide_eq_true (by kernel_rfl)) h (fun x hx => hb.same (hlt x hx)) hsp
end Go.Proofs.Ytdehnokcjnbjoaa
