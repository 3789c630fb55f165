/- Two loads of boxes joined. -/
import Derived.Test.YtooochbfnmmnkaaGreatPkHulls
import Derived.Test.YtooochbfnmmnkaaGreatWk5
import Derived.Test.YtooochbfnmmnkaaGreatChU
namespace Go.Proofs.YtooochbfnmmnkaaGreat
open Go.RowKit Go.Proofs.Gn
attribute [local go_sem] Oper.semAt_some
set_option linter.unusedVariables false
abbrev lo0V : Value := .agg #[.string { data := #[] }, .slice none 0 0, .slice none 0 0, .int .i64 0]
theorem p_checkC (P : Option Addr) (ps : List Pce) (cp : Nat) (w : World) (h : Pcs w P ps) (hn : ps.length ≤ 100) (E : Int) (hE : loE cgN ps [] 300 = E) :
    Calls Tryz.prog 23 #[loV cgN P ps.length cp none 0 0 300] w fun e w' => e = .returned (.int .i64 E) ∧ Up w w' := by
  have q := p_CheckL cgN P ps cp none [] 0 300 w h (.inl rfl) (by omega) (by simp)
  rw [hE] at q
  exact q
set_option maxRecDepth 100000 in
set_option maxHeartbeats 4000000 in
theorem p_resultOk (P : Option Addr) (ps : List Pce) (cp : Nat) (w : World) (h : Pcs w P ps) (hE : loE cgN ps [] 300 = 0) (hn : ps.length ≤ 100) :
    Calls Tryz.prog 31 #[loV cgN P ps.length cp none 0 0 300] w fun e w' => e = .returned (.tuple #[loV cgN P ps.length cp none 0 0 300, .int .i64 0]) ∧ Up w w' := by
  have HC := hide (fun W (hW : Up w W) => p_checkC P ps cp W (pcs_up h hW) hn 0 hE)
  clear h hE
  generalize ps.length = n at *
  go_enter Tryz.func31, Tryz.ntmps31
  go_upto_region 1 with fail
  refine at_wpC (fun W0 hW0 => ?_)
  have U0 : Up w W0 := by rw [hW0]; exact (by repeat' (first | (with_reducible exact up_refl _) | (with_reducible assumption) | (with_reducible refine up_alloc ?_ _) | (with_reducible refine up_drewN ?_ _) | (with_reducible refine up_drew ?_) | (with_reducible refine up_set ?_ (by first | (simp; done) | (simp; omega) | omega) _) | (refine up_trans ?_ (by with_reducible assumption))))
  have hz : W0.heap.size = w.heap.size + 2 := by rw [hW0]; simp
  obtain ⟨bA, bR⟩ : Bx W0 w.heap.size [.string cgN, .slice P n cp, .slice none 0 0, .int .i64 300] ∧ Bx W0 (w.heap.size + 1) [.string { data := #[] }, .slice none 0 0, .slice none 0 0, .int .i64 0] := by
    rw [hW0]
    refine ⟨bx_alloc (bx_new w _ _) _, ?_⟩
    have q := bx_new (w.alloc (.cells #[.string cgN, .slice P n cp, .slice none 0 0, .int .i64 300] 27)) [.string { data := #[] }, .slice none 0 0, .slice none 0 0, .int .i64 0] 27
    rw [World.size_alloc] at q
    exact q
  clear hW0
  have c0 := (bA 0 _ rfl).1
  have c1 := (bA 1 _ rfl).1
  have c2 := (bA 2 _ rfl).1
  have c3 := (bA 3 _ rfl).1
  go_upto_region 3 with (go_at_call 23; (with_reducible refine (unhide HC _ U0).mono ?_); rintro e w1 ⟨rfl, hb⟩)
  have bA1 := bx_up bA hb
  have bR1 := bx_up bR hb
  have U1 := up_trans U0 hb
  clear c0 c1 c2 c3 bA bR U0 hb HC
  have c0 := (bA1 0 _ rfl).1
  have c1 := (bA1 1 _ rfl).1
  have c2 := (bA1 2 _ rfl).1
  have c3 := (bA1 3 _ rfl).1
  have d0 := (bR1 0 _ rfl).1
  have d1 := (bR1 1 _ rfl).1
  have d2 := (bR1 2 _ rfl).1
  have d3 := (bR1 3 _ rfl).1
  have f0 := (bR1 0 _ rfl).2
  have f1 := (bR1 1 _ rfl).2
  have f2 := (bR1 2 _ rfl).2
  have f3 := (bR1 3 _ rfl).2
  go_wp2_with fail
  have B9 := bx_set (bx_set (bx_set (bx_set bR1 0 (.string cgN)) 1 (.slice P n cp)) 2 (.slice none 0 0)) 3 (.int .i64 300)
  have U9 : Up w ((((w1.setCell ⟨w.heap.size + 1, 0, none⟩ (.string cgN)).setCell ⟨w.heap.size + 1, 1, none⟩ (.slice P n cp)).setCell ⟨w.heap.size + 1, 2, none⟩ (.slice none 0 0)).setCell ⟨w.heap.size + 1, 3, none⟩ (.int .i64 300)) := up_set (up_set (up_set (up_set U1 (by simp only; omega) _) (by simp only; omega) _) (by simp only; omega) _) (by simp only; omega) _
  generalize (((w1.setCell ⟨w.heap.size + 1, 0, none⟩ (.string cgN)).setCell ⟨w.heap.size + 1, 1, none⟩ (.slice P n cp)).setCell ⟨w.heap.size + 1, 2, none⟩ (.slice none 0 0)).setCell ⟨w.heap.size + 1, 3, none⟩ (.int .i64 300) = W9 at *
  have z0 := (B9 0 _ rfl).1
  have z1 := (B9 1 _ rfl).1
  have z2 := (B9 2 _ rfl).1
  have z3 := (B9 3 _ rfl).1
  refine bodyPost_ret (v := .tuple #[loV cgN P n cp none 0 0 300, .int .i64 0]) (by simp [results, Tryz.f31, go_sem, z0, z1, z2, z3]) rfl ?_
  exact ⟨rfl, U9⟩
abbrev ld2 (A B : Option Addr) (n m c d : Nat) : Value := .agg #[.string cgN, .slice A n c, .slice none 0 0, .int .i64 300, .string cgN, .slice B m d, .slice none 0 0, .int .i64 300]
theorem ix2L (A B : Option Addr) (n m c d : Nat) (w : World) : (Instr.index 91 (ld2 A B n m c d) (.int .i64 0)).run Tryz.prog w = .ok (loV cgN A n c none 0 0 300) w ∧ (Instr.index 91 (ld2 A B n m c d) (.int .i64 1)).run Tryz.prog w = .ok (loV cgN B m d none 0 0 300) w := ⟨by kernel_rfl, by kernel_rfl⟩
def JnI (s : Value) : Prop := s = .int .i64 0 ∨ s = .int .i64 1 ∨ s = .int .i64 2
theorem bx_two (w : World) (x y z : List Value) (T : TypeId) : Bx (((w.alloc (.cells x.toArray T)).alloc (.cells y.toArray T)).alloc (.cells z.toArray T)) w.heap.size x ∧ Bx (((w.alloc (.cells x.toArray T)).alloc (.cells y.toArray T)).alloc (.cells z.toArray T)) (w.heap.size + 1) y ∧ Bx (((w.alloc (.cells x.toArray T)).alloc (.cells y.toArray T)).alloc (.cells z.toArray T)) (w.heap.size + 1 + 1) z := by
  refine ⟨bx_alloc (bx_alloc (bx_new w _ _) _) _, ?_, ?_⟩
  · have q := bx_new (w.alloc (.cells x.toArray T)) y T
    rw [World.size_alloc] at q
    exact bx_alloc q _
  · have q := bx_new ((w.alloc (.cells x.toArray T)).alloc (.cells y.toArray T)) z T
    rw [World.size_alloc, World.size_alloc] at q
    exact q
theorem bx_new1 (W : World) (o : Obj) (vs : List Value) (T : TypeId) : Bx ((W.alloc o).alloc (.cells vs.toArray T)) (W.heap.size + 1) vs := by
  have q := bx_new (W.alloc o) vs T
  rw [World.size_alloc] at q
  exact q
theorem bx_newd (W : World) (vs : List Value) (T : TypeId) : Bx (W.drew.alloc (.cells vs.toArray T)) W.heap.size vs := bx_new W.drew vs T
/-- What stays while a joined load is made: both loads' boxes, the result's box. -/
def JB (P1 P2 : Option Addr) (L1 L2 d1 d2 : Nat) (w wx : World) : Prop := Bx wx w.heap.size [.string cgN, .slice P1 L1 d1, .slice none 0 0, .int .i64 300] ∧ Bx wx (w.heap.size + 1) [.string cgN, .slice P2 L2 d2, .slice none 0 0, .int .i64 300] ∧ (∃ r0 r1 r2 r3, Bx wx (w.heap.size + 1 + 1) [r0, r1, r2, r3]) ∧ Up w wx
theorem JB.ups {P1 P2 : Option Addr} {L1 L2 d1 d2 : Nat} {w wx wy : World} (h : JB P1 P2 L1 L2 d1 d2 w wx) (hu : Up wx wy) : JB P1 P2 L1 L2 d1 d2 w wy := by
  obtain ⟨a, b, ⟨r0, r1, r2, r3, c⟩, d⟩ := h
  exact ⟨bx_up a hu, bx_up b hu, ⟨r0, r1, r2, r3, bx_up c hu⟩, up_trans d hu⟩
theorem JB.set {P1 P2 : Option Addr} {L1 L2 d1 d2 : Nat} {w wx : World} (h : JB P1 P2 L1 L2 d1 d2 w wx) (v0 v1 v2 v3 : Value) : JB P1 P2 L1 L2 d1 d2 w ((((wx.setCell ⟨w.heap.size + 1 + 1, 0, none⟩ v0).setCell ⟨w.heap.size + 1 + 1, 1, none⟩ v1).setCell ⟨w.heap.size + 1 + 1, 2, none⟩ v2).setCell ⟨w.heap.size + 1 + 1, 3, none⟩ v3) := by
  obtain ⟨a, b, ⟨r0, r1, r2, r3, c⟩, d⟩ := h
  exact ⟨bx_far (bx_far (bx_far (bx_far a (by simp only; omega) _) (by simp only; omega) _) (by simp only; omega) _) (by simp only; omega) _, bx_far (bx_far (bx_far (bx_far b (by simp only; omega) _) (by simp only; omega) _) (by simp only; omega) _) (by simp only; omega) _, ⟨v0, v1, v2, v3, bx_set (bx_set (bx_set (bx_set c 0 v0) 1 v1) 2 v2) 3 v3⟩, up_set (up_set (up_set (up_set d (by simp only; omega) _) (by simp only; omega) _) (by simp only; omega) _) (by simp only; omega) _⟩
theorem JB.cells {P1 P2 : Option Addr} {L1 L2 d1 d2 : Nat} {w wx : World} (h : JB P1 P2 L1 L2 d1 d2 w wx) : wx.cell? ⟨w.heap.size, 0, none⟩ = some (.string cgN) ∧ wx.cell? ⟨w.heap.size, 1, none⟩ = some (.slice P1 L1 d1) ∧ wx.cell? ⟨w.heap.size, 2, none⟩ = some (.slice none 0 0) ∧ wx.cell? ⟨w.heap.size, 3, none⟩ = some (.int .i64 300) ∧ wx.cell? ⟨w.heap.size + 1, 1, none⟩ = some (.slice P2 L2 d2) ∧ wx.cell? ⟨w.heap.size + 1, 2, none⟩ = some (.slice none 0 0) ∧ wx.cell? ⟨w.heap.size + 1, 3, none⟩ = some (.int .i64 300) ∧ JB P1 P2 L1 L2 d1 d2 w wx :=
  ⟨(h.1 0 _ rfl).1, (h.1 1 _ rfl).1, (h.1 2 _ rfl).1, (h.1 3 _ rfl).1, (h.2.1 1 _ rfl).1, (h.2.1 2 _ rfl).1, (h.2.1 3 _ rfl).1, h⟩
set_option maxRecDepth 100000 in
set_option maxHeartbeats 16000000 in
theorem p_Joined (P1 P2 : Option Addr) (p1 p2 : List Pce) (d1 d2 : Nat) (w : World) (h1 : Pcs w P1 p1) (h2 : Pcs w P2 p2) (hE1 : loE cgN p1 [] 300 = 0) (hE2 : loE cgN p2 [] 300 = 0) (hE : loE cgN (p1 ++ p2) [] 300 = 0) (n1 : 0 < p1.length ∧ p1.length ≤ 4) (n2 : 0 < p2.length ∧ p2.length ≤ 4) :
    Calls Tryz.prog 13 #[loV cgN P1 p1.length d1 none 0 0 300, loV cgN P2 p2.length d2 none 0 0 300] w fun e w' => (∃ P cp, e = .returned (.tuple #[loV cgN P (p1 ++ p2).length cp none 0 0 300, .int .i64 0]) ∧ Pcs w' P (p1 ++ p2)) ∧ Up w w' := by
  have HC1 := hide (fun W (hW : Up w W) => p_checkC P1 p1 d1 W (pcs_up h1 hW) (by omega) 0 hE1)
  have HC2 := hide (fun W (hW : Up w W) => p_checkC P2 p2 d2 W (pcs_up h2 hW) (by omega) 0 hE2)
  have HCo := hide (fun W (hW : JB P1 P2 p1.length p2.length d1 d2 w W) g (hg : Bx W g [.slice P1 p1.length d1, .slice P2 p2.length d2]) => (p_ConcatPc g P1 P2 p1 p2 d1 d2 W hg (pcs_up h1 hW.2.2.2) (pcs_up h2 hW.2.2.2) (by omega) (by omega)).mono (fun e w' ⟨⟨v, he, ho⟩, hu⟩ => by
    rw [← List.length_append] at ho
    obtain ⟨A, c, rfl, hp⟩ := own_pcs ho
    have hfar : ∀ b off, A = some ⟨b, off, none⟩ → b ≠ w.heap.size + 1 + 1 := fun b off e => by
      have a1 := (ho.lt b (by rw [e]; rfl)).1
      obtain ⟨_, _, ⟨r0, r1, r2, r3, hc⟩, _⟩ := hW
      have a2 := bx_lt hc (by simp)
      omega
    exact (⟨⟨A, c, he, hp, hfar⟩, hu, hW.ups hu⟩ : (∃ A c, e = Ending.returned (.slice A (p1 ++ p2).length c) ∧ Pcs w' A (p1 ++ p2) ∧ (∀ b off, A = some ⟨b, off, none⟩ → b ≠ w.heap.size + 1 + 1)) ∧ Up W w' ∧ JB P1 P2 p1.length p2.length d1 d2 w w')))
  have HCe := hide (fun W g (hg : Bx W g [.slice none 0 0, .slice none 0 0]) => p_ConcatEye g W hg)
  have HR := hide (fun W (hW : JB P1 P2 p1.length p2.length d1 d2 w W) P cp (hP : Pcs W P (p1 ++ p2)) => (p_resultOk P (p1 ++ p2) cp W hP hE (by rw [List.length_append]; omega)).mono (fun e w' ⟨he, hu⟩ => (⟨he, hu, hW.ups hu⟩ : _ ∧ Up W w' ∧ JB P1 P2 p1.length p2.length d1 d2 w w')))
  obtain ⟨L1, hL1⟩ : ∃ n, p1.length = n := ⟨_, rfl⟩
  obtain ⟨L2, hL2⟩ : ∃ n, p2.length = n := ⟨_, rfl⟩
  obtain ⟨N, hN⟩ : ∃ n, (p1 ++ p2).length = n := ⟨_, rfl⟩
  have hNN : N = L1 + L2 := by rw [← hN, List.length_append, hL1, hL2]
  rw [hL1] at n1 HC1 HCo HR ⊢
  rw [hL2] at n2 HC2 HCo HR ⊢
  rw [hN] at HCo HR ⊢
  have hsum : ¬ (32 : Int) < (L1 : Int) + (L2 : Int) := by omega
  have HXs := hide hNN
  have hi := fun W => (ix2L P1 P2 L1 L2 d1 d2 W).1
  have hj := fun W => (ix2L P1 P2 L1 L2 d1 d2 W).2
  clear h1 h2 hE1 hE2 hE hL1 hL2 hN hNN
  go_enter Tryz.func13, Tryz.ntmps13
  go_upto_region 1 with fail
  refine at_wpC (fun W0 hW0 => ?_)
  have U0 : Up w W0 := by rw [hW0]; exact (by repeat' (first | (with_reducible exact up_refl _) | (with_reducible assumption) | (with_reducible refine up_alloc ?_ _) | (with_reducible refine up_drewN ?_ _) | (with_reducible refine up_drew ?_) | (with_reducible refine up_set ?_ (by first | (simp; done) | (simp; omega) | omega) _) | (refine up_trans ?_ (by with_reducible assumption))))
  have hz : W0.heap.size = w.heap.size + 3 := by rw [hW0]; simp
  obtain ⟨bA, bB, bR⟩ : Bx W0 w.heap.size [.string cgN, .slice P1 L1 d1, .slice none 0 0, .int .i64 300] ∧ Bx W0 (w.heap.size + 1) [.string cgN, .slice P2 L2 d2, .slice none 0 0, .int .i64 300] ∧ Bx W0 (w.heap.size + 1 + 1) [.string { data := #[] }, .slice none 0 0, .slice none 0 0, .int .i64 0] := by
    rw [hW0]
    exact bx_two w _ _ _ _
  clear hW0
  have c0 := (bA 0 _ rfl).1
  have c1 := (bA 1 _ rfl).1
  have c2 := (bA 2 _ rfl).1
  have c3 := (bA 3 _ rfl).1
  have e0 := (bB 0 _ rfl).1
  have e1 := (bB 1 _ rfl).1
  have e2 := (bB 2 _ rfl).1
  have e3 := (bB 3 _ rfl).1
  go_upto_region 2 with fail
  clear c0 c1 c2 c3 e0 e1 e2 e3
  have HA := hide bA
  have HB := hide bB
  have HR' := hide bR
  have HU0 := hide U0
  clear bA bB bR U0
  go_loopw [12] (fun s12 wr => JnI s12 ∧ Up W0 wr) (fun s12 _ => 2 - (intOf s12).toNat)
  case atStart => exact ⟨.inl rfl, up_refl _⟩
  case round =>
    obtain ⟨hs, hu⟩ := hrel
    rcases hs with rfl | rfl | rfl
    · have ii := hi wr
      go_upto_region 4 with fail
      refine at_wpC (fun W4 hW4 => ?_)
      have u4 : Up wr W4 := by rw [hW4]; exact (by repeat' (first | (with_reducible exact up_refl _) | (with_reducible assumption) | (with_reducible refine up_alloc ?_ _) | (with_reducible refine up_drewN ?_ _) | (with_reducible refine up_drew ?_) | (with_reducible refine up_set ?_ (by first | (simp; done) | (simp; omega) | omega) _) | (refine up_trans ?_ (by with_reducible assumption))))
      have b4 : Bx W4 wr.heap.size [.string cgN, .slice P1 L1 d1, .slice none 0 0, .int .i64 300] := by rw [hW4]; exact bx_new wr _ _
      clear hW4 ii
      have c0 := (b4 0 _ rfl).1
      have c1 := (b4 1 _ rfl).1
      have c2 := (b4 2 _ rfl).1
      have c3 := (b4 3 _ rfl).1
      have u04 := up_trans (up_trans (unhide HU0) hu) u4
      go_wp2_with (go_at_call 23; (with_reducible refine (unhide HC1 _ u04).mono ?_); rintro e w5 ⟨rfl, u5⟩)
      go_roundw
      case rel => exact ⟨.inr (.inl rfl), up_trans (up_trans hu u4) u5⟩
      case measure => simp [intOf]
    · have ii := hj wr
      go_upto_region 4 with fail
      refine at_wpC (fun W4 hW4 => ?_)
      have u4 : Up wr W4 := by rw [hW4]; exact (by repeat' (first | (with_reducible exact up_refl _) | (with_reducible assumption) | (with_reducible refine up_alloc ?_ _) | (with_reducible refine up_drewN ?_ _) | (with_reducible refine up_drew ?_) | (with_reducible refine up_set ?_ (by first | (simp; done) | (simp; omega) | omega) _) | (refine up_trans ?_ (by with_reducible assumption))))
      have b4 : Bx W4 wr.heap.size [.string cgN, .slice P2 L2 d2, .slice none 0 0, .int .i64 300] := by rw [hW4]; exact bx_new wr _ _
      clear hW4 ii
      have c0 := (b4 0 _ rfl).1
      have c1 := (b4 1 _ rfl).1
      have c2 := (b4 2 _ rfl).1
      have c3 := (b4 3 _ rfl).1
      have u04 := up_trans (up_trans (unhide HU0) hu) u4
      go_wp2_with (go_at_call 23; (with_reducible refine (unhide HC2 _ u04).mono ?_); rintro e w5 ⟨rfl, u5⟩)
      go_roundw
      case rel => exact ⟨.inr (.inr rfl), up_trans (up_trans hu u4) u5⟩
      case measure => simp [intOf]
    · have U1 := up_trans (unhide HU0) hu
      have bA := bx_up (unhide HA) hu
      have bB := bx_up (unhide HB) hu
      have bR := bx_up (unhide HR') hu
      have hzr : w.heap.size + 3 ≤ wr.heap.size := by have := hu.size; omega
      have c1 := (bA 1 _ rfl).1
      have c2 := (bA 2 _ rfl).1
      have e1 := (bB 1 _ rfl).1
      have e2 := (bB 2 _ rfl).1
      have w1 : IntKind.i64.wrap ((L1 : Int) + (L2 : Int)) = (L1 : Int) + (L2 : Int) := IntWalk.i64_in _ ⟨by omega, by omega⟩
      have HU1 := hide U1
      clear HC1 HC2 hu U1 HU0 hz
      go_wp2_with fail
      clear c1 c2 e1 e2 w1 hsum
      have H0 : JB P1 P2 L1 L2 d1 d2 w wr := ⟨bA, bB, ⟨_, _, _, _, bR⟩, unhide HU1⟩
      clear bA bB bR HA HB HR'
      go_region_held3 (fun wx => wx.cell? ⟨w.heap.size, 0, none⟩ = some (.string cgN) ∧ wx.cell? ⟨w.heap.size, 1, none⟩ = some (.slice P1 L1 d1) ∧ wx.cell? ⟨w.heap.size, 2, none⟩ = some (.slice none 0 0) ∧ wx.cell? ⟨w.heap.size, 3, none⟩ = some (.int .i64 300) ∧ wx.cell? ⟨w.heap.size + 1, 1, none⟩ = some (.slice P2 L2 d2) ∧ wx.cell? ⟨w.heap.size + 1, 2, none⟩ = some (.slice none 0 0) ∧ wx.cell? ⟨w.heap.size + 1, 3, none⟩ = some (.int .i64 300) ∧ JB P1 P2 L1 L2 d1 d2 w wx) ((first | with_reducible exact JB.cells hJ4 | with_reducible exact JB.cells (JB.set hJ4 _ _ _ _) | exact JB.cells (JB.ups H0 (by repeat' (first | (with_reducible exact up_refl _) | (with_reducible assumption) | (with_reducible refine up_alloc ?_ _) | (with_reducible refine up_drewN ?_ _) | (with_reducible refine up_drew ?_) | (with_reducible refine up_set ?_ (by first | (simp; done) | (simp; omega) | omega) _) | (refine up_trans ?_ (by with_reducible assumption)))))))
        (first
          | (go_at_call 32; (with_reducible refine (unhide HCo _ ?_ _ ?_).mono ?_); (· exact JB.ups H0 (by repeat' (first | (with_reducible exact up_refl _) | (with_reducible assumption) | (with_reducible refine up_alloc ?_ _) | (with_reducible refine up_drewN ?_ _) | (with_reducible refine up_drew ?_) | (with_reducible refine up_set ?_ (by first | (simp; done) | (simp; omega) | omega) _) | (refine up_trans ?_ (by with_reducible assumption))))); (· first | with_reducible exact bx_new _ [.slice P1 L1 d1, .slice P2 L2 d2] _ | with_reducible exact bx_drew (bx_new _ [.slice P1 L1 d1, .slice P2 L2 d2] _) | with_reducible exact bx_newd _ [.slice P1 L1 d1, .slice P2 L2 d2] _ | with_reducible exact bx_drew (bx_newd _ [.slice P1 L1 d1, .slice P2 L2 d2] _) | with_reducible exact bx_new1 _ _ [.slice P1 L1 d1, .slice P2 L2 d2] _ | with_reducible exact bx_drew (bx_new1 _ _ [.slice P1 L1 d1, .slice P2 L2 d2] _) | with_reducible exact bx_alloc (bx_new _ [.slice P1 L1 d1, .slice P2 L2 d2] _) _ | with_reducible exact bx_drew (bx_alloc (bx_new _ [.slice P1 L1 d1, .slice P2 L2 d2] _) _)); rintro e w2 ⟨⟨P, cp, rfl, hP2, hfar⟩, hu2, hJ2⟩; have HFar := hide hfar; clear hfar; first | (with_reducible have zE := bx_up (bx_new1 _ _ [.slice none 0 0, .slice none 0 0] 25) hu2) | (with_reducible have zE := bx_up (bx_drew (bx_new1 _ _ [.slice none 0 0, .slice none 0 0] 25)) hu2) | (with_reducible have zE := bx_up (bx_alloc (bx_new _ [.slice none 0 0, .slice none 0 0] 25) _) hu2) | (with_reducible have zE := bx_up (bx_drew (bx_alloc (bx_new _ [.slice none 0 0, .slice none 0 0] 25) _)) hu2) | (have zE := True.intro))
          | (go_at_call 33; (with_reducible refine (unhide HCe _ _ ?_).mono ?_); (· first | with_reducible exact bx_new _ [.slice none 0 0, .slice none 0 0] _ | with_reducible exact bx_drew (bx_new _ [.slice none 0 0, .slice none 0 0] _) | with_reducible exact bx_newd _ [.slice none 0 0, .slice none 0 0] _ | with_reducible exact bx_drew (bx_newd _ [.slice none 0 0, .slice none 0 0] _) | with_reducible exact zE | with_reducible exact bx_drew (zE)); rintro e w3 ⟨rfl, rfl⟩)
          | (go_at_call 31; (with_reducible refine (unhide HR _ ?_ P cp ?_).mono ?_); (· exact JB.ups H0 (by repeat' (first | (with_reducible exact up_refl _) | (with_reducible assumption) | (with_reducible refine up_alloc ?_ _) | (with_reducible refine up_drewN ?_ _) | (with_reducible refine up_drew ?_) | (with_reducible refine up_set ?_ (by first | (simp; done) | (simp; omega) | omega) _) | (refine up_trans ?_ (by with_reducible assumption))))); (· exact pcs_up hP2 (by repeat' (first | (with_reducible exact up_refl _) | (with_reducible assumption) | (with_reducible refine up_alloc ?_ _) | (with_reducible refine up_drewN ?_ _) | (with_reducible refine up_drew ?_) | (with_reducible refine up_set ?_ (by first | (simp; done) | (simp; omega) | omega) _) | (refine up_trans ?_ (by with_reducible assumption))))); rintro e w4 ⟨rfl, hu4, hJ4⟩; obtain ⟨r0, r1, r2, r3, bR4⟩ := hJ4.2.2.1; have f0 := (bR4 0 _ rfl).2; have f1 := (bR4 1 _ rfl).2; have f2 := (bR4 2 _ rfl).2; have f3 := (bR4 3 _ rfl).2; have g0 := (bR4 0 _ rfl).1; have g1 := (bR4 1 _ rfl).1; have g2 := (bR4 2 _ rfl).1; have g3 := (bR4 3 _ rfl).1))
      all_goals
        have hP4 : Pcs w4 P (p1 ++ p2) := pcs_up hP2 (by repeat' (first | (with_reducible exact up_refl _) | (with_reducible assumption) | (with_reducible refine up_alloc ?_ _) | (with_reducible refine up_drewN ?_ _) | (with_reducible refine up_drew ?_) | (with_reducible refine up_set ?_ (by first | (simp; done) | (simp; omega) | omega) _) | (refine up_trans ?_ (by with_reducible assumption))))
        have B9 := bx_set (bx_set (bx_set (bx_set bR4 0 (.string cgN)) 1 (.slice P N cp)) 2 (.slice none 0 0)) 3 (.int .i64 300)
        have U9 : Up w ((((w4.setCell ⟨w.heap.size + 1 + 1, 0, none⟩ (.string cgN)).setCell ⟨w.heap.size + 1 + 1, 1, none⟩ (.slice P N cp)).setCell ⟨w.heap.size + 1 + 1, 2, none⟩ (.slice none 0 0)).setCell ⟨w.heap.size + 1 + 1, 3, none⟩ (.int .i64 300)) := (JB.set hJ4 (.string cgN) (.slice P N cp) (.slice none 0 0) (.int .i64 300)).2.2.2
        have Q9 := pcs_farC (pcs_farC (pcs_farC (pcs_farC hP4 (p := ⟨w.heap.size + 1 + 1, 0, none⟩) (unhide HFar) (.string cgN)) (p := ⟨w.heap.size + 1 + 1, 1, none⟩) (unhide HFar) (.slice P N cp)) (p := ⟨w.heap.size + 1 + 1, 2, none⟩) (unhide HFar) (.slice none 0 0)) (p := ⟨w.heap.size + 1 + 1, 3, none⟩) (unhide HFar) (.int .i64 300)
        generalize (((w4.setCell ⟨w.heap.size + 1 + 1, 0, none⟩ (.string cgN)).setCell ⟨w.heap.size + 1 + 1, 1, none⟩ (.slice P N cp)).setCell ⟨w.heap.size + 1 + 1, 2, none⟩ (.slice none 0 0)).setCell ⟨w.heap.size + 1 + 1, 3, none⟩ (.int .i64 300) = W9 at B9 U9 Q9 ⊢
        have z0 := (B9 0 _ rfl).1
        have z1 := (B9 1 _ rfl).1
        have z2 := (B9 2 _ rfl).1
        have z3 := (B9 3 _ rfl).1
        simp only [Exit.then]
        apply ‹∀ (a : Act) (w : World), _ → _›
        apply wp_ret
        refine bodyPost_ret (v := .tuple #[loV cgN P N cp none 0 0 300, .int .i64 0]) (by simp [results, Tryz.f13, go_sem, z0, z1, z2, z3]) rfl ?_
        exact ⟨⟨P, cp, rfl, Q9⟩, U9⟩
end Go.Proofs.YtooochbfnmmnkaaGreat
