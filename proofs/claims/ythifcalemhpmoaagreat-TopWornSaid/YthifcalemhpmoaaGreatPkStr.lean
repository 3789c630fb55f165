/- A straight pose, where there is one (two units). The points that are pulled in a straight pose. -/
import Derived.Test.YthifcalemhpmoaaGreatLkM
import Derived.Test.YthifcalemhpmoaaGreatPkOwn
import Derived.Maps.AppendAt
import Derived.Test.YthifcalemhpmoaaGreatPkVehC
import Derived.Test.YthifcalemhpmoaaGreatPkPlace
namespace Go.Proofs.YthifcalemhpmoaaGreat
open Go.RowKit Go.Proofs.Gn
attribute [local go_sem] Oper.semAt_some
set_option linter.unusedVariables false
/-- The points behind: ahead is the unit u with its points, v is the one behind it with its point b. -/
def stR : Unt → Int × Int → Int × Int → Unt → Int × Int → List Unt → Pl × Int
  | _, _, _, _, _, [] => ([], 0)
  | u, j, a, v, b, x :: xs =>
    if (rrR u.le u.st u.be j.1 j.2 a.1 a.2).2 = 0 then
      (if (plR (rrR u.le u.st u.be j.1 j.2 a.1 a.2).1.1 (rrR u.le u.st u.be j.1 j.2 a.1 a.2).1.2 b.1 b.2 (rxL v.le v.st v.be - puL x.le x.st) 0).2 = 0 then
        ((plR (rrR u.le u.st u.be j.1 j.2 a.1 a.2).1.1 (rrR u.le u.st u.be j.1 j.2 a.1 a.2).1.2 b.1 b.2 (rxL v.le v.st v.be - puL x.le x.st) 0).1 :: (stR v (rrR u.le u.st u.be j.1 j.2 a.1 a.2).1 b x (plR (rrR u.le u.st u.be j.1 j.2 a.1 a.2).1.1 (rrR u.le u.st u.be j.1 j.2 a.1 a.2).1.2 b.1 b.2 (rxL v.le v.st v.be - puL x.le x.st) 0).1 xs).1,
         (stR v (rrR u.le u.st u.be j.1 j.2 a.1 a.2).1 b x (plR (rrR u.le u.st u.be j.1 j.2 a.1 a.2).1.1 (rrR u.le u.st u.be j.1 j.2 a.1 a.2).1.2 b.1 b.2 (rxL v.le v.st v.be - puL x.le x.st) 0).1 xs).2)
      else ([], (plR (rrR u.le u.st u.be j.1 j.2 a.1 a.2).1.1 (rrR u.le u.st u.be j.1 j.2 a.1 a.2).1.2 b.1 b.2 (rxL v.le v.st v.be - puL x.le x.st) 0).2))
    else ([], (rrR u.le u.st u.be j.1 j.2 a.1 a.2).2)
/-- All points that are pulled, of which the first one is a. -/
def stS (us : List Unt) (j a : Int × Int) : Pl × Int := match us with
  | [] => ([], 0)
  | [_] => ([a], 0)
  | u :: v :: xs =>
    if (plR j.1 j.2 a.1 a.2 (rxL u.le u.st u.be - puL v.le v.st) 0).2 = 0 then
      (a :: (plR j.1 j.2 a.1 a.2 (rxL u.le u.st u.be - puL v.le v.st) 0).1 :: (stR u j a v (plR j.1 j.2 a.1 a.2 (rxL u.le u.st u.be - puL v.le v.st) 0).1 xs).1, (stR u j a v (plR j.1 j.2 a.1 a.2 (rxL u.le u.st u.be - puL v.le v.st) 0).1 xs).2)
    else ([], (plR j.1 j.2 a.1 a.2 (rxL u.le u.st u.be - puL v.le v.st) 0).2)
/-- What is held while a further point is told. -/
structure StI (w : World) (Bk Bu : Nat) (K X V : List Value) (s : Value) (n : Nat) (acc : List Value) (wx : World) : Prop where
  k : Bx wx Bk K
  x : Bx wx Bu X
  a : BxE wx (w.heap.size + 1 + 1)
  v : Bx wx w.heap.size V
  o : wx.ownsRow (w.heap.size + 1 + 1 + 1) 62 2 s n acc
  up : Up w wx
theorem StI.ups {w : World} {Bk Bu : Nat} {K X V : List Value} {s : Value} {n : Nat} {acc : List Value} {wx wy : World} (h : StI w Bk Bu K X V s n acc wx) (u : Up wx wy) : StI w Bk Bu K X V s n acc wy :=
  ⟨bx_up h.k u, bx_up h.x u, h.a.up u, bx_up h.v u, own_up h.o u, up_trans h.up u⟩
theorem own_mono3 {W : World} {base base' e size n : Nat} {v : Value} {xs : List Value} (h : W.ownsRow base e size v n xs) (hb : base' ≤ base) : W.ownsRow base' e size v n xs := ⟨h.1, h.2.imp id (fun ⟨g, cap, cur, h1, h2, h3⟩ => ⟨g, cap, cur, h1, Nat.le_trans hb h2, h3⟩)⟩
theorem bx_grown {W W' : World} {b : Nat} {vs : List Value} {row : Option Nat} (h : Bx W b vs) (g : W.grownBy W' row) (hr : row ≠ some b) : Bx W' b vs := fun i v hi => by
  have hb : b < W.heap.size := World.block_lt_of_cell? _ _ (h i v hi).1
  have e := g.block b hb (fun e => hr e.symm)
  exact ⟨(World.cell?_of_block (a := ⟨b, i, none⟩) e).trans (h i v hi).1, (World.frozen?_of_block (a := ⟨b, i, none⟩) e).trans (h i v hi).2⟩
theorem stS_two {us : List Unt} {u x : Unt} (h0 : us[0]? = some u) (h1 : us[1]? = some x) (j a : Int × Int) :
    stS us j a = if (plR j.1 j.2 a.1 a.2 (rxL u.le u.st u.be - puL x.le x.st) 0).2 = 0 then
      (a :: (plR j.1 j.2 a.1 a.2 (rxL u.le u.st u.be - puL x.le x.st) 0).1 :: (stR u j a x (plR j.1 j.2 a.1 a.2 (rxL u.le u.st u.be - puL x.le x.st) 0).1 (us.drop 2)).1, (stR u j a x (plR j.1 j.2 a.1 a.2 (rxL u.le u.st u.be - puL x.le x.st) 0).1 (us.drop 2)).2)
    else ([], (plR j.1 j.2 a.1 a.2 (rxL u.le u.st u.be - puL x.le x.st) 0).2) := by
  match us, h0, h1 with
  | u' :: x' :: xs, h0, h1 =>
    simp only [List.getElem?_cons_zero, Option.some.injEq] at h0
    simp only [List.getElem?_cons_succ, List.getElem?_cons_zero, Option.some.injEq] at h1
    subst h0
    subst h1
    rfl
theorem StI.set {w : World} {Bk Bu : Nat} {K X V : List Value} {s : Value} {n : Nat} {acc : List Value} {wx : World} (h1 : w.heap.size + 3 ≤ Bk) (h2 : w.heap.size + 3 ≤ Bu) (h : StI w Bk Bu K X V s n acc wx) (i : Nat) (u : Value) : StI w Bk Bu K X V s n acc (wx.setCell ⟨w.heap.size + 1 + 1, i, none⟩ u) :=
  ⟨bx_far h.k (by simp only; omega) u, bx_far h.x (by simp only; omega) u, h.a.set i u, bx_far h.v (by simp only; omega) u, ownsRow_setCell_below h.o (by simp only; omega) u, up_set h.up (by simp only; omega) u⟩
set_option maxRecDepth 100000 in
set_option maxHeartbeats 8000000 in
theorem p_straightAxles (nm fr tt : Value) (Au : Option Addr) (us : List Unt) (cu : Nat) (lx ly ax ay : Int) (w : World)
    (hU : us = [] ∨ ∃ b off, Au = some ⟨b, off, none⟩ ∧ ∀ k (h : k < us.length), UntC w b (off + k * 11) us[k]) (hu : ∀ u ∈ us, okU u = true) (hn : 2 ≤ us.length) (hn2 : us.length ≤ 2) (hcu : us.length ≤ cu)  :
    Calls Tryz.prog 46 #[.agg #[nm, .slice Au us.length cu, fr, tt], pt lx ly, pt ax ay] w fun e w' => (∃ v, e = .returned (.tuple #[v, .int .i64 (stS us (lx, ly) (ax, ay)).2]) ∧ ((stS us (lx, ly) (ax, ay)).2 = 0 → w'.ownsRow w.heap.size 62 2 v (stS us (lx, ly) (ax, ay)).1.length (cellsPl (stS us (lx, ly) (ax, ay)).1)) ∧ ((stS us (lx, ly) (ax, ay)).2 ≠ 0 → v = .slice none 0 0)) ∧ Up w w' := by
  obtain ⟨b, off, rfl, hcc⟩ := hU.resolve_left (by intro h; rw [h] at hn; simp at hn)
  have HC := hide hcc
  obtain ⟨h0, h1, h2, h3, h4, h5, h6, h7, h8, h9, h10⟩ := hcc 0 (by omega)
  rw [Nat.zero_mul, Nat.add_zero] at h0 h1 h2 h3 h4 h5 h6 h7 h8 h9 h10
  obtain ⟨N, hN⟩ : ∃ N, us.length = N := ⟨_, rfl⟩
  have HN := hide hN
  rw [hN] at hcu hn hn2 ⊢
  clear hU hN hcc
  have s1 : ¬ cu = 1 := by omega
  have s2 : ¬ 1 = cu := by omega
  have s3 : 1 ≤ N := by omega
  have s4 : 1 ≤ cu := by omega
  have s5 : (1 : Int) ≤ (N : Int) := by omega
  have s6 : (0 : Int) < (N : Int) := by omega
  have s7 : N ≤ cu := hcu
  have s8 : (N : Int) ≤ (cu : Int) := by omega
  obtain ⟨AE, hAE⟩ : ∃ x, (stS us (lx, ly) (ax, ay)).2 = x := ⟨_, rfl⟩
  obtain ⟨AL, hAL⟩ : ∃ x, (stS us (lx, ly) (ax, ay)).1 = x := ⟨_, rfl⟩
  rw [hAE, hAL]
  have HAE := hide hAE
  have HAL := hide hAL
  clear hAE hAL
  obtain ⟨u0, hu0⟩ : ∃ u0, us[0] = u0 := ⟨_, rfl⟩
  rw [hu0] at h0 h1 h2 h3 h4 h5 h6 h7 h8 h9 h10
  have HU0 := hide hu0
  clear hu0
  go_enter Tryz.func46, Tryz.ntmps46
  go_upto_region 2 with fail
  refine at_wpC (fun W1 hW1 => ?_)
  have U1 : Up w W1 := by rw [hW1]; exact (by repeat' (first | (with_reducible exact up_refl _) | (with_reducible assumption) | (with_reducible refine up_alloc ?_ _) | (with_reducible refine up_drewN ?_ _) | (with_reducible refine up_drew ?_) | (with_reducible refine up_set ?_ (by first | (simp; done) | (simp; omega) | omega) _) | (refine up_trans ?_ (by with_reducible assumption))))
  have hz1 : W1.heap.size = w.heap.size + 4 := by rw [hW1]; simp
  obtain ⟨bV, bL, bA⟩ : Bx W1 w.heap.size [nm, .slice (some ⟨b, off, none⟩) N cu, fr, tt] ∧ Bx W1 (w.heap.size + 1) [.int .i64 lx, .int .i64 ly] ∧ Bx W1 (w.heap.size + 1 + 1) [.int .i64 ax, .int .i64 ay] := by
    rw [hW1]
    refine ⟨bx_alloc (bx_alloc (bx_alloc (bx_new w _ _) _) _) _, ?_, ?_⟩
    · have t := bx_new (w.alloc (.cells #[nm, .slice (some ⟨b, off, none⟩) N cu, fr, tt] 70)) [.int .i64 lx, .int .i64 ly] 62
      rw [World.size_alloc] at t
      exact bx_alloc (bx_alloc t _) _
    · have t := bx_new ((w.alloc (.cells #[nm, .slice (some ⟨b, off, none⟩) N cu, fr, tt] 70)).alloc (.cells #[.int .i64 lx, .int .i64 ly] 62)) [.int .i64 ax, .int .i64 ay] 62
      rw [World.size_alloc, World.size_alloc] at t
      exact bx_alloc t _
  have ow : W1.ownsRow (w.heap.size + 1 + 1 + 1) 62 2 (.slice (some ⟨w.heap.size + 1 + 1 + 1, 0, none⟩) 1 1) 1 [.int .i64 ax, .int .i64 ay] := by
    rw [hW1]
    have t := World.ownsRow_lit (base := w.heap.size + 1 + 1 + 1) (e := 62) (size := 2) (((w.alloc (.cells #[nm, .slice (some ⟨b, off, none⟩) N cu, fr, tt] 70)).alloc (.cells #[.int .i64 lx, .int .i64 ly] 62)).alloc (.cells #[.int .i64 ax, .int .i64 ay] 62)) #[.int .i64 ax, .int .i64 ay] 1 (by simp) (by unfold maxLen; omega) rfl
    simp only [World.size_alloc] at t
    exact t
  clear hW1
  have h0' := up_cell U1 h0
  have h1' := up_cell U1 h1
  have h2' := up_cell U1 h2
  have h3' := up_cell U1 h3
  have h4' := up_cell U1 h4
  have h5' := up_cell U1 h5
  have h6' := up_cell U1 h6
  have h7' := up_cell U1 h7
  have h8' := up_cell U1 h8
  have h9' := up_cell U1 h9
  have h10' := up_cell U1 h10
  have k0 := fun o => alloc_cell o h0'
  have k1 := fun o => alloc_cell o h1'
  have k2 := fun o => alloc_cell o h2'
  have k3 := fun o => alloc_cell o h3'
  have k4 := fun o => alloc_cell o h4'
  have k5 := fun o => alloc_cell o h5'
  have k6 := fun o => alloc_cell o h6'
  have k7 := fun o => alloc_cell o h7'
  have k8 := fun o => alloc_cell o h8'
  have k9 := fun o => alloc_cell o h9'
  have k10 := fun o => alloc_cell o h10'
  have v1 := (bV 1 _ rfl).1
  have l0 := (bL 0 _ rfl).1
  have l1 := (bL 1 _ rfl).1
  have a0 := (bA 0 _ rfl).1
  have a1 := (bA 1 _ rfl).1
  have v1' := fun o => alloc_cell o v1
  have l0' := fun o => alloc_cell o l0
  have l1' := fun o => alloc_cell o l1
  have a0' := fun o => alloc_cell o a0
  have a1' := fun o => alloc_cell o a1
  go_region
  simp only [Exit.then]
  apply ‹∀ (a : Act) (w : World), _ → _›
  refine at_wpC (fun W2 hW2 => ?_)
  have U12 : Up W1 W2 := by rw [hW2]; exact (by repeat' (first | (with_reducible exact up_refl _) | (with_reducible assumption) | (with_reducible refine up_alloc ?_ _) | (with_reducible refine up_drewN ?_ _) | (with_reducible refine up_drew ?_) | (with_reducible refine up_set ?_ (by first | (simp; done) | (simp; omega) | omega) _) | (refine up_trans ?_ (by with_reducible assumption))))
  have hz2 : W2.heap.size = w.heap.size + 5 := by rw [hW2]; simp; omega
  have bK : Bx W2 (w.heap.size + 1 + 1 + 1 + 1) [.int .i64 u0.kd, .int .i64 u0.le, .int .i64 u0.be, .int .i64 u0.fr, .int .i64 u0.re, .int .i64 u0.wi, .int .i64 u0.he, .int .i64 u0.ma, .int .i64 u0.st, .int .i64 u0.mo, .slice u0.A u0.xs.length u0.cap, .int .i64 lx, .int .i64 ly, .int .i64 ax, .int .i64 ay] := by
    rw [hW2, show w.heap.size + 1 + 1 + 1 + 1 = W1.heap.size by omega]
    exact bx_drew (bx_new W1 _ _)
  have ow2 := own_up ow U12
  have HV := hide (bx_up bV U12)
  have HL := hide (bx_up bL U12)
  have bA2 := bx_up bA U12
  have HU2 := hide (up_trans U1 U12)
  have v2 := ((unhide HV) 1 _ rfl).1
  clear hW2 k0 k1 k2 k3 k4 k5 k6 k7 k8 k9 k10 h0' h1' h2' h3' h4' h5' h6' h7' h8' h9' h10' v1' l0' l1' a0' a1' v1 l0 l1 a0 a1 bV bL bA ow U12 U1
  go_wp2
  go_loopw [8, 28] (fun s8 s28 wr => ∃ (k : Nat) (acc : Pl) (u : Unt) (j a bb : Int × Int), k + 1 ≤ N ∧ s28 = .int .i64 k ∧ wr.ownsRow (w.heap.size + 1 + 1 + 1) 62 2 s8 acc.length (cellsPl acc) ∧ acc.length = k + 1 ∧ s8.ownBlock ≠ some (w.heap.size + 4) ∧ Bx wr (w.heap.size + 4) [.int .i64 u.kd, .int .i64 u.le, .int .i64 u.be, .int .i64 u.fr, .int .i64 u.re, .int .i64 u.wi, .int .i64 u.he, .int .i64 u.ma, .int .i64 u.st, .int .i64 u.mo, .slice u.A u.xs.length u.cap, .int .i64 j.1, .int .i64 j.2, .int .i64 a.1, .int .i64 a.2] ∧ Bx wr (w.heap.size + 1 + 1) [.int .i64 bb.1, .int .i64 bb.2] ∧ Bx wr w.heap.size [nm, .slice (some ⟨b, off, none⟩) N cu, fr, tt] ∧ Up w wr ∧ Hid (okU u = true) ∧ Hid ((k = 0 ∧ some u = us[0]? ∧ j = (lx, ly) ∧ a = (ax, ay) ∧ bb = (ax, ay) ∧ acc = [(ax, ay)]) ∨ (1 ≤ k ∧ ∃ v, us[k]? = some v ∧ (stR u j a v bb (us.drop (k + 1))).2 = AE ∧ (AE = 0 → acc ++ (stR u j a v bb (us.drop (k + 1))).1 = AL)))) (fun _ s28 _ => N - (intOf s28).toNat)
  case atStart => exact ⟨0, [(ax, ay)], u0, (lx, ly), (ax, ay), (ax, ay), by omega, rfl, ow2, rfl, by simp [Value.ownBlock], bK, bA2, unhide HV, unhide HU2, hide (by rw [← unhide HU0]; exact hu _ (List.getElem_mem _)), hide (.inl ⟨rfl, by rw [← unhide HU0]; exact (List.getElem?_eq_getElem _).symm, rfl, rfl, rfl, rfl⟩)⟩
  case round =>
    clear HV HL HU2 bK bA2 ow2
    obtain ⟨k, acc, u, j, a, bb, hk, rfl, ow, hacc, hob, bK, bA, bV, hup, HOk, HS⟩ := hrel
    by_cases hlt : k + 1 < N
    · have hl : k + 1 < us.length := by rw [unhide HN]; exact hlt
      obtain ⟨x0, x1, x2, x3, x4, x5, x6, x7, x8, x9, x10⟩ := unhide HC (k + 1) hl
      have ea : off + (k + 1) * 11 = off + 11 + k * 11 := by omega
      rw [ea] at x0 x1 x2 x3 x4 x5 x6 x7 x8 x9 x10
      obtain ⟨x, hx⟩ : ∃ x, us[k + 1] = x := ⟨_, rfl⟩
      have hxo : okU x = true := by rw [← hx]; exact hu _ (List.getElem_mem hl)
      rw [hx] at x0 x1 x2 x3 x4 x5 x6 x7 x8 x9 x10
      have HX := hide hx
      have y0 := up_cell hup x0
      have y1 := up_cell hup x1
      have y2 := up_cell hup x2
      have y3 := up_cell hup x3
      have y4 := up_cell hup x4
      have y5 := up_cell hup x5
      have y6 := up_cell hup x6
      have y7 := up_cell hup x7
      have y8 := up_cell hup x8
      have y9 := up_cell hup x9
      have y10 := up_cell hup x10
      have hsz : w.heap.size + 5 ≤ wr.heap.size := by have := bx_lt bK (by simp); omega
      have i0 : (0 : Int) ≤ (k : Int) := by omega
      have i1 : (k : Int) < (N : Int) - 1 := by omega
      have i3 : (k : Int) < ((N - 1 : Nat) : Int) := by omega
      have i2 : (k : Int).toNat = k := by omega
      have hwk : IntKind.i64.wrap ((k : Int) + 1) = (k : Int) + 1 := IntWalk.i64_in _ ⟨by omega, by omega⟩
      clear hx ea x0 x1 x2 x3 x4 x5 x6 x7 x8 x9 x10 h0 h1 h2 h3 h4 h5 h6 h7 h8 h9 h10 v2 hz1 hz2
      rcases unhide HS with ⟨hk0, hue, hje, hae, hbe, hac⟩ | ⟨hk1, v, hv, hE, hL⟩
      · have d0 : decide ((0 : Int) < (k : Int)) = false := decide_eq_false (by omega)
        have d1 : ¬ (0 : Int) < (k : Int) := by omega
        have HH := hide (⟨hk0, hue, hje, hae, hbe, hac⟩ : _ ∧ _ ∧ _ ∧ _ ∧ _ ∧ _)
        clear hk0 hue hje hae hbe hac HS
        go_upto_region 12 with fail
        refine at_wpC (fun W3 hW3 => ?_)
        have U3 : Up wr W3 := by rw [hW3]; exact (by repeat' (first | (with_reducible exact up_refl _) | (with_reducible assumption) | (with_reducible refine up_alloc ?_ _) | (with_reducible refine up_drewN ?_ _) | (with_reducible refine up_drew ?_) | (with_reducible refine up_set ?_ (by first | (simp; done) | (simp; omega) | omega) _) | (refine up_trans ?_ (by with_reducible assumption))))
        have bX : Bx W3 wr.heap.size [.int .i64 x.kd, .int .i64 x.le, .int .i64 x.be, .int .i64 x.fr, .int .i64 x.re, .int .i64 x.wi, .int .i64 x.he, .int .i64 x.ma, .int .i64 x.st, .int .i64 x.mo, .slice x.A x.xs.length x.cap] := by rw [hW3]; exact bx_new wr _ _
        have H0 : StI w (w.heap.size + 4) wr.heap.size [.int .i64 u.kd, .int .i64 u.le, .int .i64 u.be, .int .i64 u.fr, .int .i64 u.re, .int .i64 u.wi, .int .i64 u.he, .int .i64 u.ma, .int .i64 u.st, .int .i64 u.mo, .slice u.A u.xs.length u.cap, .int .i64 j.1, .int .i64 j.2, .int .i64 a.1, .int .i64 a.2] [.int .i64 x.kd, .int .i64 x.le, .int .i64 x.be, .int .i64 x.fr, .int .i64 x.re, .int .i64 x.wi, .int .i64 x.he, .int .i64 x.ma, .int .i64 x.st, .int .i64 x.mo, .slice x.A x.xs.length x.cap] [nm, .slice (some ⟨b, off, none⟩) N cu, fr, tt] u8 acc.length (cellsPl acc) W3 := ⟨bx_up bK U3, bX, ⟨_, _, bx_up bA U3⟩, bx_up bV U3, own_up ow U3, up_trans hup U3⟩
        clear hW3 U3 bX bK bA bV ow hup
        have HOw := hide (fun g (h : u8.ownBlock = some g) => (H0.o.lt g h).1)
        have t1 := unhide HOk
        rw [okU, Bool.and_eq_true] at t1
        obtain ⟨g1, g2, g3, _⟩ := szU_ok t1.1
        have t2 := hxo
        rw [okU, Bool.and_eq_true] at t2
        obtain ⟨g4, _, g5, _⟩ := szU_ok t2.1
        have HR1 := hide (fun W => p_rearX u.kd u.le u.be u.fr u.re u.wi u.he u.ma u.st u.mo u.A u.xs.length u.cap W g1 g3 g2)
        have HR2 := hide (fun W => p_pulled x.kd x.le x.be x.fr x.re x.wi x.he x.ma x.st x.mo x.A x.xs.length x.cap W g4 g5)
        have bd1 := (puL_bd g1 g3).2
        have bd2 := (puL_bd g4 g5).2
        have HR3 := hide (fun W => p_lplace u.kd u.le u.be u.fr u.re u.wi u.he u.ma u.st u.mo u.A u.xs.length u.cap j.1 j.2 a.1 a.2 (rxL u.le u.st u.be - puL x.le x.st) 0 W)
        have hSt := fun (h0 : us[0]? = some u) (h1 : us[1]? = some x) => stS_two h0 h1 j a
        obtain ⟨D, hD⟩ : ∃ D, rxL u.le u.st u.be - puL x.le x.st = D := ⟨_, rfl⟩
        have hq : IntKind.i64.wrap (rxL u.le u.st u.be - puL x.le x.st) = D := (IntWalk.i64_in _ ⟨by unfold rxL; omega, by unfold rxL; omega⟩).trans hD
        obtain ⟨X, hX'⟩ : ∃ X, (plR j.1 j.2 a.1 a.2 D 0).1.1 = X := ⟨_, rfl⟩
        obtain ⟨Y, hY'⟩ : ∃ X, (plR j.1 j.2 a.1 a.2 D 0).1.2 = X := ⟨_, rfl⟩
        obtain ⟨E, hE'⟩ : ∃ X, (plR j.1 j.2 a.1 a.2 D 0).2 = X := ⟨_, rfl⟩
        have hXY : (plR j.1 j.2 a.1 a.2 D 0).1 = (X, Y) := by rw [← hX', ← hY']
        rw [hD] at HR3 hSt
        rw [hX', hY', hE'] at HR3
        rw [hXY, hE'] at hSt
        have HSt := hide hSt
        obtain ⟨R, hR⟩ : ∃ R, rxL u.le u.st u.be = R := ⟨_, rfl⟩
        obtain ⟨P, hP⟩ : ∃ R, puL x.le x.st = R := ⟨_, rfl⟩
        rw [hR, hP] at hq
        rw [hR] at HR1
        rw [hP] at HR2
        clear t1 t2 g1 g2 g3 g4 g5 bd1 bd2 hD hX' hY' hE' hXY hSt hR hP
        have HCl := hide (fun wx (h : StI w (w.heap.size + 4) wr.heap.size [.int .i64 u.kd, .int .i64 u.le, .int .i64 u.be, .int .i64 u.fr, .int .i64 u.re, .int .i64 u.wi, .int .i64 u.he, .int .i64 u.ma, .int .i64 u.st, .int .i64 u.mo, .slice u.A u.xs.length u.cap, .int .i64 j.1, .int .i64 j.2, .int .i64 a.1, .int .i64 a.2] [.int .i64 x.kd, .int .i64 x.le, .int .i64 x.be, .int .i64 x.fr, .int .i64 x.re, .int .i64 x.wi, .int .i64 x.he, .int .i64 x.ma, .int .i64 x.st, .int .i64 x.mo, .slice x.A x.xs.length x.cap] [nm, .slice (some ⟨b, off, none⟩) N cu, fr, tt] u8 acc.length (cellsPl acc) wx) => (⟨(h.k 0 _ rfl).1, (h.k 1 _ rfl).1, (h.k 2 _ rfl).1, (h.k 3 _ rfl).1, (h.k 4 _ rfl).1, (h.k 5 _ rfl).1, (h.k 6 _ rfl).1, (h.k 7 _ rfl).1, (h.k 8 _ rfl).1, (h.k 9 _ rfl).1, (h.k 10 _ rfl).1, (h.k 11 _ rfl).1, (h.k 12 _ rfl).1, (h.k 13 _ rfl).1, (h.k 14 _ rfl).1, (h.x 0 _ rfl).1, (h.x 1 _ rfl).1, (h.x 2 _ rfl).1, (h.x 3 _ rfl).1, (h.x 4 _ rfl).1, (h.x 5 _ rfl).1, (h.x 6 _ rfl).1, (h.x 7 _ rfl).1, (h.x 8 _ rfl).1, (h.x 9 _ rfl).1, (h.x 10 _ rfl).1, h⟩ : wx.cell? ⟨w.heap.size + 4, 0, none⟩ = some (.int .i64 u.kd) ∧ wx.cell? ⟨w.heap.size + 4, 1, none⟩ = some (.int .i64 u.le) ∧ wx.cell? ⟨w.heap.size + 4, 2, none⟩ = some (.int .i64 u.be) ∧ wx.cell? ⟨w.heap.size + 4, 3, none⟩ = some (.int .i64 u.fr) ∧ wx.cell? ⟨w.heap.size + 4, 4, none⟩ = some (.int .i64 u.re) ∧ wx.cell? ⟨w.heap.size + 4, 5, none⟩ = some (.int .i64 u.wi) ∧ wx.cell? ⟨w.heap.size + 4, 6, none⟩ = some (.int .i64 u.he) ∧ wx.cell? ⟨w.heap.size + 4, 7, none⟩ = some (.int .i64 u.ma) ∧ wx.cell? ⟨w.heap.size + 4, 8, none⟩ = some (.int .i64 u.st) ∧ wx.cell? ⟨w.heap.size + 4, 9, none⟩ = some (.int .i64 u.mo) ∧ wx.cell? ⟨w.heap.size + 4, 10, none⟩ = some (.slice u.A u.xs.length u.cap) ∧ wx.cell? ⟨w.heap.size + 4, 11, none⟩ = some (.int .i64 j.1) ∧ wx.cell? ⟨w.heap.size + 4, 12, none⟩ = some (.int .i64 j.2) ∧ wx.cell? ⟨w.heap.size + 4, 13, none⟩ = some (.int .i64 a.1) ∧ wx.cell? ⟨w.heap.size + 4, 14, none⟩ = some (.int .i64 a.2) ∧ wx.cell? ⟨wr.heap.size, 0, none⟩ = some (.int .i64 x.kd) ∧ wx.cell? ⟨wr.heap.size, 1, none⟩ = some (.int .i64 x.le) ∧ wx.cell? ⟨wr.heap.size, 2, none⟩ = some (.int .i64 x.be) ∧ wx.cell? ⟨wr.heap.size, 3, none⟩ = some (.int .i64 x.fr) ∧ wx.cell? ⟨wr.heap.size, 4, none⟩ = some (.int .i64 x.re) ∧ wx.cell? ⟨wr.heap.size, 5, none⟩ = some (.int .i64 x.wi) ∧ wx.cell? ⟨wr.heap.size, 6, none⟩ = some (.int .i64 x.he) ∧ wx.cell? ⟨wr.heap.size, 7, none⟩ = some (.int .i64 x.ma) ∧ wx.cell? ⟨wr.heap.size, 8, none⟩ = some (.int .i64 x.st) ∧ wx.cell? ⟨wr.heap.size, 9, none⟩ = some (.int .i64 x.mo) ∧ wx.cell? ⟨wr.heap.size, 10, none⟩ = some (.slice x.A x.xs.length x.cap) ∧ StI w (w.heap.size + 4) wr.heap.size [.int .i64 u.kd, .int .i64 u.le, .int .i64 u.be, .int .i64 u.fr, .int .i64 u.re, .int .i64 u.wi, .int .i64 u.he, .int .i64 u.ma, .int .i64 u.st, .int .i64 u.mo, .slice u.A u.xs.length u.cap, .int .i64 j.1, .int .i64 j.2, .int .i64 a.1, .int .i64 a.2] [.int .i64 x.kd, .int .i64 x.le, .int .i64 x.be, .int .i64 x.fr, .int .i64 x.re, .int .i64 x.wi, .int .i64 x.he, .int .i64 x.ma, .int .i64 x.st, .int .i64 x.mo, .slice x.A x.xs.length x.cap] [nm, .slice (some ⟨b, off, none⟩) N cu, fr, tt] u8 acc.length (cellsPl acc) wx))
        go_region_held3 (fun wx => wx.cell? ⟨w.heap.size + 4, 0, none⟩ = some (.int .i64 u.kd) ∧ wx.cell? ⟨w.heap.size + 4, 1, none⟩ = some (.int .i64 u.le) ∧ wx.cell? ⟨w.heap.size + 4, 2, none⟩ = some (.int .i64 u.be) ∧ wx.cell? ⟨w.heap.size + 4, 3, none⟩ = some (.int .i64 u.fr) ∧ wx.cell? ⟨w.heap.size + 4, 4, none⟩ = some (.int .i64 u.re) ∧ wx.cell? ⟨w.heap.size + 4, 5, none⟩ = some (.int .i64 u.wi) ∧ wx.cell? ⟨w.heap.size + 4, 6, none⟩ = some (.int .i64 u.he) ∧ wx.cell? ⟨w.heap.size + 4, 7, none⟩ = some (.int .i64 u.ma) ∧ wx.cell? ⟨w.heap.size + 4, 8, none⟩ = some (.int .i64 u.st) ∧ wx.cell? ⟨w.heap.size + 4, 9, none⟩ = some (.int .i64 u.mo) ∧ wx.cell? ⟨w.heap.size + 4, 10, none⟩ = some (.slice u.A u.xs.length u.cap) ∧ wx.cell? ⟨w.heap.size + 4, 11, none⟩ = some (.int .i64 j.1) ∧ wx.cell? ⟨w.heap.size + 4, 12, none⟩ = some (.int .i64 j.2) ∧ wx.cell? ⟨w.heap.size + 4, 13, none⟩ = some (.int .i64 a.1) ∧ wx.cell? ⟨w.heap.size + 4, 14, none⟩ = some (.int .i64 a.2) ∧ wx.cell? ⟨wr.heap.size, 0, none⟩ = some (.int .i64 x.kd) ∧ wx.cell? ⟨wr.heap.size, 1, none⟩ = some (.int .i64 x.le) ∧ wx.cell? ⟨wr.heap.size, 2, none⟩ = some (.int .i64 x.be) ∧ wx.cell? ⟨wr.heap.size, 3, none⟩ = some (.int .i64 x.fr) ∧ wx.cell? ⟨wr.heap.size, 4, none⟩ = some (.int .i64 x.re) ∧ wx.cell? ⟨wr.heap.size, 5, none⟩ = some (.int .i64 x.wi) ∧ wx.cell? ⟨wr.heap.size, 6, none⟩ = some (.int .i64 x.he) ∧ wx.cell? ⟨wr.heap.size, 7, none⟩ = some (.int .i64 x.ma) ∧ wx.cell? ⟨wr.heap.size, 8, none⟩ = some (.int .i64 x.st) ∧ wx.cell? ⟨wr.heap.size, 9, none⟩ = some (.int .i64 x.mo) ∧ wx.cell? ⟨wr.heap.size, 10, none⟩ = some (.slice x.A x.xs.length x.cap) ∧ StI w (w.heap.size + 4) wr.heap.size [.int .i64 u.kd, .int .i64 u.le, .int .i64 u.be, .int .i64 u.fr, .int .i64 u.re, .int .i64 u.wi, .int .i64 u.he, .int .i64 u.ma, .int .i64 u.st, .int .i64 u.mo, .slice u.A u.xs.length u.cap, .int .i64 j.1, .int .i64 j.2, .int .i64 a.1, .int .i64 a.2] [.int .i64 x.kd, .int .i64 x.le, .int .i64 x.be, .int .i64 x.fr, .int .i64 x.re, .int .i64 x.wi, .int .i64 x.he, .int .i64 x.ma, .int .i64 x.st, .int .i64 x.mo, .slice x.A x.xs.length x.cap] [nm, .slice (some ⟨b, off, none⟩) N cu, fr, tt] u8 acc.length (cellsPl acc) wx) ((go_split_ands; first | exact unhide HCl _ (by with_reducible assumption) | exact unhide HCl _ (StI.set (by omega) (by omega) (StI.set (by omega) (by omega) (by with_reducible assumption) _ _) _ _) | exact unhide HCl _ (StI.ups H0 (by repeat' (first | (with_reducible exact up_refl _) | (with_reducible assumption) | (with_reducible refine up_alloc ?_ _) | (with_reducible refine up_drewN ?_ _) | (with_reducible refine up_drew ?_) | (with_reducible refine up_set ?_ (by first | (simp; done) | (simp; omega) | omega) _) | (refine up_trans ?_ (by with_reducible assumption)))))))
          (first
            | (go_at_call 84; (with_reducible refine (unhide HR1 _).mono ?_); rintro e w4 ⟨rfl, hb4⟩)
            | (go_at_call 45; (with_reducible refine (unhide HR2 _).mono ?_); rintro e w5 ⟨rfl, hb5⟩)
            | (go_at_call 83; (with_reducible refine (unhide HR3 _).mono ?_); rintro e w6 ⟨rfl, hb6⟩; go_split_ands; have hI6 : StI w (w.heap.size + 4) wr.heap.size [.int .i64 u.kd, .int .i64 u.le, .int .i64 u.be, .int .i64 u.fr, .int .i64 u.re, .int .i64 u.wi, .int .i64 u.he, .int .i64 u.ma, .int .i64 u.st, .int .i64 u.mo, .slice u.A u.xs.length u.cap, .int .i64 j.1, .int .i64 j.2, .int .i64 a.1, .int .i64 a.2] [.int .i64 x.kd, .int .i64 x.le, .int .i64 x.be, .int .i64 x.fr, .int .i64 x.re, .int .i64 x.wi, .int .i64 x.he, .int .i64 x.ma, .int .i64 x.st, .int .i64 x.mo, .slice x.A x.xs.length x.cap] [nm, .slice (some ⟨b, off, none⟩) N cu, fr, tt] u8 acc.length (cellsPl acc) w6 := StI.ups (by assumption) hb6; obtain ⟨pp, qq, hE6⟩ := hI6.a; have a0 := (hE6 0 _ rfl).1; have f0 := (hE6 0 _ rfl).2; have a1 := (hE6 1 _ rfl).1; have f1 := (hE6 1 _ rfl).2; clear hE6))
        have hI9 := StI.set (by omega) (by omega) (StI.set (by omega) (by omega) hI6 0 (.int .i64 X)) 1 (.int .i64 Y)
        have B9 := bx_set (bx_set (mk_bx2 a0 a1 f0 f1) 0 (.int .i64 X)) 1 (.int .i64 Y)
        generalize (w6.setCell ⟨w.heap.size + 1 + 1, 0, none⟩ (.int .i64 X)).setCell ⟨w.heap.size + 1 + 1, 1, none⟩ (.int .i64 Y) = W9 at *
        simp only [Exit.then]
        apply ‹∀ (a : Act) (w : World), _ → _›
        clear a0 f0 a1 f1 hI6 hb6 HCl H0
        have e0 := (B9 0 _ rfl).1
        have e1 := (B9 1 _ rfl).1
        by_cases hE : E = 0
        · obtain rfl := hE
          have hI := hide hI9
          have hB9 := hide B9
          clear hI9 B9
          obtain ⟨i0', hi, hz0, hz1, hz2⟩ := info_parts info_pt
          have HI := hide hi
          clear hi
          go_wp2_with (at_builtin; refine wpList_append_own_at _ rfl _ _ 63 rfl (w.heap.size + 1 + 1 + 1) 62 i0' _ 2 16 Tryz.underlying63 (unhide HI) hz0 hz1 hz2 rfl (by decide) _ acc.length (cellsPl acc) rfl (((unhide hI).o).alloc _) _ 1 1 [.int .i64 X, .int .i64 Y] rfl rfl (two_new _ _ _ _) (by intro u hu; simp at hu; rcases hu with rfl | rfl <;> rfl) (by unfold maxLen; omega) (by omega) (by have := (unhide hI).up.size; have := bx_lt (unhide hI).x (by simp); simp; omega) ?_; intro v' w7 hown' hgrow _ hblk)
          have I8 := (unhide hI).ups (up_alloc (up_refl W9) (.cells #[.int .i64 X, .int .i64 Y] 62))
          have rA : u8.ownBlock ≠ some (w.heap.size + 1 + 1) := fun e => by have := unhide HOw _ e; omega
          have rV : u8.ownBlock ≠ some w.heap.size := fun e => by have := unhide HOw _ e; omega
          have bK7 := bx_grown I8.k hgrow hob
          have bV7 := bx_grown I8.v hgrow rV
          have bA7 := bx_grown (bx_up (unhide hB9) (up_alloc (up_refl W9) (.cells #[.int .i64 X, .int .i64 Y] 62))) hgrow rA
          have up7 : Up w w7 := Below.grown I8.up hgrow I8.up.size (fun g e => by have := unhide HOw _ e; omega)
          have hsz9 := bx_lt (unhide hI).k (by simp)
          have hob7 : v'.ownBlock ≠ some (w.heap.size + 4) := by
            rcases hblk with h | h
            · rw [h]; exact hob
            · rw [h]
              intro e
              have e2 := Option.some.inj e
              rw [World.size_alloc] at e2
              omega
          have R1 : w7.ownsRow (w.heap.size + 1 + 1 + 1) 62 2 v' (acc ++ [(X, Y)]).length (cellsPl (acc ++ [(X, Y)])) := by rw [List.length_append, cellsPl_snoc]; exact hown'
          have hx1 : us[k + 1]? = some x := by rw [← unhide HX]; exact List.getElem?_eq_getElem hl
          obtain ⟨hk0, hue, hje, hae, hbe, hac⟩ := unhide HH
          have hS0 := unhide HSt hue.symm (by have t := hx1; rw [hk0] at t; exact t)
          rw [if_pos rfl] at hS0
          have hS : stS us (lx, ly) (ax, ay) = (a :: (X, Y) :: (stR u j a x (X, Y) (us.drop 2)).1, (stR u j a x (X, Y) (us.drop 2)).2) := by rw [← hje, ← hae]; exact hS0
          have q := unhide HAE
          rw [hS] at q
          have q2 := unhide HAL
          rw [hS] at q2
          have z1 : (stR u j a x (X, Y) (us.drop (k + 1 + 1))).2 = AE := by rw [hk0]; exact q
          have z2 : AE = 0 → acc ++ [(X, Y)] ++ (stR u j a x (X, Y) (us.drop (k + 1 + 1))).1 = AL := fun _ => by rw [hac, hk0, ← q2, hae]; rfl
          have z3 : (acc ++ [(X, Y)]).length = k + 1 + 1 := by rw [List.length_append, hacc]; rfl
          have fin := (⟨k + 1, acc ++ [(X, Y)], u, j, a, (X, Y), by omega, by go_num, R1, z3, hob7, bK7, bA7, bV7, up7, HOk, hide (.inr ⟨by omega, x, hx1, z1, z2⟩)⟩ : ∃ (k' : Nat) (acc : Pl) (u : Unt) (j a bb : Int × Int), k' + 1 ≤ N ∧ Value.int .i64 ((k : Int) + 1) = .int .i64 k' ∧ w7.ownsRow (w.heap.size + 1 + 1 + 1) 62 2 v' acc.length (cellsPl acc) ∧ acc.length = k' + 1 ∧ v'.ownBlock ≠ some (w.heap.size + 4) ∧ Bx w7 (w.heap.size + 4) [.int .i64 u.kd, .int .i64 u.le, .int .i64 u.be, .int .i64 u.fr, .int .i64 u.re, .int .i64 u.wi, .int .i64 u.he, .int .i64 u.ma, .int .i64 u.st, .int .i64 u.mo, .slice u.A u.xs.length u.cap, .int .i64 j.1, .int .i64 j.2, .int .i64 a.1, .int .i64 a.2] ∧ Bx w7 (w.heap.size + 1 + 1) [.int .i64 bb.1, .int .i64 bb.2] ∧ Bx w7 w.heap.size [nm, .slice (some ⟨b, off, none⟩) N cu, fr, tt] ∧ Up w w7 ∧ Hid (okU u = true) ∧ Hid ((k' = 0 ∧ some u = us[0]? ∧ j = (lx, ly) ∧ a = (ax, ay) ∧ bb = (ax, ay) ∧ acc = [(ax, ay)]) ∨ (1 ≤ k' ∧ ∃ v, us[k']? = some v ∧ (stR u j a v bb (us.drop (k' + 1))).2 = AE ∧ (AE = 0 → acc ++ (stR u j a v bb (us.drop (k' + 1))).1 = AL))))
          exact ⟨fin, by simp [intOf]; omega⟩
        · have hE0 : (E == 0) = false := beq_eq_false_iff_ne.2 hE
          obtain ⟨hk0, hue, hje, hae, hbe, hac⟩ := unhide HH
          have hx1 : us[k + 1]? = some x := by rw [← unhide HX]; exact List.getElem?_eq_getElem hl
          have hS0 := unhide HSt hue.symm (by have t := hx1; rw [hk0] at t; exact t)
          rw [if_neg hE] at hS0
          have hS : stS us (lx, ly) (ax, ay) = ([], E) := by rw [← hje, ← hae]; exact hS0
          have q := unhide HAE
          rw [hS] at q
          have q3 : E = AE := q
          have HQ := hide q3
          have hI := hide hI9
          clear hk0 hue hje hae hbe hac hx1 hS0 hS q q3 hI9 B9
          go_wp2
          go_ret2
          exact ⟨⟨.slice none 0 0, by rw [← unhide HQ]; rfl, fun h => absurd ((unhide HQ).trans h) hE, fun _ => rfl⟩, (unhide hI).up⟩
      · omega
    · have hkN : k + 1 = N := by omega
      rcases unhide HS with ⟨hk0, _⟩ | ⟨hk1, v, hv, hE, hL⟩
      · omega
      · have hd : us.drop (k + 1) = [] := List.drop_eq_nil_of_le (by rw [unhide HN]; omega)
        rw [hd] at hE hL
        have hE' : AE = 0 := hE.symm
        have hL' := hL hE'
        have hL2 : acc = AL := by rw [← hL']; exact (List.append_nil acc).symm
        have HE2 := hide hE'
        have HL2 := hide hL2
        have HOwn := hide (own_mono3 ow (show w.heap.size ≤ w.heap.size + 1 + 1 + 1 by omega))
        have i1 : ¬ (k : Int) < (N : Int) - 1 := by omega
        have i3 : ¬ (k : Int) < ((N - 1 : Nat) : Int) := by omega
        clear hE hL hL' hE' hL2 hd hv hk1 HS ow
        go_wp2
        go_ret2
        exact ⟨⟨u8, by rw [unhide HE2]; rfl, fun _ => by rw [← unhide HL2]; exact unhide HOwn, fun h => absurd (unhide HE2) h⟩, hup⟩
end Go.Proofs.YthifcalemhpmoaaGreat
namespace Go.Proofs.YthifcalemhpmoaaGreat
open Go.RowKit Go.Proofs.Gn
attribute [local go_sem] Oper.semAt_some
set_option linter.unusedVariables false
/-- What a pull is: its point, and the error. -/
def puR (ax ay hx hy l : Int) : (Int × Int) × Int := ((lkV (okp ax ay && okp hx hy) (decide (1 ≤ l) && decide (l ≤ 16777216)) (cV ax ay hx hy l 0 (plX ax ay hx hy l 0)), lkV (okp ax ay && okp hx hy) (decide (1 ≤ l) && decide (l ≤ 16777216)) (cV ax ay hx hy l 0 (plY ax ay hx hy l 0))), lkE (okp ax ay && okp hx hy) (decide (1 ≤ l) && decide (l ≤ 16777216)) (cE ax ay hx hy l 0))
theorem untC_of {w : World} {b o : Nat} {u : Unt} (h : UntAt w b o u) : UntC w b o u := ⟨h.1, h.2.1, h.2.2.1, h.2.2.2.1, h.2.2.2.2.1, h.2.2.2.2.2.1, h.2.2.2.2.2.2.1, h.2.2.2.2.2.2.2.1, h.2.2.2.2.2.2.2.2.1, h.2.2.2.2.2.2.2.2.2.1, h.2.2.2.2.2.2.2.2.2.2.1⟩
theorem untsC_of {w : World} {A : Option Addr} {us : List Unt} (h : Unts w A us) : us = [] ∨ ∃ b off, A = some ⟨b, off, none⟩ ∧ ∀ k (h : k < us.length), UntC w b (off + k * 11) us[k] := by
  rcases h with h | ⟨b, off, e, hc⟩
  · exact .inl h
  · exact .inr ⟨b, off, e, fun k hk => untC_of (hc k hk)⟩
theorem pts_far {W : World} {A : Option Addr} {ps : Pl} {p : Addr} (h : Pts W A ps) (hb : ∀ b off, A = some ⟨b, off, none⟩ → b ≠ p.block) (u : Value) : Pts (W.setCell p u) A ps := by
  rcases h with h | ⟨b, off, e, hc⟩
  · exact .inl h
  · have hn := hb b off e
    exact .inr ⟨b, off, e, fun k hk => ⟨(World.cell?_of_block (a := ⟨b, off + k * 2, none⟩) (Below.heap_setCell W p u b hn)).trans (hc k hk).1, (World.cell?_of_block (a := ⟨b, off + k * 2 + 1, none⟩) (Below.heap_setCell W p u b hn)).trans (hc k hk).2⟩⟩
set_option maxRecDepth 100000 in
set_option maxHeartbeats 8000000 in
theorem p_StraightOK (s : ByteArray) (Au : Option Addr) (us : List Unt) (cu : Nat) (f t : Int) (lx ly bx by' px py : Int) (AL : Pl) (w : World) (hU : Unts w Au us) (hn : us.length = 2) (hcu : us.length ≤ cu)
    (hV : veE s us f t = 0) (hP : puR lx ly bx by' (puL (us[0]'(by omega)).le (us[0]'(by omega)).st) = ((px, py), 0)) (hS : stS us (lx, ly) (px, py) = (AL, 0)) (hO : posOk us lx ly AL = true) :
    Calls Tryz.prog 19 #[veV s Au us.length cu f t, pt lx ly, pt bx by'] w fun e w' => (∃ A ca, e = .returned (.tuple #[.agg #[.int .i64 lx, .int .i64 ly, .slice A AL.length ca], .int .i64 0]) ∧ Pts w' A AL) ∧ Up w w' := by
  have hall : ∀ u ∈ us, okU u = true := by
    unfold veE at hV
    split at hV
    · cases hV
    · split at hV
      · rename_i h
        simp only [Bool.and_eq_true] at h
        have := h.2.1
        unfold auV at this
        simp only [Bool.and_eq_true] at this
        exact List.all_eq_true.1 this.1
      · cases hV
  have hlen : AL.length = 2 := by
    unfold posOk at hO
    simp only [Bool.and_eq_true, decide_eq_true_eq] at hO
    omega
  have H1 := hide (fun (W : World) (hW : Up w W) => (p_CheckV s Au us cu f t W (unts_up hU hW) (by omega)).mono (fun e w' ⟨he, hw⟩ => (⟨by rw [hV] at he; exact he, hw⟩ : e = Ending.returned (.int .i64 0) ∧ Up W w')))
  have hUC : ∀ W, Up w W → (us = [] ∨ ∃ b off, Au = some ⟨b, off, none⟩ ∧ ∀ k (h : k < us.length), UntC W b (off + k * 11) us[k]) := fun W hW => untsC_of (unts_up hU hW)
  have H4 := hide (fun (W : World) (hW : Up w W) => (p_straightAxles (.string s) (.int .i64 f) (.int .i64 t) Au us cu lx ly px py W (hUC W hW) hall (by omega) (by omega) hcu).mono (fun e w' h => by
    rw [hS] at h
    obtain ⟨⟨v, he, ho, _⟩, hu⟩ := h
    exact (⟨v, he, ho rfl, hu⟩ : ∃ v, e = Ending.returned (.tuple #[v, .int .i64 0]) ∧ w'.ownsRow W.heap.size 62 2 v AL.length (cellsPl AL) ∧ Up W w')))
  have H5 := hide (fun (W : World) (hW : Up w W) (A : Option Addr) (ca : Nat) (hQ : Pts W A AL) => (p_made (.string s) (.int .i64 f) (.int .i64 t) Au us cu lx ly A AL ca W (hUC W hW) hQ hall (by omega) (by omega) (fun b off e => by
      rcases hUC W hW with h | ⟨b', off', e', hc⟩
      · rw [h] at hn; simp at hn
      · rw [e] at e'; cases e'; exact World.block_lt_of_cell? _ _ (hc 0 (by omega)).1) (fun b off e => by
      rcases hQ with h | ⟨b', off', e', hc⟩
      · rw [h] at hlen; simp at hlen
      · rw [e] at e'; cases e'; exact World.block_lt_of_cell? _ _ (hc 0 (by omega)).1)).mono (fun e w' ⟨he, hu⟩ => (⟨by rw [hO, if_pos rfl, if_pos rfl] at he; exact he, hu⟩ : e = Ending.returned (.tuple #[.agg #[.int .i64 lx, .int .i64 ly, .slice A AL.length ca], .int .i64 0]) ∧ Up W w')))
  obtain ⟨b, off, rfl, hcc⟩ := (hUC w (up_refl w)).resolve_left (by intro h; rw [h] at hn; simp at hn)
  have h0 := hcc 0 (by omega)
  rw [Nat.zero_mul, Nat.add_zero] at h0
  obtain ⟨h0, h1, h2, h3, h4, h5, h6, h7, h8, h9, h10⟩ := h0
  have hok0 := hall us[0] (List.getElem_mem _)
  obtain ⟨u, hu⟩ : ∃ u, us[0] = u := ⟨_, rfl⟩
  rw [hu] at h0 h1 h2 h3 h4 h5 h6 h7 h8 h9 h10 hok0
  simp only [hu] at hP
  rw [okU, Bool.and_eq_true] at hok0
  obtain ⟨g1, _, g3, _⟩ := szU_ok hok0.1
  have H2 := hide (fun W => p_pulled u.kd u.le u.be u.fr u.re u.wi u.he u.ma u.st u.mo u.A u.xs.length u.cap W g1 g3)
  have H3 := hide (fun W => (p_Pull lx ly bx by' (puL u.le u.st) W).mono (fun e w' ⟨he, hw⟩ => (⟨by
      have a1 := congrArg (fun z => z.1.1) hP
      have a2 := congrArg (fun z => z.1.2) hP
      have a3 := congrArg (fun z => z.2) hP
      unfold puR at a1 a2 a3
      dsimp only at a1 a2 a3
      rw [a1, a2, a3] at he
      exact he, hw⟩ : e = Ending.returned (.tuple #[pt px py, .int .i64 0]) ∧ Up W w')))
  obtain ⟨P, hPP⟩ : ∃ P, puL u.le u.st = P := ⟨_, rfl⟩
  rw [hPP] at H2 H3
  rw [hn] at hcu H1 H4 H5 ⊢
  rw [hlen] at H5 ⊢
  have HLen := hide hlen
  clear hU hV hP hS hO hall hUC hcc hok0 g1 g3 hPP hu hn hlen
  go_enter Tryz.func19, Tryz.ntmps19
  go_upto_region 1 with fail
  refine at_wpC (fun W0 hW0 => ?_)
  have U0 : Up w W0 := by rw [hW0]; exact (by repeat' (first | (with_reducible exact up_refl _) | (with_reducible assumption) | (with_reducible refine up_alloc ?_ _) | (with_reducible refine up_drewN ?_ _) | (with_reducible refine up_drew ?_) | (with_reducible refine up_set ?_ (by first | (simp; done) | (simp; omega) | omega) _) | (refine up_trans ?_ (by with_reducible assumption))))
  have hz0 : W0.heap.size = w.heap.size + 4 := by rw [hW0]; simp
  obtain ⟨bV, bL, bB, bR⟩ : Bx W0 w.heap.size [.string s, .slice (some ⟨b, off, none⟩) 2 cu, .int .i64 f, .int .i64 t] ∧ Bx W0 (w.heap.size + 1) [.int .i64 lx, .int .i64 ly] ∧ Bx W0 (w.heap.size + 1 + 1) [.int .i64 bx, .int .i64 by'] ∧ Bx W0 (w.heap.size + 1 + 1 + 1) [.int .i64 0, .int .i64 0, .slice none 0 0] := by
    rw [hW0]
    refine ⟨bx_alloc (bx_alloc (bx_alloc (bx_new w _ _) _) _) _, ?_, ?_, ?_⟩
    · have q := bx_new (w.alloc (.cells #[.string s, .slice (some ⟨b, off, none⟩) 2 cu, .int .i64 f, .int .i64 t] 70)) [.int .i64 lx, .int .i64 ly] 62
      rw [World.size_alloc] at q
      exact bx_alloc (bx_alloc q _) _
    · have q := bx_new ((w.alloc (.cells #[.string s, .slice (some ⟨b, off, none⟩) 2 cu, .int .i64 f, .int .i64 t] 70)).alloc (.cells #[.int .i64 lx, .int .i64 ly] 62)) [.int .i64 bx, .int .i64 by'] 62
      rw [World.size_alloc, World.size_alloc] at q
      exact bx_alloc q _
    · have q := bx_new (((w.alloc (.cells #[.string s, .slice (some ⟨b, off, none⟩) 2 cu, .int .i64 f, .int .i64 t] 70)).alloc (.cells #[.int .i64 lx, .int .i64 ly] 62)).alloc (.cells #[.int .i64 bx, .int .i64 by'] 62)) [.int .i64 0, .int .i64 0, .slice none 0 0] 65
      rw [World.size_alloc, World.size_alloc, World.size_alloc] at q
      exact q
  clear hW0
  have c0 := (bV 0 _ rfl).1
  have c1 := (bV 1 _ rfl).1
  have c2 := (bV 2 _ rfl).1
  have c3 := (bV 3 _ rfl).1
  go_upto_region 4 with (go_at_call 43; (with_reducible refine (unhide H1 _ U0).mono ?_); rintro e w1 ⟨rfl, hu1⟩)
  refine at_wpC (fun W1 hW1 => ?_)
  have U01 : Up W0 W1 := by rw [hW1]; exact (by repeat' (first | (with_reducible exact up_refl _) | (with_reducible assumption) | (with_reducible refine up_alloc ?_ _) | (with_reducible refine up_drewN ?_ _) | (with_reducible refine up_drew ?_) | (with_reducible refine up_set ?_ (by first | (simp; done) | (simp; omega) | omega) _) | (refine up_trans ?_ (by with_reducible assumption))))
  clear hW1
  have U1 := up_trans U0 U01
  have HV := hide (bx_up bV U01)
  have HL := hide (bx_up bL U01)
  have HB := hide (bx_up bB U01)
  have HR := hide (bx_up bR U01)
  have HU := hide (⟨up_cell U1 h0, up_cell U1 h1, up_cell U1 h2, up_cell U1 h3, up_cell U1 h4, up_cell U1 h5, up_cell U1 h6, up_cell U1 h7, up_cell U1 h8, up_cell U1 h9, up_cell U1 h10⟩ : UntC W1 b off u)
  have hz1 : w.heap.size + 4 ≤ W1.heap.size := by have := U01.size; omega
  clear c0 c1 c2 c3 h0 h1 h2 h3 h4 h5 h6 h7 h8 h9 h10 bV bL bB bR U0 U01 hz0
  have HU1 := hide U1
  clear U1
  have H2' := hide (fun W (hW : Up W1 W) => (unhide H2 W).mono fun e w' ⟨a, b⟩ => (⟨a, b, up_trans hW b⟩ : _ ∧ Up W w' ∧ Up W1 w'))
  have H3' := hide (fun W (hW : Up W1 W) => (unhide H3 W).mono fun e w' ⟨a, b⟩ => (⟨a, b, up_trans hW b⟩ : _ ∧ Up W w' ∧ Up W1 w'))
  go_cut [9, 10] (fun s9 s10 wx => ∃ g : Nat, s9 = .pointer (some ⟨g, 0, none⟩) ∧ s10 = .int .i64 0 ∧ Bx wx g [.int .i64 px, .int .i64 py] ∧ Up W1 wx)
  case first =>
    have t1 := Nat.le_refl W1.heap.size
    have HK := hide (fun wx (hW : Up W1 wx) => (⟨up_cell hW ((unhide HV) 1 _ rfl).1, up_cell hW ((unhide HL) 0 _ rfl).1, up_cell hW ((unhide HL) 1 _ rfl).1, up_cell hW ((unhide HB) 0 _ rfl).1, up_cell hW ((unhide HB) 1 _ rfl).1, up_cell hW (unhide HU).1, up_cell hW (unhide HU).2.1, up_cell hW (unhide HU).2.2.1, up_cell hW (unhide HU).2.2.2.1, up_cell hW (unhide HU).2.2.2.2.1, up_cell hW (unhide HU).2.2.2.2.2.1, up_cell hW (unhide HU).2.2.2.2.2.2.1, up_cell hW (unhide HU).2.2.2.2.2.2.2.1, up_cell hW (unhide HU).2.2.2.2.2.2.2.2.1, up_cell hW (unhide HU).2.2.2.2.2.2.2.2.2.1, up_cell hW (unhide HU).2.2.2.2.2.2.2.2.2.2, hW⟩ : wx.cell? ⟨w.heap.size, 1, none⟩ = some (.slice (some ⟨b, off, none⟩) 2 cu) ∧ wx.cell? ⟨w.heap.size + 1, 0, none⟩ = some (.int .i64 lx) ∧ wx.cell? ⟨w.heap.size + 1, 1, none⟩ = some (.int .i64 ly) ∧ wx.cell? ⟨w.heap.size + 1 + 1, 0, none⟩ = some (.int .i64 bx) ∧ wx.cell? ⟨w.heap.size + 1 + 1, 1, none⟩ = some (.int .i64 by') ∧ wx.cell? ⟨b, off, none⟩ = some (.int .i64 u.kd) ∧ wx.cell? ⟨b, off + 1, none⟩ = some (.int .i64 u.le) ∧ wx.cell? ⟨b, off + 2, none⟩ = some (.int .i64 u.be) ∧ wx.cell? ⟨b, off + 3, none⟩ = some (.int .i64 u.fr) ∧ wx.cell? ⟨b, off + 4, none⟩ = some (.int .i64 u.re) ∧ wx.cell? ⟨b, off + 5, none⟩ = some (.int .i64 u.wi) ∧ wx.cell? ⟨b, off + 6, none⟩ = some (.int .i64 u.he) ∧ wx.cell? ⟨b, off + 7, none⟩ = some (.int .i64 u.ma) ∧ wx.cell? ⟨b, off + 8, none⟩ = some (.int .i64 u.st) ∧ wx.cell? ⟨b, off + 9, none⟩ = some (.int .i64 u.mo) ∧ wx.cell? ⟨b, off + 10, none⟩ = some (.slice u.A u.xs.length u.cap) ∧ Up W1 wx))
    go_region_held3 (fun wx => wx.cell? ⟨w.heap.size, 1, none⟩ = some (.slice (some ⟨b, off, none⟩) 2 cu) ∧ wx.cell? ⟨w.heap.size + 1, 0, none⟩ = some (.int .i64 lx) ∧ wx.cell? ⟨w.heap.size + 1, 1, none⟩ = some (.int .i64 ly) ∧ wx.cell? ⟨w.heap.size + 1 + 1, 0, none⟩ = some (.int .i64 bx) ∧ wx.cell? ⟨w.heap.size + 1 + 1, 1, none⟩ = some (.int .i64 by') ∧ wx.cell? ⟨b, off, none⟩ = some (.int .i64 u.kd) ∧ wx.cell? ⟨b, off + 1, none⟩ = some (.int .i64 u.le) ∧ wx.cell? ⟨b, off + 2, none⟩ = some (.int .i64 u.be) ∧ wx.cell? ⟨b, off + 3, none⟩ = some (.int .i64 u.fr) ∧ wx.cell? ⟨b, off + 4, none⟩ = some (.int .i64 u.re) ∧ wx.cell? ⟨b, off + 5, none⟩ = some (.int .i64 u.wi) ∧ wx.cell? ⟨b, off + 6, none⟩ = some (.int .i64 u.he) ∧ wx.cell? ⟨b, off + 7, none⟩ = some (.int .i64 u.ma) ∧ wx.cell? ⟨b, off + 8, none⟩ = some (.int .i64 u.st) ∧ wx.cell? ⟨b, off + 9, none⟩ = some (.int .i64 u.mo) ∧ wx.cell? ⟨b, off + 10, none⟩ = some (.slice u.A u.xs.length u.cap) ∧ Up W1 wx) ((go_split_ands; exact unhide HK _ (by repeat' (first | (with_reducible exact up_refl _) | (with_reducible assumption) | (with_reducible refine up_alloc ?_ _) | (with_reducible refine up_drewN ?_ _) | (with_reducible refine up_drew ?_) | (with_reducible refine up_set ?_ (by first | (simp; done) | (simp; omega) | omega) _) | (refine up_trans ?_ (by with_reducible assumption))))))
      (first
        | (go_at_call 45; (with_reducible refine (unhide H2' _ (by go_split_ands; exact (by repeat' (first | (with_reducible exact up_refl _) | (with_reducible assumption) | (with_reducible refine up_alloc ?_ _) | (with_reducible refine up_drewN ?_ _) | (with_reducible refine up_drew ?_) | (with_reducible refine up_set ?_ (by first | (simp; done) | (simp; omega) | omega) _) | (refine up_trans ?_ (by with_reducible assumption)))))).mono ?_); rintro e w2 ⟨rfl, hb2, hb2'⟩; have t2 : W1.heap.size ≤ w2.heap.size := hb2'.size; have zs := bx_up (bx_new _ [.int .i64 0, .int .i64 0] 62) hb2)
        | (go_at_call 45; (with_reducible refine (unhide H2' _ (by go_split_ands; exact (by repeat' (first | (with_reducible exact up_refl _) | (with_reducible assumption) | (with_reducible refine up_alloc ?_ _) | (with_reducible refine up_drewN ?_ _) | (with_reducible refine up_drew ?_) | (with_reducible refine up_set ?_ (by first | (simp; done) | (simp; omega) | omega) _) | (refine up_trans ?_ (by with_reducible assumption)))))).mono ?_); rintro e w2 ⟨rfl, hb2, hb2'⟩; have t2 : W1.heap.size ≤ w2.heap.size := hb2'.size; have zs := bx_up (bx_drew (bx_new _ [.int .i64 0, .int .i64 0] 62)) hb2)
        | (go_at_call 45; (with_reducible refine (unhide H2' _ (by go_split_ands; exact (by repeat' (first | (with_reducible exact up_refl _) | (with_reducible assumption) | (with_reducible refine up_alloc ?_ _) | (with_reducible refine up_drewN ?_ _) | (with_reducible refine up_drew ?_) | (with_reducible refine up_set ?_ (by first | (simp; done) | (simp; omega) | omega) _) | (refine up_trans ?_ (by with_reducible assumption)))))).mono ?_); rintro e w2 ⟨rfl, hb2, hb2'⟩; have t2 : W1.heap.size ≤ w2.heap.size := hb2'.size)
        | (go_at_call 44; (with_reducible refine (unhide H3' _ (by go_split_ands; exact (by repeat' (first | (with_reducible exact up_refl _) | (with_reducible assumption) | (with_reducible refine up_alloc ?_ _) | (with_reducible refine up_drewN ?_ _) | (with_reducible refine up_drew ?_) | (with_reducible refine up_set ?_ (by first | (simp; done) | (simp; omega) | omega) _) | (refine up_trans ?_ (by with_reducible assumption)))))).mono ?_); rintro e w3 ⟨rfl, hb3, hb3'⟩; have t3 : W1.heap.size ≤ w3.heap.size := hb3'.size; have zm := bx_up zs hb3; obtain ⟨z3, z4⟩ := bx2 zm; obtain ⟨f3, f4⟩ := bxf2 zm)
        | (go_at_call 44; (with_reducible refine (unhide H3' _ (by go_split_ands; exact (by repeat' (first | (with_reducible exact up_refl _) | (with_reducible assumption) | (with_reducible refine up_alloc ?_ _) | (with_reducible refine up_drewN ?_ _) | (with_reducible refine up_drew ?_) | (with_reducible refine up_set ?_ (by first | (simp; done) | (simp; omega) | omega) _) | (refine up_trans ?_ (by with_reducible assumption)))))).mono ?_); rintro e w3 ⟨rfl, hb3, hb3'⟩; have t3 : W1.heap.size ≤ w3.heap.size := hb3'.size; have zm := bx_up (bx_new _ [.int .i64 0, .int .i64 0] 62) hb3; obtain ⟨z3, z4⟩ := bx2 zm; obtain ⟨f3, f4⟩ := bxf2 zm)
        | (go_at_call 44; (with_reducible refine (unhide H3' _ (by go_split_ands; exact (by repeat' (first | (with_reducible exact up_refl _) | (with_reducible assumption) | (with_reducible refine up_alloc ?_ _) | (with_reducible refine up_drewN ?_ _) | (with_reducible refine up_drew ?_) | (with_reducible refine up_set ?_ (by first | (simp; done) | (simp; omega) | omega) _) | (refine up_trans ?_ (by with_reducible assumption)))))).mono ?_); rintro e w3 ⟨rfl, hb3, hb3'⟩; have t3 : W1.heap.size ≤ w3.heap.size := hb3'.size; have zm := bx_up (bx_drew (bx_new _ [.int .i64 0, .int .i64 0] 62)) hb3; obtain ⟨z3, z4⟩ := bx2 zm; obtain ⟨f3, f4⟩ := bxf2 zm)
        | (go_at_call 44; (with_reducible refine (unhide H3' _ (by go_split_ands; exact (by repeat' (first | (with_reducible exact up_refl _) | (with_reducible assumption) | (with_reducible refine up_alloc ?_ _) | (with_reducible refine up_drewN ?_ _) | (with_reducible refine up_drew ?_) | (with_reducible refine up_set ?_ (by first | (simp; done) | (simp; omega) | omega) _) | (refine up_trans ?_ (by with_reducible assumption)))))).mono ?_); rintro e w3 ⟨rfl, hb3, hb3'⟩; have t3 : W1.heap.size ≤ w3.heap.size := hb3'.size))
    all_goals
      have u3 : Up W1 w3 := hb3'
      go_wp2_with fail
      go_meet
      first
        | exact ⟨_, rfl, rfl, bx_set (bx_set zm 0 (.int .i64 px)) 1 (.int .i64 py), (by repeat' (first | (with_reducible exact up_refl _) | (with_reducible assumption) | (with_reducible refine up_alloc ?_ _) | (with_reducible refine up_drewN ?_ _) | (with_reducible refine up_drew ?_) | (with_reducible refine up_set ?_ (by first | (simp; done) | (simp; omega) | omega) _) | (refine up_trans ?_ (by with_reducible assumption))))⟩
        | exact ⟨_, rfl, rfl, bx_set (bx_set (bx_new _ [.int .i64 0, .int .i64 0] 62) 0 (.int .i64 px)) 1 (.int .i64 py), (by repeat' (first | (with_reducible exact up_refl _) | (with_reducible assumption) | (with_reducible refine up_alloc ?_ _) | (with_reducible refine up_drewN ?_ _) | (with_reducible refine up_drew ?_) | (with_reducible refine up_set ?_ (by first | (simp; done) | (simp; omega) | omega) _) | (refine up_trans ?_ (by with_reducible assumption))))⟩
        | exact ⟨_, rfl, rfl, bx_new _ [.int .i64 px, .int .i64 py] 62, (by repeat' (first | (with_reducible exact up_refl _) | (with_reducible assumption) | (with_reducible refine up_alloc ?_ _) | (with_reducible refine up_drewN ?_ _) | (with_reducible refine up_drew ?_) | (with_reducible refine up_set ?_ (by first | (simp; done) | (simp; omega) | omega) _) | (refine up_trans ?_ (by with_reducible assumption))))⟩
        | exact ⟨_, rfl, rfl, bx_drew (bx_new _ [.int .i64 px, .int .i64 py] 62), (by repeat' (first | (with_reducible exact up_refl _) | (with_reducible assumption) | (with_reducible refine up_alloc ?_ _) | (with_reducible refine up_drewN ?_ _) | (with_reducible refine up_drew ?_) | (with_reducible refine up_set ?_ (by first | (simp; done) | (simp; omega) | omega) _) | (refine up_trans ?_ (by with_reducible assumption))))⟩
        | (trace_state; sorry)
  case rest =>
    obtain ⟨g, rfl, rfl, hg, hu⟩ := hcut
    have bV := bx_up (unhide HV) hu
    have bL := bx_up (unhide HL) hu
    have c0 := (bV 0 _ rfl).1
    have c1 := (bV 1 _ rfl).1
    have c2 := (bV 2 _ rfl).1
    have c3 := (bV 3 _ rfl).1
    obtain ⟨l0, l1⟩ := bx2 bL
    obtain ⟨g0, g1⟩ := bx2 hg
    have bR := bx_up (unhide HR) hu
    have hU := up_trans (unhide HU1) hu
    go_wp2_with (first
      | (go_at_call 46; (with_reducible refine (unhide H4 _ hU).mono ?_); rintro e w4 ⟨v, rfl, ho, hu4⟩; obtain ⟨A, ca, hv, hQ⟩ := own_pts ho; rw [unhide HLen] at hv; subst hv; have hfar : ∀ bb oo, A = some ⟨bb, oo, none⟩ → bb ≠ w.heap.size + 1 + 1 + 1 := (fun bb oo e => by have q := (ho.lt bb (by rw [e]; rfl)).1; have := hu.size; omega); have bV4 := bx_up bV hu4; have c40 := (bV4 0 _ rfl).1; have c41 := (bV4 1 _ rfl).1; have c42 := (bV4 2 _ rfl).1; have c43 := (bV4 3 _ rfl).1; have bL4 := bx_up bL hu4; have l40 := (bL4 0 _ rfl).1; have l41 := (bL4 1 _ rfl).1; have hU4 := up_trans hU hu4)
      | (go_at_call 47; (with_reducible refine (unhide H5 _ hU4 A ca hQ).mono ?_); rintro e w5 ⟨rfl, hu5⟩; have bR5 := bx_up bR (up_trans hu4 hu5); have a0 := (bR5 0 _ rfl).1; have f0 := (bR5 0 _ rfl).2; have a1 := (bR5 1 _ rfl).1; have f1 := (bR5 1 _ rfl).2; have a2 := (bR5 2 _ rfl).1; have f2 := (bR5 2 _ rfl).2))
    have hQ5 := pts_up hQ hu5
    have B9 := bx_set3 bR5 (v0 := .int .i64 lx) (v1 := .int .i64 ly) (v2 := .slice A 2 ca)
    have Q9 := pts_far (pts_far (pts_far hQ5 (p := ⟨w.heap.size + 1 + 1 + 1, 0, none⟩) hfar (.int .i64 lx)) (p := ⟨w.heap.size + 1 + 1 + 1, 1, none⟩) hfar (.int .i64 ly)) (p := ⟨w.heap.size + 1 + 1 + 1, 2, none⟩) hfar (.slice A 2 ca)
    have U9 : Up w (((w5.setCell ⟨w.heap.size + 1 + 1 + 1, 0, none⟩ (.int .i64 lx)).setCell ⟨w.heap.size + 1 + 1 + 1, 1, none⟩ (.int .i64 ly)).setCell ⟨w.heap.size + 1 + 1 + 1, 2, none⟩ (.slice A 2 ca)) := up_set (up_set (up_set (up_trans hU4 hu5) (by simp only; omega) _) (by simp only; omega) _) (by simp only; omega) _
    generalize ((w5.setCell ⟨w.heap.size + 1 + 1 + 1, 0, none⟩ (.int .i64 lx)).setCell ⟨w.heap.size + 1 + 1 + 1, 1, none⟩ (.int .i64 ly)).setCell ⟨w.heap.size + 1 + 1 + 1, 2, none⟩ (.slice A 2 ca) = W9 at *
    obtain ⟨z0, z1, z2⟩ := bx3 B9
    refine bodyPost_ret (v := .tuple #[.agg #[.int .i64 lx, .int .i64 ly, .slice A 2 ca], .int .i64 0]) (by simp [results, Tryz.f19, go_sem, z0, z1, z2]) rfl ?_
    exact ⟨⟨A, ca, rfl, Q9⟩, U9⟩
end Go.Proofs.YthifcalemhpmoaaGreat
