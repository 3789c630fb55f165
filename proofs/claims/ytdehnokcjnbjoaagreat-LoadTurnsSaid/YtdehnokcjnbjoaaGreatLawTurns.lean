/- LoadTurns: the law's function returns true. -/
import Derived.Test.YtdehnokcjnbjoaaGreatRotM
import Derived.Test.YtdehnokcjnbjoaaGreatTurnE
import Derived.Test.YtdehnokcjnbjoaaGreatPkSaP
import Derived.Test.YtdehnokcjnbjoaaGreatPkOpenLoad
import Derived.Test.YtdehnokcjnbjoaaGreatPkRefDown
import Derived.Test.YtdehnokcjnbjoaaGreatPkLdM
namespace Go.Proofs.YtdehnokcjnbjoaaGreat
open Go.RowKit Go.Proofs.Gn
attribute [local go_sem] Oper.semAt_some
set_option linter.unusedVariables false
theorem md_set {α : Type} (f : α → α) (L : List α) {k : Nat} (h : k < L.length) : (mdL f L k).set k (f L[k]) = mdL f L (k + 1) ∧ (mdL f L k)[k]? = some L[k] := by
  obtain ⟨e1, e2⟩ := md_at f L h
  have hl : ((L.take k).map f).length = k := by rw [List.length_map, List.length_take, Nat.min_eq_left (Nat.le_of_lt h)]
  rw [e1, e2]
  generalize (L.take k).map f = xs at *
  generalize L[k] = a at *
  generalize L.drop (k + 1) = zs at *
  subst hl
  simp
theorem bx_rt {W : World} {g : Nat} {L : Pl} {k : Nat} (h : k < L.length) (hb : Bx W g (cellsPl (mdL rotP L k))) :
    (W.cell? ⟨g, k * 2, none⟩ = some (.int .i64 L[k].1) ∧ W.cell? ⟨g, k * 2 + 1, none⟩ = some (.int .i64 L[k].2)) ∧ (W.frozen? ⟨g, k * 2, none⟩ = false ∧ W.frozen? ⟨g, k * 2 + 1, none⟩ = false) ∧ Bx ((W.setCell ⟨g, k * 2, none⟩ (.int .i64 (-L[k].2))).setCell ⟨g, k * 2 + 1, none⟩ (.int .i64 L[k].1)) g (cellsPl (mdL rotP L (k + 1))) := by
  obtain ⟨e1, e2⟩ := md_set rotP L h
  obtain ⟨hl, e3⟩ := List.getElem?_eq_some_iff.1 e2
  have c := cellsPl_at hl
  rw [e3] at c
  refine ⟨⟨(hb _ _ c.1).1, (hb _ _ c.2).1⟩, ⟨(hb _ _ c.1).2, (hb _ _ c.2).2⟩, ?_⟩
  have q := bx_set (bx_set hb (k * 2) (.int .i64 (-L[k].2))) (k * 2 + 1) (.int .i64 L[k].1)
  rw [cellsPl_set2 hl] at q
  rw [← e1]
  exact q
/-- Turned answers with a load. -/
def TrQ (s : ByteArray) (n m : Nat) (f : Int) (PS : List Pce) (YS : List Eye) (W : World) (e : Ending) (w' : World) : Prop := (∃ P c G d, e = .returned (.tuple #[loV s P n c G m d f, .int .i64 0]) ∧ Hid (∀ W2, Up w' W2 → Pcs W2 P PS ∧ Eyes W2 G YS)) ∧ Up W w'
/-- An outline of its own. -/
def OuQ (R : Pl) (W : World) (e : Ending) (w' : World) : Prop := (∃ g c, e = .returned (.tuple #[.slice (some ⟨g, 0, none⟩) R.length c, .int .i64 0]) ∧ W.heap.size ≤ g ∧ Bx w' g (cellsPl R)) ∧ Up W w'
set_option maxRecDepth 100000 in
set_option maxHeartbeats 16000000 in
theorem l_Turns1 (s : ByteArray) (A B : Option Addr) (n m cA cB : Nat) (f a b : Int) (w : World) (hg : grL s n m = true) :
    Calls Tryz.prog 6 #[loV s A n cA B m cB f, .int .i8 a, .int .i8 b] w fun e w' => e = .returned (.bool true) ∧ Up w w' := by
  have HG1 := hide (fun W => p_greatL s A n cA B m cB f W)
  have HK := hide (fun W => p_knownL W)
  rw [hg] at HG1
  clear hg
  go_enter Tryz.func6, Tryz.ntmps6
  go_upto_region 1 with fail
  refine at_wpC (fun W0 hW0 => ?_)
  have b0 : Bx W0 w.heap.size [.string s, .slice A n cA, .slice B m cB, .int .i64 f] := by rw [hW0]; exact bx_new w _ _
  have U0 : Up w W0 := by rw [hW0]; exact (by repeat' (first | (with_reducible exact up_refl _) | (with_reducible assumption) | (with_reducible refine up_alloc ?_ _) | (with_reducible refine up_drewN ?_ _) | (with_reducible refine up_drew ?_) | (with_reducible refine up_set ?_ (by first | (simp; done) | (simp; omega) | omega) _) | (refine up_trans ?_ (by with_reducible assumption))))
  clear hW0
  have x0 := (b0 0 _ rfl).1
  have x1 := (b0 1 _ rfl).1
  have x2 := (b0 2 _ rfl).1
  have x3 := (b0 3 _ rfl).1
  go_wp2_with (first
    | (go_at_call 8; (with_reducible refine (unhide HG1 _).mono ?_); rintro e w1 ⟨rfl, v1⟩)
    | (go_at_call 9; (with_reducible refine (unhide HK _).mono ?_); rintro e w9 ⟨rfl, v9⟩))
  go_ret
  exact ⟨rfl, up_trans (up_trans U0 v1) v9⟩
set_option maxRecDepth 100000 in
set_option maxHeartbeats 16000000 in
theorem l_Turns2 (s : ByteArray) (A B : Option Addr) (n m cA cB : Nat) (f a b E : Int) (w : World) (hg : grL s n m = false) (ha : -128 ≤ a ∧ a ≤ 127) (hE : ¬ E = 0) (HT : Hid (∀ W, Up w W → Calls Tryz.prog 46 #[loV s A n cA B m cB f, .int .i64 a] W fun e w' => e = .returned (.tuple #[lo0L, .int .i64 E]) ∧ Up W w')) (HC : Hid (∀ W, Up w W → Calls Tryz.prog 16 #[loV s A n cA B m cB f] W fun e w' => e = .returned (.int .i64 E) ∧ Up W w')) :
    Calls Tryz.prog 6 #[loV s A n cA B m cB f, .int .i8 a, .int .i8 b] w fun e w' => e = .returned (.bool true) ∧ Up w w' := by
  have HG1 := hide (fun W => p_greatL s A n cA B m cB f W)
  have HKn := hide (fun W => p_knownL W)
  rw [hg] at HG1
  clear hg
  have t0 : (E == E) = true := by simp
  have t1 : (E == 0) = false := by simp [hE]
  have t2 : (E != 0) = true := by simp [hE]
  have r1 : IntKind.i64.wrap a = a := i64_small (by omega)
  go_enter Tryz.func6, Tryz.ntmps6
  go_upto_region 1 with fail
  refine at_wpC (fun W0 hW0 => ?_)
  have b0 : Bx W0 w.heap.size [.string s, .slice A n cA, .slice B m cB, .int .i64 f] := by rw [hW0]; exact bx_new w _ _
  have U0 : Up w W0 := by rw [hW0]; exact (by repeat' (first | (with_reducible exact up_refl _) | (with_reducible assumption) | (with_reducible refine up_alloc ?_ _) | (with_reducible refine up_drewN ?_ _) | (with_reducible refine up_drew ?_) | (with_reducible refine up_set ?_ (by first | (simp; done) | (simp; omega) | omega) _) | (refine up_trans ?_ (by with_reducible assumption))))
  clear hW0
  have x0 := (b0 0 _ rfl).1
  have x1 := (b0 1 _ rfl).1
  have x2 := (b0 2 _ rfl).1
  have x3 := (b0 3 _ rfl).1
  go_upto_region 3 with (go_at_call 8; (with_reducible refine (unhide HG1 _).mono ?_); rintro e w90 ⟨rfl, v90⟩)
  have b90 := bx_up b0 v90
  have U90 := up_trans U0 v90
  clear x0 x1 x2 x3 b0 U0 v90 HG1
  have x0 := (b90 0 _ rfl).1
  have x1 := (b90 1 _ rfl).1
  have x2 := (b90 2 _ rfl).1
  have x3 := (b90 3 _ rfl).1
  go_upto_region 4 with (go_at_call 46; (with_reducible refine (unhide HT _ U90).mono ?_); rintro e w1 ⟨rfl, v1⟩)
  refine at_wpC (fun W1 hW1 => ?_)
  have y1 : Up w1 W1 := by rw [hW1]; exact (by repeat' (first | (with_reducible exact up_refl _) | (with_reducible assumption) | (with_reducible refine up_alloc ?_ _) | (with_reducible refine up_drewN ?_ _) | (with_reducible refine up_drew ?_) | (with_reducible refine up_set ?_ (by first | (simp; done) | (simp; omega) | omega) _) | (refine up_trans ?_ (by with_reducible assumption))))
  clear hW1
  have b1 := bx_up (bx_up b90 v1) y1
  have U1 := up_trans (up_trans U90 v1) y1
  clear x0 x1 x2 x3 b90 U90 v1 y1
  have x0 := (b1 0 _ rfl).1
  have x1 := (b1 1 _ rfl).1
  have x2 := (b1 2 _ rfl).1
  have x3 := (b1 3 _ rfl).1
  go_wp2_with (first
    | (go_at_call 16; (with_reducible refine (unhide HC _ U1).mono ?_); rintro e w2 ⟨rfl, v2⟩)
    | (go_at_call 9; (with_reducible refine (unhide HKn _).mono ?_); rintro e w9 ⟨rfl, v9⟩))
  go_ret
  exact ⟨rfl, up_trans (up_trans U1 v2) v9⟩
set_option maxRecDepth 100000 in
set_option maxHeartbeats 16000000 in
theorem l_Turns3 (s : ByteArray) (A B : Option Addr) (n m cA cB : Nat) (f a b : Int) (w : World) (hg : grL s n m = false) (ha : -128 ≤ a ∧ a ≤ 127) (hb : -128 ≤ b ∧ b ≤ 127) (Q0 Q1 Q2 Q5 : List Pce) (Y0 Y1 Y2 Y5 : List Eye) (R T : Pl)
    (HP0 : Hid (∀ W, Up w W → Pcs W A Q0 ∧ Eyes W B Y0))
    (HT1 : Hid (∀ W, Up w W → Calls Tryz.prog 46 #[loV s A n cA B m cB f, .int .i64 a] W (TrQ s n m f Q1 Y1 W)))
    (HT2 : Hid (∀ W P c G d, Pcs W P Q1 → Eyes W G Y1 → Calls Tryz.prog 46 #[loV s P n c G m d f, .int .i64 b] W (TrQ s n m f Q2 Y2 W)))
    (HT3 : Hid (∀ W, Up w W → Calls Tryz.prog 46 #[loV s A n cA B m cB f, .int .i64 (a + b)] W (TrQ s n m f Q2 Y2 W)))
    (HT4 : Hid (∀ W, Up w W → Calls Tryz.prog 46 #[loV s A n cA B m cB f, .int .i64 (4 * b)] W (TrQ s n m f Q0 Y0 W)))
    (HT5 : Hid (∀ W, Up w W → Calls Tryz.prog 46 #[loV s A n cA B m cB f, .int .i64 1] W (TrQ s n m f Q5 Y5 W)))
    (HS2 : Hid (∀ W P c G d P' c' G' d', Pcs W P Q2 → Eyes W G Y2 → Pcs W P' Q2 → Eyes W G' Y2 → Calls Tryz.prog 47 #[loV s P n c G m d f, loV s P' n c' G' m d' f] W fun e w' => e = .returned (.bool true) ∧ Up W w'))
    (HS0 : Hid (∀ W P c G d P' c' G' d', Pcs W P Q0 → Eyes W G Y0 → Pcs W P' Q0 → Eyes W G' Y0 → Calls Tryz.prog 47 #[loV s P n c G m d f, loV s P' n c' G' m d' f] W fun e w' => e = .returned (.bool true) ∧ Up W w'))
    (HO : Hid (∀ W, Up w W → Calls Tryz.prog 20 #[loV s A n cA B m cB f] W (OuQ R W)))
    (HQ : Hid (∀ W P c G d, Pcs W P Q5 → Eyes W G Y5 → Calls Tryz.prog 20 #[loV s P n c G m d f] W (OuQ T W)))
    (HH : Hid (∀ W A c, Pts W A (R.map rotP) → Calls Tryz.prog 48 #[.slice A R.length c] W fun e w' => (∃ A' c', e = .returned (.slice A' T.length c') ∧ Hid (∀ W2, Up w' W2 → Pts W2 A' T)) ∧ Up W w'))
    (HSm : Hid (∀ W A B c c', Pts W A T → Pts W B T → Calls Tryz.prog 24 #[.slice A T.length c, .slice B T.length c'] W fun e w' => e = .returned (.bool true) ∧ Up W w'))
    (HR : Hid (∀ k (h : k < R.length), -16777216 ≤ R[k].2 ∧ R[k].2 ≤ 16777216)) (hR0 : 0 < R.length) (hT0 : 0 < T.length) (hR : R.length ≤ 1000) :
    Calls Tryz.prog 6 #[loV s A n cA B m cB f, .int .i8 a, .int .i8 b] w fun e w' => e = .returned (.bool true) ∧ Up w w' := by
  have HG1 := hide (fun W => p_greatL s A n cA B m cB f W)
  have HKn := hide (fun W => p_knownL W)
  rw [hg] at HG1
  clear hg
  have r1 : IntKind.i64.wrap a = a := i64_small (by omega)
  have r2 : IntKind.i64.wrap b = b := i64_small (by omega)
  have r3 : IntKind.i64.wrap (a + b) = a + b := i64_small (by omega)
  have r4 : IntKind.i64.wrap (4 * b) = 4 * b := i64_small (by omega)
  go_enter Tryz.func6, Tryz.ntmps6
  go_upto_region 1 with fail
  refine at_wpC (fun W0 hW0 => ?_)
  have b0 : Bx W0 w.heap.size [.string s, .slice A n cA, .slice B m cB, .int .i64 f] := by rw [hW0]; exact bx_new w _ _
  have U0 : Up w W0 := by rw [hW0]; exact (by repeat' (first | (with_reducible exact up_refl _) | (with_reducible assumption) | (with_reducible refine up_alloc ?_ _) | (with_reducible refine up_drewN ?_ _) | (with_reducible refine up_drew ?_) | (with_reducible refine up_set ?_ (by first | (simp; done) | (simp; omega) | omega) _) | (refine up_trans ?_ (by with_reducible assumption))))
  clear hW0
  have x0 := (b0 0 _ rfl).1
  have x1 := (b0 1 _ rfl).1
  have x2 := (b0 2 _ rfl).1
  have x3 := (b0 3 _ rfl).1
  go_upto_region 3 with (go_at_call 8; (with_reducible refine (unhide HG1 _).mono ?_); rintro e w90 ⟨rfl, v90⟩)
  have b90 := bx_up b0 v90
  have U90 := up_trans U0 v90
  clear x0 x1 x2 x3 b0 U0 v90 HG1
  have x0 := (b90 0 _ rfl).1
  have x1 := (b90 1 _ rfl).1
  have x2 := (b90 2 _ rfl).1
  have x3 := (b90 3 _ rfl).1
  go_upto_region 4 with (go_at_call 46; (with_reducible refine (unhide HT1 _ U90).mono ?_); rintro e w1 ⟨⟨P1, c1, G1, d1, rfl, h1⟩, v1⟩)
  refine at_wpC (fun W1 hW1 => ?_)
  have y1 : Up w1 W1 := by rw [hW1]; exact (by repeat' (first | (with_reducible exact up_refl _) | (with_reducible assumption) | (with_reducible refine up_alloc ?_ _) | (with_reducible refine up_drewN ?_ _) | (with_reducible refine up_drew ?_) | (with_reducible refine up_set ?_ (by first | (simp; done) | (simp; omega) | omega) _) | (refine up_trans ?_ (by with_reducible assumption))))
  have B1 : Bx W1 w1.heap.size [.string s, .slice P1 n c1, .slice G1 m d1, .int .i64 f] := by rw [hW1]; exact bx_new w1 _ _
  clear hW1
  generalize w1.heap.size = g1 at *
  have k1 := hide (fun Wz (hW : Up W1 Wz) => unhide h1 Wz (up_trans y1 hW))
  have b1 := bx_up (bx_up b90 v1) y1
  have U1 := up_trans (up_trans U90 v1) y1
  clear x0 x1 x2 x3 b90 U90 v1 y1 h1
  have z0 := (B1 0 _ rfl).1
  have z1 := (B1 1 _ rfl).1
  have z2 := (B1 2 _ rfl).1
  have z3 := (B1 3 _ rfl).1
  go_upto_region 7 with (go_at_call 46; (with_reducible refine (unhide HT2 _ _ _ _ _ (unhide k1 _ (up_refl _)).1 (unhide k1 _ (up_refl _)).2).mono ?_); rintro e w2 ⟨⟨P2, c2, G2, d2, rfl, h2⟩, v2⟩)
  refine at_wpC (fun W2 hW2 => ?_)
  have y2 : Up w2 W2 := by rw [hW2]; exact (by repeat' (first | (with_reducible exact up_refl _) | (with_reducible assumption) | (with_reducible refine up_alloc ?_ _) | (with_reducible refine up_drewN ?_ _) | (with_reducible refine up_drew ?_) | (with_reducible refine up_set ?_ (by first | (simp; done) | (simp; omega) | omega) _) | (refine up_trans ?_ (by with_reducible assumption))))
  have B2 : Bx W2 w2.heap.size [.string s, .slice P2 n c2, .slice G2 m d2, .int .i64 f] := by rw [hW2]; exact bx_new w2 _ _
  clear hW2
  generalize w2.heap.size = g2 at *
  have k2 := hide (fun Wz (hW : Up W2 Wz) => unhide h2 Wz (up_trans y2 hW))
  have b2 := bx_up (bx_up b1 v2) y2
  have U2 := up_trans (up_trans U1 v2) y2
  replace B1 := bx_up (bx_up B1 v2) y2
  have k1' := hide (fun Wz (hW : Up W2 Wz) => unhide k1 Wz (up_trans v2 (up_trans y2 hW)))
  clear k1
  have k1 := k1'
  clear k1'
  clear z0 z1 z2 z3 b1 U1 v2 y2 h2
  have x0 := (b2 0 _ rfl).1
  have x1 := (b2 1 _ rfl).1
  have x2 := (b2 2 _ rfl).1
  have x3 := (b2 3 _ rfl).1
  go_upto_region 8 with (go_at_call 46; (with_reducible refine (unhide HT3 _ U2).mono ?_); rintro e w3 ⟨⟨P3, c3, G3, d3, rfl, h3⟩, v3⟩)
  refine at_wpC (fun W3 hW3 => ?_)
  have y3 : Up w3 W3 := by rw [hW3]; exact (by repeat' (first | (with_reducible exact up_refl _) | (with_reducible assumption) | (with_reducible refine up_alloc ?_ _) | (with_reducible refine up_drewN ?_ _) | (with_reducible refine up_drew ?_) | (with_reducible refine up_set ?_ (by first | (simp; done) | (simp; omega) | omega) _) | (refine up_trans ?_ (by with_reducible assumption))))
  have B3 : Bx W3 w3.heap.size [.string s, .slice P3 n c3, .slice G3 m d3, .int .i64 f] := by rw [hW3]; exact bx_new w3 _ _
  clear hW3
  generalize w3.heap.size = g3 at *
  have k3 := hide (fun Wz (hW : Up W3 Wz) => unhide h3 Wz (up_trans y3 hW))
  have b3 := bx_up (bx_up b2 v3) y3
  have U3 := up_trans (up_trans U2 v3) y3
  replace B1 := bx_up (bx_up B1 v3) y3
  replace B2 := bx_up (bx_up B2 v3) y3
  have k1' := hide (fun Wz (hW : Up W3 Wz) => unhide k1 Wz (up_trans v3 (up_trans y3 hW)))
  clear k1
  have k1 := k1'
  clear k1'
  have k2' := hide (fun Wz (hW : Up W3 Wz) => unhide k2 Wz (up_trans v3 (up_trans y3 hW)))
  clear k2
  have k2 := k2'
  clear k2'
  clear x0 x1 x2 x3 b2 U2 v3 y3 h3
  have x0 := (b3 0 _ rfl).1
  have x1 := (b3 1 _ rfl).1
  have x2 := (b3 2 _ rfl).1
  have x3 := (b3 3 _ rfl).1
  go_upto_region 9 with (go_at_call 46; (with_reducible refine (unhide HT4 _ U3).mono ?_); rintro e w4 ⟨⟨P4, c4, G4, d4, rfl, h4⟩, v4⟩)
  refine at_wpC (fun W4 hW4 => ?_)
  have y4 : Up w4 W4 := by rw [hW4]; exact (by repeat' (first | (with_reducible exact up_refl _) | (with_reducible assumption) | (with_reducible refine up_alloc ?_ _) | (with_reducible refine up_drewN ?_ _) | (with_reducible refine up_drew ?_) | (with_reducible refine up_set ?_ (by first | (simp; done) | (simp; omega) | omega) _) | (refine up_trans ?_ (by with_reducible assumption))))
  have B4 : Bx W4 w4.heap.size [.string s, .slice P4 n c4, .slice G4 m d4, .int .i64 f] := by rw [hW4]; exact bx_new w4 _ _
  clear hW4
  generalize w4.heap.size = g4 at *
  have k4 := hide (fun Wz (hW : Up W4 Wz) => unhide h4 Wz (up_trans y4 hW))
  have b4 := bx_up (bx_up b3 v4) y4
  have U4 := up_trans (up_trans U3 v4) y4
  replace B1 := bx_up (bx_up B1 v4) y4
  replace B2 := bx_up (bx_up B2 v4) y4
  replace B3 := bx_up (bx_up B3 v4) y4
  have k1' := hide (fun Wz (hW : Up W4 Wz) => unhide k1 Wz (up_trans v4 (up_trans y4 hW)))
  clear k1
  have k1 := k1'
  clear k1'
  have k2' := hide (fun Wz (hW : Up W4 Wz) => unhide k2 Wz (up_trans v4 (up_trans y4 hW)))
  clear k2
  have k2 := k2'
  clear k2'
  have k3' := hide (fun Wz (hW : Up W4 Wz) => unhide k3 Wz (up_trans v4 (up_trans y4 hW)))
  clear k3
  have k3 := k3'
  clear k3'
  clear x0 x1 x2 x3 b3 U3 v4 y4 h4
  have x0 := (b4 0 _ rfl).1
  have x1 := (b4 1 _ rfl).1
  have x2 := (b4 2 _ rfl).1
  have x3 := (b4 3 _ rfl).1
  have z0 := (B2 0 _ rfl).1
  have z1 := (B2 1 _ rfl).1
  have z2 := (B2 2 _ rfl).1
  have z3 := (B2 3 _ rfl).1
  have q0 := (B3 0 _ rfl).1
  have q1 := (B3 1 _ rfl).1
  have q2 := (B3 2 _ rfl).1
  have q3 := (B3 3 _ rfl).1
  have o0 := (B4 0 _ rfl).1
  have o1 := (B4 1 _ rfl).1
  have o2 := (B4 2 _ rfl).1
  have o3 := (B4 3 _ rfl).1
  go_upto_region 11 with (first
    | (go_at_call 47; (with_reducible refine (unhide HS2 _ P2 c2 G2 d2 P3 c3 G3 d3 (unhide k2 _ (up_refl _)).1 (unhide k2 _ (up_refl _)).2 (unhide k3 _ (up_refl _)).1 (unhide k3 _ (up_refl _)).2).mono ?_); rintro e w60 ⟨rfl, v60⟩; have x0 := up_cell v60 x0; have x1 := up_cell v60 x1; have x2 := up_cell v60 x2; have x3 := up_cell v60 x3; have o0 := up_cell v60 o0; have o1 := up_cell v60 o1; have o2 := up_cell v60 o2; have o3 := up_cell v60 o3)
    | (go_at_call 47; (with_reducible refine (unhide HS0 _ P4 c4 G4 d4 A cA B cB (unhide k4 _ v60).1 (unhide k4 _ v60).2 (unhide HP0 _ (up_trans U4 v60)).1 (unhide HP0 _ (up_trans U4 v60)).2).mono ?_); rintro e w61 ⟨rfl, v61⟩))
  have b61 := bx_up (bx_up b4 v60) v61
  have U61 := up_trans (up_trans U4 v60) v61
  clear x0 x1 x2 x3 z0 z1 z2 z3 q0 q1 q2 q3 o0 o1 o2 o3 b4 U4 v60 v61 B1 B2 B3 B4 k1 k2 k3 k4 HT1 HT2 HT3 HT4 HS2 HS0 HP0
  have x0 := (b61 0 _ rfl).1
  have x1 := (b61 1 _ rfl).1
  have x2 := (b61 2 _ rfl).1
  have x3 := (b61 3 _ rfl).1
  go_upto_region 12 with (go_at_call 46; (with_reducible refine (unhide HT5 _ U61).mono ?_); rintro e w5 ⟨⟨P5, c5, G5, d5, rfl, h5⟩, v5⟩)
  refine at_wpC (fun W5 hW5 => ?_)
  have y5 : Up w5 W5 := by rw [hW5]; exact (by repeat' (first | (with_reducible exact up_refl _) | (with_reducible assumption) | (with_reducible refine up_alloc ?_ _) | (with_reducible refine up_drewN ?_ _) | (with_reducible refine up_drew ?_) | (with_reducible refine up_set ?_ (by first | (simp; done) | (simp; omega) | omega) _) | (refine up_trans ?_ (by with_reducible assumption))))
  have B5 : Bx W5 w5.heap.size [.string s, .slice P5 n c5, .slice G5 m d5, .int .i64 f] := by rw [hW5]; exact bx_new w5 _ _
  clear hW5
  generalize w5.heap.size = g5 at *
  have k5 := hide (fun Wz (hW : Up W5 Wz) => unhide h5 Wz (up_trans y5 hW))
  have b5 := bx_up (bx_up b61 v5) y5
  have U5 := up_trans (up_trans U61 v5) y5
  clear x0 x1 x2 x3 b61 U61 v5 y5 h5
  have x0 := (b5 0 _ rfl).1
  have x1 := (b5 1 _ rfl).1
  have x2 := (b5 2 _ rfl).1
  have x3 := (b5 3 _ rfl).1
  go_upto_region 13 with (go_at_call 20; (with_reducible refine (unhide HO _ U5).mono ?_); rintro e w6 ⟨⟨g6, c6, rfl, hz6, R6⟩, v6⟩)
  have U6 := up_trans U5 v6
  have hg6 : w.heap.size ≤ g6 := Nat.le_trans (up_size U5) hz6
  have B6 := bx_up B5 v6
  clear x0 x1 x2 x3 b5 B5 U5 hz6
  have z0 := (B6 0 _ rfl).1
  have z1 := (B6 1 _ rfl).1
  have z2 := (B6 2 _ rfl).1
  have z3 := (B6 3 _ rfl).1
  go_upto_region 14 with (go_at_call 20; (with_reducible refine (unhide HQ _ _ _ _ _ (unhide k5 _ v6).1 (unhide k5 _ v6).2).mono ?_); rintro e w7 ⟨⟨g7, c7, rfl, hz7, T7⟩, v7⟩)
  have U7 := up_trans U6 v7
  have hgt : g6 < g7 := Nat.lt_of_lt_of_le (bx_lt R6 (by rw [cellsPl_length]; omega)) hz7
  have R7 := bx_up R6 v7
  clear z0 z1 z2 z3 B6 U6 v6 v7 k5 HT5 HO HQ R6 hz7
  have HRR := hide (fun k (h : k < R.length) W hb => bx_rt (W := W) (g := g6) h hb)
  have HRE := hide (md_n rotP R (Nat.le_refl _))
  rw [← md_0 rotP R] at R7
  go_upto_region 17 with fail
  obtain ⟨n0, hn0⟩ : ∃ n0, R.length = n0 := ⟨_, rfl⟩
  rw [hn0] at HH hR ⊢
  go_loopw [18] (fun s18 wr => ∃ k : Nat, k ≤ n0 ∧ s18 = .int .i64 k ∧ Bx wr g6 (cellsPl (mdL rotP R k)) ∧ Bx wr g7 (cellsPl T) ∧ Up w wr) (fun s18 _ => n0 - (intOf s18).toNat)
  case atStart => exact ⟨0, by omega, rfl, R7, T7, U7⟩
  case round =>
    clear R7 T7 U7
    obtain ⟨k, hk, rfl, R7, T7, hu⟩ := hrel
    by_cases hlt : k < n0
    · have hl : k < R.length := by omega
      have HT := fun W hb => unhide HRR k hl W hb
      have hr := unhide HR k hl
      have hwk : IntKind.i64.wrap ((k : Int) + 1) = (k : Int) + 1 := IntWalk.i64_in _ ⟨by omega, by omega⟩
      have h1 : IntKind.i64.wrap (-R[k].2) = -R[k].2 := i64_small (by omega)
      have i0 : (0 : Int) ≤ (k : Int) := by omega
      have i1 : (k : Int) < (n0 : Int) := by omega
      have i3 : (k : Int).toNat = k := by omega
      obtain ⟨⟨a0, a1⟩, ⟨f0, f1⟩, _⟩ := HT wr R7
      have HTH := hide HT
      clear hr HT
      generalize R[k].1 = px at *
      generalize R[k].2 = py at *
      go_upto_region 19 with fail
      go_region
      have KR := bx_drew (unhide HTH wr R7).2.2
      have KT := bx_drew (bx_far (bx_far T7 (p := ⟨g6, k * 2, none⟩) (by simp only; omega) (.int .i64 (-py))) (p := ⟨g6, k * 2 + 1, none⟩) (by simp only; omega) (.int .i64 px))
      have KU := up_drew (up_set (up_set hu (p := ⟨g6, k * 2, none⟩) (by simp only; omega) (.int .i64 (-py))) (p := ⟨g6, k * 2 + 1, none⟩) (by simp only; omega) (.int .i64 px))
      generalize ((wr.setCell ⟨g6, k * 2, none⟩ (.int .i64 (-py))).setCell ⟨g6, k * 2 + 1, none⟩ (.int .i64 px)).drew = WB at KR KT KU ⊢
      clear a0 a1 f0 f1 HTH R7 T7
      go_wp2_with fail
      go_roundw
      case rel => exact ⟨k + 1, by omega, by first | rfl | trivial | go_num, KR, KT, KU⟩
      case measure => first | (simp [intOf]; done) | (simp [intOf]; omega)
    · obtain rfl : k = n0 := by omega
      have i1 : ¬ (k : Int) < (k : Int) := by omega
      have e := unhide HRE
      rw [hn0] at e
      rw [e] at R7
      have pR := pts_bx R7
      have pT := pts_bx T7
      go_wp2_with (first
        | (go_at_call 48; (with_reducible refine (unhide HH _ _ _ pR).mono ?_); rintro e w70 ⟨⟨A8, c8, rfl, k8⟩, v70⟩)
        | (go_at_call 24; (with_reducible refine (unhide HSm _ _ _ _ _ (unhide k8 _ (up_refl _)) (pts_up pT v70)).mono ?_); rintro e w71 ⟨rfl, v71⟩)
        | (go_at_call 9; (with_reducible refine (unhide HKn _).mono ?_); rintro e w72 ⟨rfl, v72⟩))
      go_ret
      exact ⟨rfl, up_trans hu (up_trans v70 (up_trans v71 v72))⟩
theorem t_Turn {s : ByteArray} {P : Option Addr} {PS : List Pce} {c : Nat} {G : Option Addr} {YS : List Eye} {d n m : Nat} {f : Int} {W : World} (qu : Int) (hP : Pcs W P PS) (hG : Eyes W G YS) (hE : loE s PS YS f = 0) (hn : PS.length = n) (hm : YS.length = m) :
    Calls Tryz.prog 46 #[loV s P n c G m d f, .int .i64 qu] W (TrQ s n m f (trN (quN qu) PS) (tyN (quN qu) YS) W) := by
  subst hn hm
  refine (p_TurnedN s P PS c G YS d f qu W hP hG hE).mono ?_
  rintro e w' ⟨⟨g, c', G', d', rfl, hz, bG, hY⟩, hu⟩
  exact ⟨⟨_, c', G', d', rfl, hide fun W2 hW => ⟨pcs_bxP (bx_up bG hW), (hY.ups hW).eyes⟩⟩, hu⟩
theorem t_Out {s : ByteArray} {P : Option Addr} {PS : List Pce} {c : Nat} {G : Option Addr} {YS : List Eye} {d n m : Nat} {f : Int} {W : World} (hP : Pcs W P PS) (hG : Eyes W G YS) (hE : loE s PS YS f = 0) (hn : PS.length = n) (hm : YS.length = m) :
    Calls Tryz.prog 20 #[loV s P n c G m d f] W (OuQ (Gx.hullF (cnA PS)) W) := by
  subst hn hm
  obtain ⟨⟨hg1, hg2, hg3⟩, _, _, hok, _⟩ := loE_ok hE
  have hne : cnA PS ≠ [] := fun e => by have := cnA_len PS; rw [e] at this; simp at this; omega
  refine (p_OutlineL s P PS c G YS d f W hP hG (by omega) (by omega)).mono ?_
  rintro e w' h
  have e1 : ouL (loE s PS YS f) (cnL (-1) PS) = Gx.hullF (cnA PS) := by
    rw [hE, cnL_all hok]
    unfold ouL hlL
    rw [if_pos rfl, if_neg hne]
  rw [e1, hE] at h
  obtain ⟨⟨v, rfl, ho⟩, hu⟩ := h
  obtain ⟨g, cap, rfl, hz, hb⟩ := bx_own ho (List.length_pos_iff.2 (Gx.hullF_poly hne).1.ne)
  exact ⟨⟨g, cap, rfl, hz, hb⟩, hu⟩
theorem l_Turns (s : ByteArray) (A : Option Addr) (ps : List Pce) (cA : Nat) (B : Option Addr) (ys : List Eye) (cB : Nat) (f a b : Int) (w : World) (hA : Pcs w A ps) (hB : Eyes w B ys) (hn : ps.length ≤ 9223372036854775807) (hm : ys.length ≤ 9223372036854775807) (ha : -128 ≤ a ∧ a ≤ 127) (hb : -128 ≤ b ∧ b ≤ 127) :
    Calls Tryz.prog 6 #[loV s A ps.length cA B ys.length cB f, .int .i8 a, .int .i8 b] w fun e w' => e = .returned (.bool true) ∧ Up w w' := by
  cases hg : grL s ps.length ys.length
  · by_cases hE : loE s ps ys f = 0
    · obtain ⟨⟨hg1, hg2, hg3⟩, _, _, hok, _⟩ := loE_ok hE
      have hne : cnA ps ≠ [] := fun e => by have := cnA_len ps; rw [e] at this; simp at this; omega
      have hEt := lo_trA hE
      obtain ⟨⟨ht1, _, _⟩, _, _, hokt, _⟩ := loE_ok hEt
      have hnet : cnA (ps.map trP) ≠ [] := fun e => by have := cnA_len (ps.map trP); rw [e, List.length_map] at this; simp at this; omega
      have hp := Gx.hullF_poly hne
      have hpt := Gx.hullF_poly hnet
      have hlen : (Gx.hullF (cnA ps)).length ≤ 256 := by
        have q := hullF_len (cnA ps)
        rw [cnA_len] at q
        omega
      have hlent : (Gx.hullF (cnA (ps.map trP))).length ≤ 256 := by
        have q := hullF_len (cnA (ps.map trP))
        rw [cnA_len, List.length_map] at q
        omega
      have hnr : ∀ q ∈ Gx.hullF (cnA ps), Nr 262144 q := fun q hq => cnL_nr (-1) hok q (by rw [cnL_all hok]; exact hp.2.2 q hq)
      have hrot : Gx.hullF ((Gx.hullF (cnA ps)).map rotP) = Gx.hullF (cnA (ps.map trP)) := hull_tr hg1
      refine l_Turns3 s A B ps.length ys.length cA cB f a b w hg ha hb ps (trN (quN a) ps) (trN (quN (a + b)) ps) (ps.map trP) ys (tyN (quN a) ys) (tyN (quN (a + b)) ys) (ys.map tyP) (Gx.hullF (cnA ps)) (Gx.hullF (cnA (ps.map trP)))
        (hide fun W hW => ⟨pcs_up hA hW, eyes_up hB hW⟩)
        (hide fun W hW => t_Turn a (pcs_up hA hW) (eyes_up hB hW) hE rfl rfl)
        (hide fun W P c G d hP hG => by
          have q := t_Turn (c := c) (d := d) b hP hG (lo_trN hE _) (trN_len _ ps) (tyN_len _ ys)
          rw [(qu_two a b ps ys).1, (qu_two a b ps ys).2] at q
          exact q)
        (hide fun W hW => t_Turn (a + b) (pcs_up hA hW) (eyes_up hB hW) hE rfl rfl)
        (hide fun W hW => by
          have q := t_Turn (c := cA) (d := cB) (4 * b) (pcs_up hA hW) (eyes_up hB hW) hE rfl rfl
          rw [(qu_four b ps ys).1, (qu_four b ps ys).2] at q
          exact q)
        (hide fun W hW => t_Turn 1 (pcs_up hA hW) (eyes_up hB hW) hE rfl rfl)
        (hide fun W P c G d P' c' G' d' h1 h2 h3 h4 => by
          have q := l_sameLoad s P (trN (quN (a + b)) ps) c G (tyN (quN (a + b)) ys) d f P' c' G' d' W h1 h2 h3 h4 (by rw [trN_len]; omega) (by rw [tyN_len]; omega)
          rw [trN_len, tyN_len] at q
          exact q)
        (hide fun W P c G d P' c' G' d' h1 h2 h3 h4 => l_sameLoad s P ps c G ys d f P' c' G' d' W h1 h2 h3 h4 (by omega) (by omega))
        (hide fun W hW => t_Out (pcs_up hA hW) (eyes_up hB hW) hE rfl rfl)
        (hide fun W P c G d hP hG => t_Out hP hG hEt (List.length_map _) (List.length_map _))
        (hide fun W A' c h => ?_)
        (hide fun W A' B' c c' h1 h2 => l_samePts A' B' _ c c' W h1 h2 (by omega))
        (hide fun k hk => ?_) (List.length_pos_iff.2 hp.1.ne) (List.length_pos_iff.2 hpt.1.ne) (by omega)
      · have hnem : (Gx.hullF (cnA ps)).map rotP ≠ [] := by simpa using hp.1.ne
        have q := r_HullG A' ((Gx.hullF (cnA ps)).map rotP) c W h (by rw [List.length_map]; omega) (fun p hp' => by
          obtain ⟨q, hq, rfl⟩ := List.mem_map.1 hp'
          have := hnr q hq
          unfold Nr at this
          unfold Nr rotP
          dsimp only
          omega) (by rw [hrot]; omega)
        have e1 : hlL ((Gx.hullF (cnA ps)).map rotP) = Gx.hullF (cnA (ps.map trP)) := by unfold hlL; rw [if_neg hnem, hrot]
        rw [e1, List.length_map] at q
        refine q.mono ?_
        rintro e w' ⟨⟨v, rfl, ho⟩, hu⟩
        obtain ⟨A2, c2, rfl, hp2⟩ := own_pts ho
        exact ⟨⟨A2, c2, rfl, hide fun W2 hW => pts_up hp2 hW⟩, hu⟩
      · have := hnr _ (List.getElem_mem hk)
        unfold Nr at this
        omega
    · exact l_Turns2 s A B ps.length ys.length cA cB f a b (loE s ps ys f) w hg ha hE
        (hide fun W hW => p_TurnedE s A ps cA B ys cB f a W (pcs_up hA hW) (eyes_up hB hW) hn hm _ rfl hE)
        (hide fun W hW => p_CheckL s A ps cA B ys cB f W (pcs_up hA hW) (eyes_up hB hW) hn hm)
  · exact l_Turns1 s A B ps.length ys.length cA cB f a b w hg
end Go.Proofs.YtdehnokcjnbjoaaGreat
