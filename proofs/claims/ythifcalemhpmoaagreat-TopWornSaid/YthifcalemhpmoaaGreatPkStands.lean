/- What a load puts on a platform. The foot of a centre: the document's own answers. -/
import Derived.Test.YthifcalemhpmoaaGreatPkFeetB
import Derived.Test.YthifcalemhpmoaaGreatPkRefShares
import Derived.Test.YthifcalemhpmoaaGreatPkRefCen
namespace Go.Proofs.YthifcalemhpmoaaGreat
open Go.RowKit Go.Proofs.Gn
theorem ne_near {n d : Int} (hn : -137438953472 ≤ n ∧ n ≤ 137438953472) (hd : 1 ≤ d ∧ d ≤ 16777216) : neV n d = (2 * n + d) / (2 * d) := by
  unfold neV
  have : inQ n d = true := by unfold inQ; rw [decide_eq_true_iff]; omega
  rw [this]
  simp only [if_true]
  unfold near
  rfl
theorem bx_four (w : World) (v1 v2 v3 v4 : List Value) (t1 t2 t3 t4 : TypeId) :
    Bx ((((w.alloc (.cells v1.toArray t1)).alloc (.cells v2.toArray t2)).alloc (.cells v3.toArray t3)).alloc (.cells v4.toArray t4)) w.heap.size v1 ∧ Bx ((((w.alloc (.cells v1.toArray t1)).alloc (.cells v2.toArray t2)).alloc (.cells v3.toArray t3)).alloc (.cells v4.toArray t4)) (w.heap.size + 1) v2 ∧ Bx ((((w.alloc (.cells v1.toArray t1)).alloc (.cells v2.toArray t2)).alloc (.cells v3.toArray t3)).alloc (.cells v4.toArray t4)) (w.heap.size + 1 + 1) v3 ∧ Bx ((((w.alloc (.cells v1.toArray t1)).alloc (.cells v2.toArray t2)).alloc (.cells v3.toArray t3)).alloc (.cells v4.toArray t4)) (w.heap.size + 1 + 1 + 1) v4 := by
  have t := bx_three w v1 v2 v3 t1 t2 t3
  refine ⟨bx_alloc t.1 _, bx_alloc t.2.1 _, bx_alloc t.2.2 _, ?_⟩
  have u := bx_new (((w.alloc (.cells v1.toArray t1)).alloc (.cells v2.toArray t2)).alloc (.cells v3.toArray t3)) v4 t4
  rwa [sz1, sz1, sz1] at u
end Go.Proofs.YthifcalemhpmoaaGreat
namespace Go.Proofs.YthifcalemhpmoaaGreat
open Go.RowKit Go.Proofs.Gn
/-- What a load puts on a platform: the foot, its error, the loads and their error. -/
def sdL (s : ByteArray) (pcs : List Pce) (ys : List Eye) (f sx sy ax ay : Int) : Int := lnE (loC s pcs ys f fX) (loC s pcs ys f fY) (loC s pcs ys f fZ) sx sy ax ay
def sdX (s : ByteArray) (pcs : List Pce) (ys : List Eye) (f sx sy ax ay : Int) : Int := foV (loC s pcs ys f fX) (loC s pcs ys f fY) (loC s pcs ys f fZ) sx sy ax ay (ft (loC s pcs ys f fX) (loC s pcs ys f fZ) sx ax)
def sdY (s : ByteArray) (pcs : List Pce) (ys : List Eye) (f sx sy ax ay : Int) : Int := foV (loC s pcs ys f fX) (loC s pcs ys f fY) (loC s pcs ys f fZ) sx sy ax ay (ft (loC s pcs ys f fY) (loC s pcs ys f fZ) sy ay)
def stE (C E L G : Int) : Int := if C = 0 then (if E = 0 then (if L = 0 then G else L) else E) else C
def stV (C E L r : Int) : Int := if C = 0 then (if E = 0 then (if L = 0 then r else 0) else 0) else 0
def sdE (ps : List Gs.Sup) (s : ByteArray) (pcs : List Pce) (ys : List Eye) (f sx sy ax ay : Int) : Int :=
  stE (chE ps) (loE s pcs ys f) (sdL s pcs ys f sx sy ax ay) (shE ps (loM s pcs ys f) (sdX s pcs ys f sx sy ax ay) (sdY s pcs ys f sx sy ax ay))
def sdV (ps : List Gs.Sup) (s : ByteArray) (pcs : List Pce) (ys : List Eye) (f sx sy ax ay : Int) (g : List Gs.Sup → Int → Int → Int) : Int :=
  stV (chE ps) (loE s pcs ys f) (sdL s pcs ys f sx sy ax ay) (shV ps (loM s pcs ys f) (sdX s pcs ys f sx sy ax ay) (sdY s pcs ys f sx sy ax ay) (up (loM s pcs ys f) (paD ps) (g ps (sdX s pcs ys f sx sy ax ay) (sdY s pcs ys f sx sy ax ay))))
set_option maxRecDepth 100000 in
set_option maxHeartbeats 8000000 in
theorem p_Stands (A : Option Addr) (ps : List Gs.Sup) (cap : Nat) (s : ByteArray) (Ap : Option Addr) (pcs : List Pce) (capP : Nat) (B : Option Addr) (ys : List Eye) (capB : Nat) (f sx sy ax ay : Int) (w : World)
    (hS : Sups w A ps) (hA : Pcs w Ap pcs) (hB : Eyes w B ys) (hl : ps.length ≤ 9223372036854775807) (hn : pcs.length ≤ 9223372036854775807) (hm : ys.length ≤ 9223372036854775807) :
    Calls Tryz.prog 9 #[.slice A ps.length cap, loV s Ap pcs.length capP B ys.length capB f, pt sx sy, pt ax ay] w fun e w' => e = .returned (.tuple #[.agg #[.int .i64 (sdV ps s pcs ys f sx sy ax ay pa0), .int .i64 (sdV ps s pcs ys f sx sy ax ay pa1), .int .i64 (sdV ps s pcs ys f sx sy ax ay pa2)], .int .i64 (sdE ps s pcs ys f sx sy ax ay)]) ∧ Up w w' := by
  have HC := hide (fun W (hW : Up w W) => p_CheckS A ps cap W (sups_up hS hW) hl)
  have HE := hide (fun W (hW : Up w W) => p_CentreL s Ap pcs capP B ys capB f W (pcs_up hA hW) (eyes_up hB hW) hn hm)
  have HM := hide (fun W (hW : Up w W) => p_MassL s Ap pcs capP B ys capB f W (pcs_up hA hW) (eyes_up hB hW) hn hm)
  have HF := hide (fun W => p_Foot (loC s pcs ys f fX) (loC s pcs ys f fY) (loC s pcs ys f fZ) sx sy ax ay W)
  have HS := hide (fun (h : chE ps = 0) W (hW : Up w W) => p_Shares A ps cap (loM s pcs ys f) (sdX s pcs ys f sx sy ax ay) (sdY s pcs ys f sx sy ax ay) hl W (sups_up hS hW))
  have hx : sdX s pcs ys f sx sy ax ay = _ := rfl
  have hy : sdY s pcs ys f sx sy ax ay = _ := rfl
  have hL : sdL s pcs ys f sx sy ax ay = _ := rfl
  conv at hx => rhs; unfold sdX
  conv at hy => rhs; unfold sdY
  conv at hL => rhs; unfold sdL
  rw [← hx, ← hy, ← hL] at HF
  clear hx hy hL
  unfold sdV sdE
  clear hS hA hB
  generalize loC s pcs ys f fX = k0 at *
  generalize loC s pcs ys f fY = k1 at *
  generalize loC s pcs ys f fZ = k2 at *
  generalize sdL s pcs ys f sx sy ax ay = L at *
  generalize sdX s pcs ys f sx sy ax ay = X at *
  generalize sdY s pcs ys f sx sy ax ay = Y at *
  generalize shV ps (loM s pcs ys f) X Y (up (loM s pcs ys f) (paD ps) (pa0 ps X Y)) = r0 at *
  generalize shV ps (loM s pcs ys f) X Y (up (loM s pcs ys f) (paD ps) (pa1 ps X Y)) = r1 at *
  generalize shV ps (loM s pcs ys f) X Y (up (loM s pcs ys f) (paD ps) (pa2 ps X Y)) = r2 at *
  generalize shE ps (loM s pcs ys f) X Y = G at *
  generalize loM s pcs ys f = M at *
  generalize loE s pcs ys f = E at *
  generalize chE ps = C at *
  generalize ps.length = n at *
  generalize pcs.length = np at *
  generalize ys.length = ny at *
  unfold stE stV
  by_cases hC : C = 0
  rotate_left
  · have t : (C == 0) = false := by simp [hC]
    simp only [if_neg hC]
    have HH := hide hC
    clear hC HE HM HF HS
    go_enter Tryz.func9, Tryz.ntmps9
    go_upto_region 1 with fail
    refine at_wp (fun W0 hW0 => ?_)
    have t4 := bx_four w [.string s, .slice Ap np capP, .slice B ny capB, .int .i64 f] [.int .i64 sx, .int .i64 sy] [.int .i64 ax, .int .i64 ay] [.int .i64 0, .int .i64 0, .int .i64 0] 27 42 42 29
    have U0 : Up w W0 := by rw [hW0]; exact (by repeat' (first | (with_reducible exact up_refl _) | (with_reducible assumption) | (with_reducible refine up_alloc ?_ _) | (with_reducible refine up_drewN ?_ _) | (with_reducible refine up_drew ?_) | (with_reducible refine up_set ?_ (by first | (simp; done) | (simp; omega) | omega) _) | (refine up_trans ?_ (by with_reducible assumption))))
    have L0 : Bx W0 w.heap.size [.string s, .slice Ap np capP, .slice B ny capB, .int .i64 f] := by rw [hW0]; exact t4.1
    have S0 : Bx W0 (w.heap.size + 1) [.int .i64 sx, .int .i64 sy] := by rw [hW0]; exact t4.2.1
    have A0 : Bx W0 (w.heap.size + 1 + 1) [.int .i64 ax, .int .i64 ay] := by rw [hW0]; exact t4.2.2.1
    have R0 : Bx W0 (w.heap.size + 1 + 1 + 1) [.int .i64 0, .int .i64 0, .int .i64 0] := by rw [hW0]; exact t4.2.2.2
    clear hW0 t4
    go_wp2_with (go_at_call 25; (with_reducible refine (unhide HC _ U0).mono ?_); rintro e w1 ⟨rfl, hb⟩; have U1 := up_trans U0 hb; have R1 := bx_up R0 hb; obtain ⟨z0, z1, z2⟩ := bx3 R1; obtain ⟨f0, f1, f2⟩ := bxf3 R1)
    obtain ⟨W9, hW9⟩ : ∃ W9 : World, W9 = (((w1.setCell ⟨w.heap.size + 1 + 1 + 1, 0, none⟩ (.int .i64 0)).setCell ⟨w.heap.size + 1 + 1 + 1, 1, none⟩ (.int .i64 0)).setCell ⟨w.heap.size + 1 + 1 + 1, 2, none⟩ (.int .i64 0)) := ⟨_, rfl⟩
    rw [← hW9]
    have B9 : Bx W9 (w.heap.size + 1 + 1 + 1) [.int .i64 0, .int .i64 0, .int .i64 0] := by rw [hW9]; exact bx_set3 R1
    have U9 : Up w W9 := by rw [hW9]; exact up_set (up_set (up_set U1 (by simp; omega) _) (by simp; omega) _) (by simp; omega) _
    clear hW9 z0 z1 z2 f0 f1 f2
    obtain ⟨q0, q1, q2⟩ := bx3 B9
    refine bodyPost_ret (v := .tuple #[.agg #[.int .i64 0, .int .i64 0, .int .i64 0], .int .i64 C]) (by simp [results, Tryz.results9, go_sem, q0, q1, q2]) rfl ⟨rfl, U9⟩
  subst hC
  simp only [if_pos]
  have HS2 := hide (unhide HS rfl)
  clear HS
  by_cases hE : E = 0
  rotate_left
  · have t : (E == 0) = false := by simp [hE]
    simp only [if_neg hE]
    have HH := hide hE
    clear hE HM HF HS2
    go_enter Tryz.func9, Tryz.ntmps9
    go_upto_region 1 with fail
    refine at_wp (fun W0 hW0 => ?_)
    have t4 := bx_four w [.string s, .slice Ap np capP, .slice B ny capB, .int .i64 f] [.int .i64 sx, .int .i64 sy] [.int .i64 ax, .int .i64 ay] [.int .i64 0, .int .i64 0, .int .i64 0] 27 42 42 29
    have U0 : Up w W0 := by rw [hW0]; exact (by repeat' (first | (with_reducible exact up_refl _) | (with_reducible assumption) | (with_reducible refine up_alloc ?_ _) | (with_reducible refine up_drewN ?_ _) | (with_reducible refine up_drew ?_) | (with_reducible refine up_set ?_ (by first | (simp; done) | (simp; omega) | omega) _) | (refine up_trans ?_ (by with_reducible assumption))))
    have L0 : Bx W0 w.heap.size [.string s, .slice Ap np capP, .slice B ny capB, .int .i64 f] := by rw [hW0]; exact t4.1
    have S0 : Bx W0 (w.heap.size + 1) [.int .i64 sx, .int .i64 sy] := by rw [hW0]; exact t4.2.1
    have A0 : Bx W0 (w.heap.size + 1 + 1) [.int .i64 ax, .int .i64 ay] := by rw [hW0]; exact t4.2.2.1
    have R0 : Bx W0 (w.heap.size + 1 + 1 + 1) [.int .i64 0, .int .i64 0, .int .i64 0] := by rw [hW0]; exact t4.2.2.2
    clear hW0 t4
    go_wp2_with (first | (go_at_call 25; (with_reducible refine (unhide HC _ U0).mono ?_); rintro e w1 ⟨rfl, hb1⟩; have U1 := up_trans U0 hb1; have L1 := bx_up L0 hb1; have R1 := bx_up R0 hb1; have e0 := (L1 0 _ rfl).1; have e1 := (L1 1 _ rfl).1; have e2 := (L1 2 _ rfl).1; have e3 := (L1 3 _ rfl).1; obtain ⟨z0, z1, z2⟩ := bx3 R1; obtain ⟨f0, f1, f2⟩ := bxf3 R1) | (go_at_call 6; (with_reducible refine (unhide HE _ U1).mono ?_); rintro e w2 ⟨rfl, hb2⟩; have U2 := up_trans U1 hb2; have R2 := bx_up R1 hb2; have R3 := bx_alloc R2 (.cells #[.int .i64 k0, .int .i64 k1, .int .i64 k2] 29); have U3 := up_alloc U2 (.cells #[.int .i64 k0, .int .i64 k1, .int .i64 k2] 29); obtain ⟨z0, z1, z2⟩ := bx3 R3; obtain ⟨f0, f1, f2⟩ := bxf3 R3))
    obtain ⟨W9, hW9⟩ : ∃ W9 : World, W9 = ((((w2.alloc (.cells #[.int .i64 k0, .int .i64 k1, .int .i64 k2] 29)).setCell ⟨w.heap.size + 1 + 1 + 1, 0, none⟩ (.int .i64 0)).setCell ⟨w.heap.size + 1 + 1 + 1, 1, none⟩ (.int .i64 0)).setCell ⟨w.heap.size + 1 + 1 + 1, 2, none⟩ (.int .i64 0)) := ⟨_, rfl⟩
    rw [← hW9]
    have B9 : Bx W9 (w.heap.size + 1 + 1 + 1) [.int .i64 0, .int .i64 0, .int .i64 0] := by rw [hW9]; exact bx_set3 R3
    have U9 : Up w W9 := by rw [hW9]; exact up_set (up_set (up_set U3 (by simp; omega) _) (by simp; omega) _) (by simp; omega) _
    clear hW9 z0 z1 z2 f0 f1 f2
    obtain ⟨q0, q1, q2⟩ := bx3 B9
    refine bodyPost_ret (v := .tuple #[.agg #[.int .i64 0, .int .i64 0, .int .i64 0], .int .i64 E]) (by simp [results, Tryz.results9, go_sem, q0, q1, q2]) rfl ⟨rfl, U9⟩
  subst hE
  simp only [if_pos]
  by_cases hL : L = 0
  rotate_left
  · have t : (L == 0) = false := by simp [hL]
    simp only [if_neg hL]
    have HH := hide hL
    clear hL HS2
    go_enter Tryz.func9, Tryz.ntmps9
    go_upto_region 1 with fail
    refine at_wp (fun W0 hW0 => ?_)
    have t4 := bx_four w [.string s, .slice Ap np capP, .slice B ny capB, .int .i64 f] [.int .i64 sx, .int .i64 sy] [.int .i64 ax, .int .i64 ay] [.int .i64 0, .int .i64 0, .int .i64 0] 27 42 42 29
    have U0 : Up w W0 := by rw [hW0]; exact (by repeat' (first | (with_reducible exact up_refl _) | (with_reducible assumption) | (with_reducible refine up_alloc ?_ _) | (with_reducible refine up_drewN ?_ _) | (with_reducible refine up_drew ?_) | (with_reducible refine up_set ?_ (by first | (simp; done) | (simp; omega) | omega) _) | (refine up_trans ?_ (by with_reducible assumption))))
    have L0 : Bx W0 w.heap.size [.string s, .slice Ap np capP, .slice B ny capB, .int .i64 f] := by rw [hW0]; exact t4.1
    have S0 : Bx W0 (w.heap.size + 1) [.int .i64 sx, .int .i64 sy] := by rw [hW0]; exact t4.2.1
    have A0 : Bx W0 (w.heap.size + 1 + 1) [.int .i64 ax, .int .i64 ay] := by rw [hW0]; exact t4.2.2.1
    have R0 : Bx W0 (w.heap.size + 1 + 1 + 1) [.int .i64 0, .int .i64 0, .int .i64 0] := by rw [hW0]; exact t4.2.2.2
    clear hW0 t4
    go_wp2_with (first | (go_at_call 25; (with_reducible refine (unhide HC _ U0).mono ?_); rintro e w1 ⟨rfl, hb1⟩; have U1 := up_trans U0 hb1; have L1 := bx_up L0 hb1; have S1 := bx_up S0 hb1; have A1 := bx_up A0 hb1; have R1 := bx_up R0 hb1; have e0 := (L1 0 _ rfl).1; have e1 := (L1 1 _ rfl).1; have e2 := (L1 2 _ rfl).1; have e3 := (L1 3 _ rfl).1) | (go_at_call 6; (with_reducible refine (unhide HE _ U1).mono ?_); rintro e w2 ⟨rfl, hb2⟩; have hb2a := up_alloc hb2 (.cells #[.int .i64 k0, .int .i64 k1, .int .i64 k2] 29); have U2 := up_trans U1 hb2a; have L2 := bx_up L1 hb2a; have S2 := bx_up S1 hb2a; have A2 := bx_up A1 hb2a; have R2 := bx_up R1 hb2a; have C2 := bx_new w2 [.int .i64 k0, .int .i64 k1, .int .i64 k2] 29; have m0 := (L2 0 _ rfl).1; have m1 := (L2 1 _ rfl).1; have m2 := (L2 2 _ rfl).1; have m3 := (L2 3 _ rfl).1) | (go_at_call 10; (with_reducible refine (unhide HM _ U2).mono ?_); rintro e w3 ⟨rfl, hb3⟩; have U3 := up_trans U2 hb3; have S3 := bx_up S2 hb3; have A3 := bx_up A2 hb3; have R3 := bx_up R2 hb3; have C3 := bx_up C2 hb3; obtain ⟨i0, i1⟩ := bx2 S3; obtain ⟨j0, j1⟩ := bx2 A3; obtain ⟨g0, g1, g2⟩ := bx3 C3) | (go_at_call 26; (with_reducible refine (unhide HF _).mono ?_); rintro e w4 ⟨rfl, hb4⟩; have U4 := up_trans U3 hb4; have R4 := bx_up R3 hb4; have R5 := bx_alloc R4 (.cells #[.int .i64 X, .int .i64 Y] 62); have U5 := up_alloc U4 (.cells #[.int .i64 X, .int .i64 Y] 62); obtain ⟨z0, z1, z2⟩ := bx3 R5; obtain ⟨f0, f1, f2⟩ := bxf3 R5))
    obtain ⟨W9, hW9⟩ : ∃ W9 : World, W9 = ((((w4.alloc (.cells #[.int .i64 X, .int .i64 Y] 62)).setCell ⟨w.heap.size + 1 + 1 + 1, 0, none⟩ (.int .i64 0)).setCell ⟨w.heap.size + 1 + 1 + 1, 1, none⟩ (.int .i64 0)).setCell ⟨w.heap.size + 1 + 1 + 1, 2, none⟩ (.int .i64 0)) := ⟨_, rfl⟩
    rw [← hW9]
    have B9 : Bx W9 (w.heap.size + 1 + 1 + 1) [.int .i64 0, .int .i64 0, .int .i64 0] := by rw [hW9]; exact bx_set3 R5
    have U9 : Up w W9 := by rw [hW9]; exact up_set (up_set (up_set U5 (by simp; omega) _) (by simp; omega) _) (by simp; omega) _
    clear hW9 z0 z1 z2 f0 f1 f2
    obtain ⟨q0, q1, q2⟩ := bx3 B9
    refine bodyPost_ret (v := .tuple #[.agg #[.int .i64 0, .int .i64 0, .int .i64 0], .int .i64 L]) (by simp [results, Tryz.results9, go_sem, q0, q1, q2]) rfl ⟨rfl, U9⟩
  · subst hL
    simp only [if_pos]
    go_enter Tryz.func9, Tryz.ntmps9
    go_upto_region 1 with fail
    refine at_wp (fun W0 hW0 => ?_)
    have t4 := bx_four w [.string s, .slice Ap np capP, .slice B ny capB, .int .i64 f] [.int .i64 sx, .int .i64 sy] [.int .i64 ax, .int .i64 ay] [.int .i64 0, .int .i64 0, .int .i64 0] 27 42 42 29
    have U0 : Up w W0 := by rw [hW0]; exact (by repeat' (first | (with_reducible exact up_refl _) | (with_reducible assumption) | (with_reducible refine up_alloc ?_ _) | (with_reducible refine up_drewN ?_ _) | (with_reducible refine up_drew ?_) | (with_reducible refine up_set ?_ (by first | (simp; done) | (simp; omega) | omega) _) | (refine up_trans ?_ (by with_reducible assumption))))
    have L0 : Bx W0 w.heap.size [.string s, .slice Ap np capP, .slice B ny capB, .int .i64 f] := by rw [hW0]; exact t4.1
    have S0 : Bx W0 (w.heap.size + 1) [.int .i64 sx, .int .i64 sy] := by rw [hW0]; exact t4.2.1
    have A0 : Bx W0 (w.heap.size + 1 + 1) [.int .i64 ax, .int .i64 ay] := by rw [hW0]; exact t4.2.2.1
    have R0 : Bx W0 (w.heap.size + 1 + 1 + 1) [.int .i64 0, .int .i64 0, .int .i64 0] := by rw [hW0]; exact t4.2.2.2
    clear hW0 t4
    go_wp2_with (first | (go_at_call 25; (with_reducible refine (unhide HC _ U0).mono ?_); rintro e w1 ⟨rfl, hb1⟩; have U1 := up_trans U0 hb1; have L1 := bx_up L0 hb1; have S1 := bx_up S0 hb1; have A1 := bx_up A0 hb1; have R1 := bx_up R0 hb1; have e0 := (L1 0 _ rfl).1; have e1 := (L1 1 _ rfl).1; have e2 := (L1 2 _ rfl).1; have e3 := (L1 3 _ rfl).1) | (go_at_call 6; (with_reducible refine (unhide HE _ U1).mono ?_); rintro e w2 ⟨rfl, hb2⟩; have hb2a := up_alloc hb2 (.cells #[.int .i64 k0, .int .i64 k1, .int .i64 k2] 29); have U2 := up_trans U1 hb2a; have L2 := bx_up L1 hb2a; have S2 := bx_up S1 hb2a; have A2 := bx_up A1 hb2a; have R2 := bx_up R1 hb2a; have C2 := bx_new w2 [.int .i64 k0, .int .i64 k1, .int .i64 k2] 29; have m0 := (L2 0 _ rfl).1; have m1 := (L2 1 _ rfl).1; have m2 := (L2 2 _ rfl).1; have m3 := (L2 3 _ rfl).1) | (go_at_call 10; (with_reducible refine (unhide HM _ U2).mono ?_); rintro e w3 ⟨rfl, hb3⟩; have U3 := up_trans U2 hb3; have S3 := bx_up S2 hb3; have A3 := bx_up A2 hb3; have R3 := bx_up R2 hb3; have C3 := bx_up C2 hb3; obtain ⟨i0, i1⟩ := bx2 S3; obtain ⟨j0, j1⟩ := bx2 A3; obtain ⟨g0, g1, g2⟩ := bx3 C3) | (go_at_call 26; (with_reducible refine (unhide HF _).mono ?_); rintro e w4 ⟨rfl, hb4⟩; have U4 := up_trans U3 hb4; have R4 := bx_up R3 hb4) | (go_at_call 27; (with_reducible refine (unhide HS2 _ (up_alloc U4 _)).mono ?_); rintro e w5 ⟨rfl, hb5⟩; have U5 := up_trans (up_alloc U4 _) hb5; have R5 := bx_up (bx_alloc R4 _) hb5; obtain ⟨z0, z1, z2⟩ := bx3 R5; obtain ⟨f0, f1, f2⟩ := bxf3 R5))
    obtain ⟨W9, hW9⟩ : ∃ W9 : World, W9 = (((w5.setCell ⟨w.heap.size + 1 + 1 + 1, 0, none⟩ (.int .i64 r0)).setCell ⟨w.heap.size + 1 + 1 + 1, 1, none⟩ (.int .i64 r1)).setCell ⟨w.heap.size + 1 + 1 + 1, 2, none⟩ (.int .i64 r2)) := ⟨_, rfl⟩
    rw [← hW9]
    have B9 : Bx W9 (w.heap.size + 1 + 1 + 1) [.int .i64 r0, .int .i64 r1, .int .i64 r2] := by rw [hW9]; exact bx_set3 R5
    have U9 : Up w W9 := by rw [hW9]; exact up_set (up_set (up_set U5 (by simp; omega) _) (by simp; omega) _) (by simp; omega) _
    clear hW9 z0 z1 z2 f0 f1 f2
    obtain ⟨q0, q1, q2⟩ := bx3 B9
    refine bodyPost_ret (v := .tuple #[.agg #[.int .i64 r0, .int .i64 r1, .int .i64 r2], .int .i64 G]) (by simp [results, Tryz.results9, go_sem, q0, q1, q2]) rfl ⟨rfl, U9⟩
end Go.Proofs.YthifcalemhpmoaaGreat
