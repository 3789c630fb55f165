/- load.Hold of the example's load, without lashings. -/
import Derived.Test.YtdehnokcjnbjoaaGreatLdN
import Derived.Test.YtdehnokcjnbjoaaGreatChkL
namespace Go.Proofs.YtdehnokcjnbjoaaGreat
open Go.RowKit Go.Proofs.Gn
attribute [local go_sem] Oper.semAt_some
set_option linter.unusedVariables false
set_option maxRecDepth 100000 in
set_option maxHeartbeats 16000000 in
theorem p_shakeH (x : Int) (w : World) (hx : 0 ≤ x ∧ x ≤ 301) :
    Calls Tryz.prog 93 #[shV x] w fun e w' => e = .returned (.int .i64 0) ∧ Up w w' := by
  have t1 : win x (-2000) 2000 = true := (win_iff _ _ _).2 (by omega)
  have t2 : win 0 (-2000) 2000 = true := by decide
  have t3 : win 1000 0 2000 = true := by decide
  have H1 := hide (fun W => p_withinL x (-2000) 2000 W)
  have H2 := hide (fun W => p_withinL 0 (-2000) 2000 W)
  have H3 := hide (fun W => p_withinL 1000 0 2000 W)
  rw [t1] at H1
  rw [t2] at H2
  rw [t3] at H3
  clear t1 t2 t3
  go_enter Tryz.func93, Tryz.ntmps93
  go_upto_region 1 with fail
  refine at_wpC (fun W0 hW0 => ?_)
  have U0 : Up w W0 := by rw [hW0]; exact (by repeat' (first | (with_reducible exact up_refl _) | (with_reducible assumption) | (with_reducible refine up_alloc ?_ _) | (with_reducible refine up_drewN ?_ _) | (with_reducible refine up_drew ?_) | (with_reducible refine up_set ?_ (by first | (simp; done) | (simp; omega) | omega) _) | (refine up_trans ?_ (by with_reducible assumption))))
  have bS : Bx W0 w.heap.size [.int .i64 x, .int .i64 0, .int .i64 1000] := by rw [hW0]; exact bx_new w _ _
  clear hW0
  have s0 := bx_cell bS (k := 0) rfl
  have s1 := bx_cell bS (k := 1) rfl
  have s2 := bx_cell bS (k := 2) rfl
  go_wp2_with (first
    | (go_at_call 58; (with_reducible refine (unhide H1 _).mono ?_); rintro e w1 ⟨rfl, rfl⟩)
    | (go_at_call 58; (with_reducible refine (unhide H2 _).mono ?_); rintro e w2 ⟨rfl, rfl⟩)
    | (go_at_call 58; (with_reducible refine (unhide H3 _).mono ?_); rintro e w3 ⟨rfl, rfl⟩))
  go_ret
  exact ⟨rfl, U0⟩
set_option maxRecDepth 100000 in
set_option maxHeartbeats 16000000 in
theorem p_lashesH (s : ByteArray) (A : Option Addr) (ps : List Pce) (capA : Nat) (B : Option Addr) (ys : List Eye) (capB : Nat) (f : Int) (w : World) (hA : Pcs w A ps) (hB : Eyes w B ys) (hn : ps.length ≤ 32) (hm : ys.length ≤ 32) (hE : loE s ps ys f = 0) :
    Calls Tryz.prog 76 #[loV s A ps.length capA B ys.length capB f, .slice none 0 0] w fun e w' => e = .returned (.int .i64 0) ∧ Up w w' := by
  have HC := hide (fun W (hW : Up w W) => p_CheckL s A ps capA B ys capB f W (pcs_up hA hW) (eyes_up hB hW) (by omega) (by omega))
  rw [hE] at HC
  obtain ⟨n, hnn⟩ : ∃ n, ps.length = n := ⟨_, rfl⟩
  obtain ⟨m, hmm⟩ : ∃ m, ys.length = m := ⟨_, rfl⟩
  rw [hnn, hmm] at HC ⊢
  clear hA hB hn hm hE hnn hmm
  go_enter Tryz.func76, Tryz.ntmps76
  go_upto_region 1 with fail
  refine at_wpC (fun W0 hW0 => ?_)
  have U0 : Up w W0 := by rw [hW0]; exact (by repeat' (first | (with_reducible exact up_refl _) | (with_reducible assumption) | (with_reducible refine up_alloc ?_ _) | (with_reducible refine up_drewN ?_ _) | (with_reducible refine up_drew ?_) | (with_reducible refine up_set ?_ (by first | (simp; done) | (simp; omega) | omega) _) | (refine up_trans ?_ (by with_reducible assumption))))
  have bL : Bx W0 w.heap.size [.string s, .slice A n capA, .slice B m capB, .int .i64 f] := by rw [hW0]; exact bx_new w _ _
  clear hW0
  have s0 := bx_cell bL (k := 0) rfl
  have s1 := bx_cell bL (k := 1) rfl
  have s2 := bx_cell bL (k := 2) rfl
  have s3 := bx_cell bL (k := 3) rfl
  go_upto_region 7 with (go_at_call 16; (with_reducible refine (unhide HC _ U0).mono ?_); rintro e w1 ⟨rfl, u1⟩; have U1 := up_trans U0 u1)
  go_loopw [18] (fun s18 wr => s18 = .int .i64 0 ∧ Up w wr) (fun _ _ => 0)
  case atStart => exact ⟨rfl, U1⟩
  case round =>
    clear U1
    obtain ⟨rfl, U1⟩ := hrel
    go_wp2_with fail
    go_ret
    exact ⟨rfl, U1⟩
set_option maxRecDepth 100000 in
set_option maxHeartbeats 16000000 in
theorem p_shakenH (s : ByteArray) (A : Option Addr) (ps : List Pce) (capA : Nat) (B : Option Addr) (ys : List Eye) (capB : Nat) (f x : Int) (w : World) (hA : Pcs w A ps) (hB : Eyes w B ys) (hn : ps.length ≤ 32) (hm : ys.length ≤ 32) (hE : loE s ps ys f = 0) (hx : 0 ≤ x ∧ x ≤ 301) :
    Calls Tryz.prog 80 #[loV s A ps.length capA B ys.length capB f, .slice none 0 0, shV x] w fun e w' => e = .returned (.int .i64 0) ∧ Up w w' := by
  have HC := hide (fun W (hW : Up w W) => p_lashesH s A ps capA B ys capB f W (pcs_up hA hW) (eyes_up hB hW) hn hm hE)
  have HS := hide (fun W => p_shakeH x W hx)
  obtain ⟨n, hnn⟩ : ∃ n, ps.length = n := ⟨_, rfl⟩
  obtain ⟨m, hmm⟩ : ∃ m, ys.length = m := ⟨_, rfl⟩
  rw [hnn, hmm] at HC ⊢
  clear hA hB hn hm hE hnn hmm
  go_enter Tryz.func80, Tryz.ntmps80
  go_upto_region 1 with fail
  refine at_wpC (fun W0 hW0 => ?_)
  have U0 : Up w W0 := by rw [hW0]; exact (by repeat' (first | (with_reducible exact up_refl _) | (with_reducible assumption) | (with_reducible refine up_alloc ?_ _) | (with_reducible refine up_drewN ?_ _) | (with_reducible refine up_drew ?_) | (with_reducible refine up_set ?_ (by first | (simp; done) | (simp; omega) | omega) _) | (refine up_trans ?_ (by with_reducible assumption))))
  obtain ⟨bL, bS⟩ : Bx W0 w.heap.size [.string s, .slice A n capA, .slice B m capB, .int .i64 f] ∧ Bx W0 (w.heap.size + 1) [.int .i64 x, .int .i64 0, .int .i64 1000] := by
    rw [hW0]
    refine ⟨bx_alloc (bx_new w _ _) _, ?_⟩
    have q := bx_new (w.alloc (.cells #[.string s, .slice A n capA, .slice B m capB, .int .i64 f] 25)) [.int .i64 x, .int .i64 0, .int .i64 1000] 61
    rw [World.size_alloc] at q
    exact q
  clear hW0
  have s0 := bx_cell bL (k := 0) rfl
  have s1 := bx_cell bL (k := 1) rfl
  have s2 := bx_cell bL (k := 2) rfl
  have s3 := bx_cell bL (k := 3) rfl
  go_wp2_with (first
    | (go_at_call 76; (with_reducible refine (unhide HC _ U0).mono ?_); rintro e w1 ⟨rfl, u1⟩; have U1 := up_trans U0 u1; have bS1 := bx_up bS u1; have h0 := bx_cell bS1 (k := 0) rfl; have h1 := bx_cell bS1 (k := 1) rfl; have h2 := bx_cell bS1 (k := 2) rfl)
    | (go_at_call 93; (with_reducible refine (unhide HS _).mono ?_); rintro e w2 ⟨rfl, u2⟩; have U2 := up_trans U1 u2))
  go_ret
  exact ⟨rfl, U2⟩
set_option maxRecDepth 100000 in
set_option maxHeartbeats 16000000 in
theorem p_HoldH (s : ByteArray) (A : Option Addr) (ps : List Pce) (capA : Nat) (B : Option Addr) (ys : List Eye) (capB : Nat) (x : Int) (w : World) (hA : Pcs w A ps) (hB : Eyes w B ys) (hn : ps.length ≤ 32) (hm : ys.length ≤ 32) (hE : loE s ps ys 300 = 0) (hM : mas ps = 5000) (hx : 0 ≤ x ∧ x ≤ 301) :
    Calls Tryz.prog 40 #[loV s A ps.length capA B ys.length capB 300, .slice none 0 0, shV x] w fun e w' => e = .returned (.tuple #[pt (hoF ((5000 * x + 999) / 1000, 0)).1 (hoF ((5000 * x + 999) / 1000, 0)).2.1, .int .i64 (hoF ((5000 * x + 999) / 1000, 0)).2.2]) ∧ Up w w' := by
  have HC := hide (fun W (hW : Up w W) => p_shakenH s A ps capA B ys capB 300 x W (pcs_up hA hW) (eyes_up hB hW) hn hm hE hx)
  have HO := hide (fun W (hW : Up w W) => p_holdH s A ps capA B ys.length capB x W (pcs_up hA hW) (loE_ok hE).2.2.2.1 hn hM hx)
  obtain ⟨n, hnn⟩ : ∃ n, ps.length = n := ⟨_, rfl⟩
  obtain ⟨m, hmm⟩ : ∃ m, ys.length = m := ⟨_, rfl⟩
  rw [hnn, hmm] at HC HO ⊢
  generalize (hoF ((5000 * x + 999) / 1000, 0)).1 = o1 at *
  generalize (hoF ((5000 * x + 999) / 1000, 0)).2.1 = o2 at *
  generalize (hoF ((5000 * x + 999) / 1000, 0)).2.2 = o3 at *
  clear hA hB hn hm hE hnn hmm
  go_enter Tryz.func40, Tryz.ntmps40
  go_upto_region 1 with fail
  refine at_wpC (fun W0 hW0 => ?_)
  have U0 : Up w W0 := by rw [hW0]; exact (by repeat' (first | (with_reducible exact up_refl _) | (with_reducible assumption) | (with_reducible refine up_alloc ?_ _) | (with_reducible refine up_drewN ?_ _) | (with_reducible refine up_drew ?_) | (with_reducible refine up_set ?_ (by first | (simp; done) | (simp; omega) | omega) _) | (refine up_trans ?_ (by with_reducible assumption))))
  obtain ⟨bL, bS, bR⟩ : Bx W0 w.heap.size [.string s, .slice A n capA, .slice B m capB, .int .i64 300] ∧ Bx W0 (w.heap.size + 1) [.int .i64 x, .int .i64 0, .int .i64 1000] ∧ Bx W0 (w.heap.size + 1 + 1) [.int .i64 0, .int .i64 0] := by
    rw [hW0]
    exact bxd3 w [.string s, .slice A n capA, .slice B m capB, .int .i64 300] [.int .i64 x, .int .i64 0, .int .i64 1000] [.int .i64 0, .int .i64 0] _ _ _
  clear hW0
  have HL := hide (fun W (hW : Up W0 W) => (⟨bx_cell (bx_up bL hW) (k := 0) rfl, bx_cell (bx_up bL hW) (k := 1) rfl, bx_cell (bx_up bL hW) (k := 2) rfl, bx_cell (bx_up bL hW) (k := 3) rfl, bx_cell (bx_up bS hW) (k := 0) rfl, bx_cell (bx_up bS hW) (k := 1) rfl, bx_cell (bx_up bS hW) (k := 2) rfl⟩ : _ ∧ _ ∧ _ ∧ _ ∧ _ ∧ _ ∧ _))
  obtain ⟨z0, z1, z2, z3, z4, z5, z6⟩ := unhide HL W0 (up_refl _)
  clear bL bS
  go_upto_region 2 with (go_at_call 80; (with_reducible refine (unhide HC _ U0).mono ?_); rintro e w1 ⟨rfl, u1⟩; have U1 := up_trans U0 u1; have bR1 := bx_up bR u1)
  obtain ⟨y0, y1, y2, y3, y4, y5, y6⟩ := unhide HL w1 u1
  clear z0 z1 z2 z3 z4 z5 z6 bR
  go_wp2_with (go_at_call 87; (with_reducible refine (unhide HO _ U1).mono ?_); rintro e w2 ⟨rfl, u2⟩; have U2 := up_trans U1 u2; have bR2 := bx_up bR1 u2; obtain ⟨r0, r1⟩ := bx2 bR2; obtain ⟨f0, f1⟩ := bxf2 bR2)
  have B9 := bx_set (bx_set bR2 0 (.int .i64 o1)) 1 (.int .i64 o2)
  have UZ := up_set (up_set U2 (p := ⟨w.heap.size + 1 + 1, 0, none⟩) (by simp only; omega) (.int .i64 o1)) (p := ⟨w.heap.size + 1 + 1, 1, none⟩) (by simp only; omega) (.int .i64 o2)
  generalize (w2.setCell ⟨w.heap.size + 1 + 1, 0, none⟩ (.int .i64 o1)).setCell ⟨w.heap.size + 1 + 1, 1, none⟩ (.int .i64 o2) = W9 at B9 UZ ⊢
  have q0 := (B9 0 _ rfl).1
  have q1 := (B9 1 _ rfl).1
  refine bodyPost_ret (v := .tuple #[pt o1 o2, .int .i64 o3]) (by simp [results, Tryz.f40, go_sem, q0, q1]) rfl ?_
  exact ⟨rfl, UZ⟩
end Go.Proofs.YtdehnokcjnbjoaaGreat
