/- A load without pieces is not joined. -/
import Derived.Test.YtooochbfnmmnkaaGreatJoin
namespace Go.Proofs.YtooochbfnmmnkaaGreat
open Go.RowKit Go.Proofs.Gn
attribute [local go_sem] Oper.semAt_some
set_option linter.unusedVariables false
def JnE (E1 : Int) (s : Value) : Prop := s = .int .i64 0 ∨ (s = .int .i64 1 ∧ E1 = 0)
set_option maxRecDepth 100000 in
set_option maxHeartbeats 16000000 in
theorem p_JoinedE (P1 P2 : Option Addr) (p1 p2 : List Pce) (d1 d2 : Nat) (w : World) (h1 : Pcs w P1 p1) (h2 : Pcs w P2 p2) (hE : loE cgN p1 [] 300 = 6 ∨ (loE cgN p1 [] 300 = 0 ∧ loE cgN p2 [] 300 = 6)) (n1 : p1.length ≤ 4) (n2 : p2.length ≤ 4) :
    Calls Tryz.prog 13 #[loV cgN P1 p1.length d1 none 0 0 300, loV cgN P2 p2.length d2 none 0 0 300] w fun e w' => e = .returned (.tuple #[lo0V, .int .i64 6]) ∧ Up w w' := by
  have HC1 := hide (fun W (hW : Up w W) => p_checkC P1 p1 d1 W (pcs_up h1 hW) (by omega) _ rfl)
  have HC2 := hide (fun W (hW : Up w W) => p_checkC P2 p2 d2 W (pcs_up h2 hW) (by omega) _ rfl)
  generalize loE cgN p1 [] 300 = E1 at *
  generalize loE cgN p2 [] 300 = E2 at *
  obtain ⟨L1, hL1⟩ : ∃ n, p1.length = n := ⟨_, rfl⟩
  obtain ⟨L2, hL2⟩ : ∃ n, p2.length = n := ⟨_, rfl⟩
  rw [hL1] at HC1 ⊢
  rw [hL2] at HC2 ⊢
  have hi := fun W => (ix2L P1 P2 L1 L2 d1 d2 W).1
  have hj := fun W => (ix2L P1 P2 L1 L2 d1 d2 W).2
  clear h1 h2 hL1 hL2 n1 n2
  go_enter Tryz.func13, Tryz.ntmps13
  go_upto_region 1 with fail
  refine at_wpC (fun W0 hW0 => ?_)
  have U0 : Up w W0 := by rw [hW0]; exact (by repeat' (first | (with_reducible exact up_refl _) | (with_reducible assumption) | (with_reducible refine up_alloc ?_ _) | (with_reducible refine up_drewN ?_ _) | (with_reducible refine up_drew ?_) | (with_reducible refine up_set ?_ (by first | (simp; done) | (simp; omega) | omega) _) | (refine up_trans ?_ (by with_reducible assumption))))
  obtain ⟨bA, bB, bR⟩ : Bx W0 w.heap.size [.string cgN, .slice P1 L1 d1, .slice none 0 0, .int .i64 300] ∧ Bx W0 (w.heap.size + 1) [.string cgN, .slice P2 L2 d2, .slice none 0 0, .int .i64 300] ∧ Bx W0 (w.heap.size + 1 + 1) [.string { data := #[] }, .slice none 0 0, .slice none 0 0, .int .i64 0] := by
    rw [hW0]
    exact bx_two w _ _ _ _
  clear hW0
  have c0 := (bA 0 _ rfl).1
  have c1 := (bA 1 _ rfl).1
  have c2 := (bA 2 _ rfl).1
  have c3 := (bA 3 _ rfl).1
  have e0 := (bB 0 _ rfl).1
  have e1 := (bB 1 _ rfl).1
  have e2 := (bB 2 _ rfl).1
  have e3 := (bB 3 _ rfl).1
  go_upto_region 2 with fail
  clear c0 c1 c2 c3 e0 e1 e2 e3 bA bB
  have HR' := hide bR
  have HU0 := hide U0
  have HE := hide hE
  clear bR U0 hE
  go_loopw [12] (fun s12 wr => JnE E1 s12 ∧ Up W0 wr) (fun s12 _ => 2 - (intOf s12).toNat)
  case atStart => exact ⟨.inl rfl, up_refl _⟩
  case round =>
    obtain ⟨hs, hu⟩ := hrel
    rcases hs with rfl | ⟨rfl, hz⟩
    · have ii := hi wr
      go_upto_region 4 with fail
      refine at_wpC (fun W4 hW4 => ?_)
      have u4 : Up wr W4 := by rw [hW4]; exact (by repeat' (first | (with_reducible exact up_refl _) | (with_reducible assumption) | (with_reducible refine up_alloc ?_ _) | (with_reducible refine up_drewN ?_ _) | (with_reducible refine up_drew ?_) | (with_reducible refine up_set ?_ (by first | (simp; done) | (simp; omega) | omega) _) | (refine up_trans ?_ (by with_reducible assumption))))
      have b4 : Bx W4 wr.heap.size [.string cgN, .slice P1 L1 d1, .slice none 0 0, .int .i64 300] := by rw [hW4]; exact bx_new wr _ _
      clear hW4 ii
      have c0 := (b4 0 _ rfl).1
      have c1 := (b4 1 _ rfl).1
      have c2 := (b4 2 _ rfl).1
      have c3 := (b4 3 _ rfl).1
      have u04 := up_trans (up_trans (unhide HU0) hu) u4
      rcases unhide HE with h6 | ⟨h0, h6⟩
      · rw [h6] at HC1
        go_wp2_with (go_at_call 23; (with_reducible refine (unhide HC1 _ u04).mono ?_); rintro e w5 ⟨rfl, u5⟩; have bR5 := bx_up (unhide HR') (up_trans (up_trans hu u4) u5); have f0 := (bR5 0 _ rfl).2; have f1 := (bR5 1 _ rfl).2; have f2 := (bR5 2 _ rfl).2; have f3 := (bR5 3 _ rfl).2; have g0 := (bR5 0 _ rfl).1; have g1 := (bR5 1 _ rfl).1; have g2 := (bR5 2 _ rfl).1; have g3 := (bR5 3 _ rfl).1)
        have B9 := bx_set (bx_set (bx_set (bx_set bR5 0 (.string { data := #[] })) 1 (.slice none 0 0)) 2 (.slice none 0 0)) 3 (.int .i64 0)
        have U9 : Up w ((((w5.setCell ⟨w.heap.size + 1 + 1, 0, none⟩ (.string { data := #[] })).setCell ⟨w.heap.size + 1 + 1, 1, none⟩ (.slice none 0 0)).setCell ⟨w.heap.size + 1 + 1, 2, none⟩ (.slice none 0 0)).setCell ⟨w.heap.size + 1 + 1, 3, none⟩ (.int .i64 0)) := up_set (up_set (up_set (up_set (up_trans u04 u5) (by simp only; omega) _) (by simp only; omega) _) (by simp only; omega) _) (by simp only; omega) _
        generalize (((w5.setCell ⟨w.heap.size + 1 + 1, 0, none⟩ (.string { data := #[] })).setCell ⟨w.heap.size + 1 + 1, 1, none⟩ (.slice none 0 0)).setCell ⟨w.heap.size + 1 + 1, 2, none⟩ (.slice none 0 0)).setCell ⟨w.heap.size + 1 + 1, 3, none⟩ (.int .i64 0) = W9 at B9 U9 ⊢
        have z0 := (B9 0 _ rfl).1
        have z1 := (B9 1 _ rfl).1
        have z2 := (B9 2 _ rfl).1
        have z3 := (B9 3 _ rfl).1
        refine bodyPost_ret (v := .tuple #[lo0V, .int .i64 6]) (by simp [results, Tryz.f13, go_sem, z0, z1, z2, z3]) rfl ?_
        exact ⟨rfl, U9⟩
      · have HZ := hide h0
        rw [h0] at HC1
        clear h0 h6
        go_wp2_with (go_at_call 23; (with_reducible refine (unhide HC1 _ u04).mono ?_); rintro e w5 ⟨rfl, u5⟩)
        go_roundw
        case rel => exact ⟨.inr ⟨rfl, unhide HZ⟩, up_trans (up_trans hu u4) u5⟩
        case measure => simp [intOf]
    · have ii := hj wr
      have h6 : E2 = 6 := by
        rcases unhide HE with h | h
        · omega
        · exact h.2
      rw [h6] at HC2
      clear hz h6
      go_upto_region 4 with fail
      refine at_wpC (fun W4 hW4 => ?_)
      have u4 : Up wr W4 := by rw [hW4]; exact (by repeat' (first | (with_reducible exact up_refl _) | (with_reducible assumption) | (with_reducible refine up_alloc ?_ _) | (with_reducible refine up_drewN ?_ _) | (with_reducible refine up_drew ?_) | (with_reducible refine up_set ?_ (by first | (simp; done) | (simp; omega) | omega) _) | (refine up_trans ?_ (by with_reducible assumption))))
      have b4 : Bx W4 wr.heap.size [.string cgN, .slice P2 L2 d2, .slice none 0 0, .int .i64 300] := by rw [hW4]; exact bx_new wr _ _
      clear hW4 ii
      have c0 := (b4 0 _ rfl).1
      have c1 := (b4 1 _ rfl).1
      have c2 := (b4 2 _ rfl).1
      have c3 := (b4 3 _ rfl).1
      have u04 := up_trans (up_trans (unhide HU0) hu) u4
      go_wp2_with (go_at_call 23; (with_reducible refine (unhide HC2 _ u04).mono ?_); rintro e w5 ⟨rfl, u5⟩; have bR5 := bx_up (unhide HR') (up_trans (up_trans hu u4) u5); have f0 := (bR5 0 _ rfl).2; have f1 := (bR5 1 _ rfl).2; have f2 := (bR5 2 _ rfl).2; have f3 := (bR5 3 _ rfl).2; have g0 := (bR5 0 _ rfl).1; have g1 := (bR5 1 _ rfl).1; have g2 := (bR5 2 _ rfl).1; have g3 := (bR5 3 _ rfl).1)
      have B9 := bx_set (bx_set (bx_set (bx_set bR5 0 (.string { data := #[] })) 1 (.slice none 0 0)) 2 (.slice none 0 0)) 3 (.int .i64 0)
      have U9 : Up w ((((w5.setCell ⟨w.heap.size + 1 + 1, 0, none⟩ (.string { data := #[] })).setCell ⟨w.heap.size + 1 + 1, 1, none⟩ (.slice none 0 0)).setCell ⟨w.heap.size + 1 + 1, 2, none⟩ (.slice none 0 0)).setCell ⟨w.heap.size + 1 + 1, 3, none⟩ (.int .i64 0)) := up_set (up_set (up_set (up_set (up_trans u04 u5) (by simp only; omega) _) (by simp only; omega) _) (by simp only; omega) _) (by simp only; omega) _
      generalize (((w5.setCell ⟨w.heap.size + 1 + 1, 0, none⟩ (.string { data := #[] })).setCell ⟨w.heap.size + 1 + 1, 1, none⟩ (.slice none 0 0)).setCell ⟨w.heap.size + 1 + 1, 2, none⟩ (.slice none 0 0)).setCell ⟨w.heap.size + 1 + 1, 3, none⟩ (.int .i64 0) = W9 at B9 U9 ⊢
      have z0 := (B9 0 _ rfl).1
      have z1 := (B9 1 _ rfl).1
      have z2 := (B9 2 _ rfl).1
      have z3 := (B9 3 _ rfl).1
      refine bodyPost_ret (v := .tuple #[lo0V, .int .i64 6]) (by simp [results, Tryz.f13, go_sem, z0, z1, z2, z3]) rfl ?_
      exact ⟨rfl, U9⟩
end Go.Proofs.YtooochbfnmmnkaaGreat
