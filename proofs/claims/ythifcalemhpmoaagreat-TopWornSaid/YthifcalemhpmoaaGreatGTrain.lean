/- The train of the carrier with a load: goosenecktop.train. -/
import Derived.Test.YthifcalemhpmoaaGreatTrain
import Derived.Test.YthifcalemhpmoaaGreatTogM
import Derived.Test.YthifcalemhpmoaaGreatPkBrMm
namespace Go.Proofs.YthifcalemhpmoaaGreat
open Go.RowKit Go.Proofs.Gn
attribute [local go_sem] Oper.semAt_some
set_option linter.unusedVariables false
theorem cr1_0 (m : Int) : cra0 1 m 3000 = 4500 := by
  unfold cra0
  rw [if_neg (by decide)]
  decide
theorem cr1_1 (m : Int) : cra1 1 m 3000 = cei (7000 + m) 3 := by
  unfold cra1
  rw [if_neg (by decide)]
theorem cei_bd {m : Int} (hm : 1 ≤ m ∧ m ≤ 32000) : 2333 ≤ cei (7000 + m) 3 ∧ cei (7000 + m) 3 ≤ 13000 := by
  unfold cei
  omega
theorem cei_le {m m' : Int} (h : m' ≤ m) : cei (7000 + m') 3 ≤ cei (7000 + m) 3 := by
  unfold cei
  omega
set_option maxRecDepth 100000 in
set_option maxHeartbeats 8000000 in
theorem p_gtrain (L : List Pce) (P : Option Addr) (cp : Nat) (w : World) (h : Pcs w P L) (hn : L.length ≤ 100) (hE : loE cgN L [] 300 = 0) (hm : 1 ≤ mas L ∧ mas L ≤ 32000) (hk : cei (7000 + mas L) 3 ≤ 12000) :
    Calls Tryz.prog 11 #[loV cgN P L.length cp none 0 0 300] w fun e w' => (∃ T c, e = .returned (.tuple #[.slice T 5 c, .int .i64 (mas L), .bool true]) ∧ Frs w' T (trF 4500 (cei (7000 + mas L) 3))) ∧ Up w w' := by
  have HM := hide (fun W (hW : Up w W) => p_massG L P cp W (pcs_up h hW) hn hE)
  have HA := hide (fun C A B W (hC : Unts W C (crU A B)) => by
    have q := p_crAx C A B 1 (mas L) 3000 (.inr rfl) hm (by omega) (by rw [cr1_0, cr1_1]; omega) W hC
    rw [cr1_0, cr1_1] at q
    exact q)
  have HC := hide (fun W => p_carrier W)
  have hb := cei_bd hm
  have HT := hide (fun C A B D cD W (hC : Unts W C (crU A B)) (hD : Ints W D [4500, cei (7000 + mas L) 3]) => p_Train C A B D 4500 (cei (7000 + mas L) 3) cD W hC hD (by omega) (by omega))
  generalize cei (7000 + mas L) 3 = K at *
  generalize mas L = m at *
  generalize L.length = n at *
  clear h hE hb hk
  go_enter Tryz.func11, Tryz.ntmps11
  go_upto_region 1 with fail
  refine at_wpC (fun W0 hW0 => ?_)
  have U0 : Up w W0 := by rw [hW0]; exact (by repeat' (first | (with_reducible exact up_refl _) | (with_reducible assumption) | (with_reducible refine up_alloc ?_ _) | (with_reducible refine up_drewN ?_ _) | (with_reducible refine up_drew ?_) | (with_reducible refine up_set ?_ (by first | (simp; done) | (simp; omega) | omega) _) | (refine up_trans ?_ (by with_reducible assumption))))
  have bX : Bx W0 w.heap.size [.string cgN, .slice P n cp, .slice none 0 0, .int .i64 300] := by rw [hW0]; exact bx_new w _ _
  clear hW0
  have c0 := (bX 0 _ rfl).1
  have c1 := (bX 1 _ rfl).1
  have c2 := (bX 2 _ rfl).1
  have c3 := (bX 3 _ rfl).1
  go_upto_region 4 with (go_at_call 10; (with_reducible refine (unhide HM _ U0).mono ?_); rintro e w1 ⟨rfl, u1⟩)
  have U1 := up_trans U0 u1
  clear c0 c1 c2 c3 bX U0 u1 HM
  go_upto_region 7 with (first
    | (go_at_call 20; (with_reducible refine (unhide HC _).mono ?_); rintro e w2 ⟨⟨C, A, B, rfl, hC⟩, u2⟩)
    | (go_at_call 28; (with_reducible refine (unhide HA _ _ _ _ hC).mono ?_); rintro e w3 ⟨⟨D, cD, rfl, hD⟩, u3⟩))
  have U3 := up_trans U1 (up_trans u2 u3)
  clear hC u2 u3 U1 HA
  go_upto_region 8 with (first
    | (go_at_call 20; (with_reducible refine (unhide HC _).mono ?_); rintro e w4 ⟨⟨C', A', B', rfl, hC'⟩, u4⟩)
    | (go_at_call 29; (with_reducible refine (unhide HT _ _ _ _ _ _ hC' (ints_up hD u4)).mono ?_); rintro e w5 ⟨⟨T, c, rfl, hT⟩, u5⟩))
  have U5 := up_trans U3 (up_trans u4 u5)
  go_wp2_with fail
  refine bodyPost_ret (v := .tuple #[.slice T 5 c, .int .i64 m, .bool true]) (by simp [results, Tryz.f11, go_sem]) rfl ?_
  exact ⟨⟨T, c, rfl, hT⟩, U5⟩
set_option maxRecDepth 100000 in
set_option maxHeartbeats 8000000 in
theorem p_gtrainN (L : List Pce) (P : Option Addr) (cp : Nat) (w : World) (h : Pcs w P L) (hn : L.length ≤ 100) (hE : loE cgN L [] 300 = 0) (hm : 1 ≤ mas L ∧ mas L ≤ 32000) (hk : ¬ cei (7000 + mas L) 3 ≤ 12000) :
    Calls Tryz.prog 11 #[loV cgN P L.length cp none 0 0 300] w fun e w' => e = .returned (.tuple #[.slice none 0 0, .int .i64 0, .bool false]) ∧ Up w w' := by
  have HM := hide (fun W (hW : Up w W) => p_massG L P cp W (pcs_up h hW) hn hE)
  have HA := hide (fun C A B W (hC : Unts W C (crU A B)) => p_crAxN C A B 1 (mas L) 3000 (.inr rfl) hm (by omega) (by rw [cr1_0, cr1_1]; omega) W hC)
  have HC := hide (fun W => p_carrier W)
  generalize mas L = m at *
  generalize L.length = n at *
  clear h hE hk
  go_enter Tryz.func11, Tryz.ntmps11
  go_upto_region 1 with fail
  refine at_wpC (fun W0 hW0 => ?_)
  have U0 : Up w W0 := by rw [hW0]; exact (by repeat' (first | (with_reducible exact up_refl _) | (with_reducible assumption) | (with_reducible refine up_alloc ?_ _) | (with_reducible refine up_drewN ?_ _) | (with_reducible refine up_drew ?_) | (with_reducible refine up_set ?_ (by first | (simp; done) | (simp; omega) | omega) _) | (refine up_trans ?_ (by with_reducible assumption))))
  have bX : Bx W0 w.heap.size [.string cgN, .slice P n cp, .slice none 0 0, .int .i64 300] := by rw [hW0]; exact bx_new w _ _
  clear hW0
  have c0 := (bX 0 _ rfl).1
  have c1 := (bX 1 _ rfl).1
  have c2 := (bX 2 _ rfl).1
  have c3 := (bX 3 _ rfl).1
  go_upto_region 4 with (go_at_call 10; (with_reducible refine (unhide HM _ U0).mono ?_); rintro e w1 ⟨rfl, u1⟩)
  have U1 := up_trans U0 u1
  clear c0 c1 c2 c3 bX U0 u1 HM
  go_wp2_with (first
    | (go_at_call 20; (with_reducible refine (unhide HC _).mono ?_); rintro e w2 ⟨⟨C, A, B, rfl, hC⟩, u2⟩)
    | (go_at_call 28; (with_reducible refine (unhide HA _ _ _ _ hC).mono ?_); rintro e w3 ⟨⟨D, cD, rfl⟩, u3⟩))
  refine bodyPost_ret (v := .tuple #[.slice none 0 0, .int .i64 0, .bool false]) (by simp [results, Tryz.f11, go_sem]) rfl ?_
  exact ⟨rfl, up_trans U1 (up_trans u2 u3)⟩
set_option maxRecDepth 100000 in
set_option maxHeartbeats 8000000 in
theorem p_gtrain0 (P : Option Addr) (cp : Nat) (w : World) :
    Calls Tryz.prog 11 #[loV cgN P 0 cp none 0 0 300] w fun e w' => e = .returned (.tuple #[.slice none 0 0, .int .i64 0, .bool false]) ∧ Up w w' := by
  have HM := hide (fun W => p_massC0 P cp W)
  go_enter Tryz.func11, Tryz.ntmps11
  go_upto_region 1 with fail
  refine at_wpC (fun W0 hW0 => ?_)
  have U0 : Up w W0 := by rw [hW0]; exact (by repeat' (first | (with_reducible exact up_refl _) | (with_reducible assumption) | (with_reducible refine up_alloc ?_ _) | (with_reducible refine up_drewN ?_ _) | (with_reducible refine up_drew ?_) | (with_reducible refine up_set ?_ (by first | (simp; done) | (simp; omega) | omega) _) | (refine up_trans ?_ (by with_reducible assumption))))
  have bX : Bx W0 w.heap.size [.string cgN, .slice P 0 cp, .slice none 0 0, .int .i64 300] := by rw [hW0]; exact bx_new w _ _
  clear hW0
  have c0 := (bX 0 _ rfl).1
  have c1 := (bX 1 _ rfl).1
  have c2 := (bX 2 _ rfl).1
  have c3 := (bX 3 _ rfl).1
  go_wp2_with (go_at_call 10; (with_reducible refine (unhide HM _).mono ?_); rintro e w1 ⟨rfl, u1⟩)
  refine bodyPost_ret (v := .tuple #[.slice none 0 0, .int .i64 0, .bool false]) (by simp [results, Tryz.f11, go_sem]) rfl ?_
  exact ⟨rfl, up_trans U0 u1⟩
end Go.Proofs.YthifcalemhpmoaaGreat
