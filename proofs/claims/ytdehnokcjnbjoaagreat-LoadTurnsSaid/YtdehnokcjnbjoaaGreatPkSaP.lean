/- samePoints of two lists that are the same; moments of the document. The document's moments and centre of a load. sameLoad of two loads that are the same. goosenecklaw02.known. -/
import Derived.Test.YtdehnokcjnbjoaaGreatLdP
import Derived.Test.YtdehnokcjnbjoaaGreatLdX
import Derived.Test.YtdehnokcjnbjoaaGreatPkLdV
import Derived.Test.YtdehnokcjnbjoaaGreatPkOpenLoad
import Derived.Test.YtdehnokcjnbjoaaGreatPkRefDown
namespace Go.Proofs.YtdehnokcjnbjoaaGreat
open Go.RowKit Go.Proofs.Gn
attribute [local go_sem] Oper.semAt_some
set_option linter.unusedVariables false
theorem eqL3 (a b c a' b' c' : Int) (w : World) : (Op.equalIn 10000 31 (.agg #[.int .i64 a, .int .i64 b, .int .i64 c]) (.agg #[.int .i64 a', .int .i64 b', .int .i64 c'])).run Tryz.prog w = .ok (a == a' && (b == b' && c == c')) w := by
  unfold Op.equalIn
  simp [run_underlying Tryz.underlying31, go_sem]
  rw [show List.range' 0 3 = [0, 1, 2] from rfl]
  by_cases h0 : a = a' <;> by_cases h1 : b = b' <;> by_cases h2 : c = c' <;> simp [h0, h1, h2, go_sem, Tryz.isAgg2]
theorem eqL3_same (a b c : Int) (w : World) : (Op.equalIn 10000 31 (.agg #[.int .i64 a, .int .i64 b, .int .i64 c]) (.agg #[.int .i64 a, .int .i64 b, .int .i64 c])).run Tryz.prog w = .ok true w := by
  rw [eqL3]; simp
set_option maxRecDepth 100000 in
set_option maxHeartbeats 16000000 in
theorem p_knownL (w : World) :
    Calls Tryz.prog 9 #[] w fun e w' => e = .returned (.bool true) ∧ Up w w' := by
  have HE := hide (fun W => p_ExL W)
  have HM := hide (fun A B W (hA : Pcs W A exPs) (hB : Eyes W B exYs) => (show Calls Tryz.prog 10 #[loV exN A 2 2 B 2 2 300] W fun e w' => e = .returned (.tuple #[.int .i64 5000, .int .i64 0]) ∧ Up W w' from by
    have q := p_MassL exN A exPs 2 B exYs 2 300 W hA hB (by simp [exPs]) (by simp [exYs])
    unfold loM at q
    rw [ex_E, if_pos rfl, ex_M] at q
    exact q))
  have HC := hide (fun A B W (hA : Pcs W A exPs) (hB : Eyes W B exYs) => (show Calls Tryz.prog 14 #[loV exN A 2 2 B 2 2 300] W fun e w' => e = .returned (.tuple #[.agg #[.int .i64 900, .int .i64 500, .int .i64 650], .int .i64 0]) ∧ Up W w' from by
    have q := p_CentreL exN A exPs 2 B exYs 2 300 W hA hB (by simp [exPs]) (by simp [exYs])
    unfold loC at q
    simp only [ex_E, if_true, ex_C.1, ex_C.2.1, ex_C.2.2] at q
    exact q))
  have HS := hide (fun A B W (hA : Pcs W A exPs) (hB : Eyes W B exYs) => (show Calls Tryz.prog 40 #[loV exN A 2 2 B 2 2 300, .slice none 0 0, shV 301] W fun e w' => e = .returned (.tuple #[pt 1060 (-440), .int .i64 20]) ∧ Up W w' from by
    have q := p_HoldH exN A exPs 2 B exYs 2 301 W hA hB (by simp [exPs]) (by simp [exYs]) ex_E ex_M (by omega)
    rw [show (5000 * (301 : Int) + 999) / 1000 = 1505 by decide, hoF_slips] at q
    exact q))
  have HH := hide (fun A B W (hA : Pcs W A exPs) (hB : Eyes W B exYs) => (show Calls Tryz.prog 40 #[loV exN A 2 2 B 2 2 300, .slice none 0 0, shV 300] W fun e w' => e = .returned (.tuple #[pt 0 0, .int .i64 0]) ∧ Up W w' from by
    have q := p_HoldH exN A exPs 2 B exYs 2 300 W hA hB (by simp [exPs]) (by simp [exYs]) ex_E ex_M (by omega)
    rw [show (5000 * (300 : Int) + 999) / 1000 = 1500 by decide, hoF_holds] at q
    exact q))
  go_enter Tryz.func9, Tryz.ntmps9
  go_upto_region 2 with (go_at_call 50; (with_reducible refine (unhide HE _).mono ?_); rintro e w1 ⟨⟨A, B, rfl, hA, hB⟩, U1⟩)
  refine at_wpC (fun W2 hW2 => ?_)
  have u2 : Up w1 W2 := by rw [hW2]; exact (by repeat' (first | (with_reducible exact up_refl _) | (with_reducible assumption) | (with_reducible refine up_alloc ?_ _) | (with_reducible refine up_drewN ?_ _) | (with_reducible refine up_drew ?_) | (with_reducible refine up_set ?_ (by first | (simp; done) | (simp; omega) | omega) _) | (refine up_trans ?_ (by with_reducible assumption))))
  have bL : Bx W2 w1.heap.size [.string exN, .slice A 2 2, .slice B 2 2, .int .i64 300] := by rw [hW2]; exact bx_new w1 _ _
  have hA2 := pcs_up hA u2
  have hB2 := eyes_up hB u2
  have U2 := up_trans U1 u2
  clear hW2 hA hB U1 u2
  generalize w1.heap.size = gL at *
  have s0 := bx_cell bL (k := 0) rfl
  have s1 := bx_cell bL (k := 1) rfl
  have s2 := bx_cell bL (k := 2) rfl
  have s3 := bx_cell bL (k := 3) rfl
  go_upto_region 3 with (go_at_call 10; (with_reducible refine (unhide HM A B _ hA2 hB2).mono ?_); rintro e w3 ⟨rfl, u3⟩; have bL3 := bx_up bL u3; have hA3 := pcs_up hA2 u3; have hB3 := eyes_up hB2 u3; have U3 := up_trans U2 u3)
  clear s0 s1 s2 s3 bL hA2 hB2 U2 u3
  have s0 := bx_cell bL3 (k := 0) rfl
  have s1 := bx_cell bL3 (k := 1) rfl
  have s2 := bx_cell bL3 (k := 2) rfl
  have s3 := bx_cell bL3 (k := 3) rfl
  go_upto_region 4 with (go_at_call 14; (with_reducible refine (unhide HC A B _ hA3 hB3).mono ?_); rintro e w4 ⟨rfl, u4⟩)
  refine at_wpC (fun W5 hW5 => ?_)
  have u5 : Up w3 W5 := by rw [hW5]; exact (by repeat' (first | (with_reducible exact up_refl _) | (with_reducible assumption) | (with_reducible refine up_alloc ?_ _) | (with_reducible refine up_drewN ?_ _) | (with_reducible refine up_drew ?_) | (with_reducible refine up_set ?_ (by first | (simp; done) | (simp; omega) | omega) _) | (refine up_trans ?_ (by with_reducible assumption))))
  have bC : Bx W5 w4.heap.size [.int .i64 900, .int .i64 500, .int .i64 650] := by rw [hW5]; exact bx_new w4 _ _
  have bL5 := bx_up bL3 u5
  have hA5 := pcs_up hA3 u5
  have hB5 := eyes_up hB3 u5
  have U5 := up_trans U3 u5
  clear hW5 s0 s1 s2 s3 bL3 hA3 hB3 U3 u4 u5
  generalize w4.heap.size = gC at *
  have s0 := bx_cell bL5 (k := 0) rfl
  have s1 := bx_cell bL5 (k := 1) rfl
  have s2 := bx_cell bL5 (k := 2) rfl
  have s3 := bx_cell bL5 (k := 3) rfl
  go_upto_region 5 with (go_at_call 40; (with_reducible refine (unhide HS A B _ hA5 hB5).mono ?_); rintro e w6 ⟨rfl, u6⟩)
  refine at_wpC (fun W7 hW7 => ?_)
  have u7 : Up W5 W7 := by rw [hW7]; exact (by repeat' (first | (with_reducible exact up_refl _) | (with_reducible assumption) | (with_reducible refine up_alloc ?_ _) | (with_reducible refine up_drewN ?_ _) | (with_reducible refine up_drew ?_) | (with_reducible refine up_set ?_ (by first | (simp; done) | (simp; omega) | omega) _) | (refine up_trans ?_ (by with_reducible assumption))))
  have bN : Bx W7 w6.heap.size [.int .i64 1060, .int .i64 (-440)] := by rw [hW7]; exact bx_new w6 _ _
  have bL7 := bx_up bL5 u7
  have bC7 := bx_up bC u7
  have hA7 := pcs_up hA5 u7
  have hB7 := eyes_up hB5 u7
  have U7 := up_trans U5 u7
  clear hW7 s0 s1 s2 s3 bL5 bC hA5 hB5 U5 u6 u7
  generalize w6.heap.size = gN at *
  have s0 := bx_cell bL7 (k := 0) rfl
  have s1 := bx_cell bL7 (k := 1) rfl
  have s2 := bx_cell bL7 (k := 2) rfl
  have s3 := bx_cell bL7 (k := 3) rfl
  go_upto_region 6 with (go_at_call 40; (with_reducible refine (unhide HH A B _ hA7 hB7).mono ?_); rintro e w8 ⟨rfl, u8⟩)
  refine at_wpC (fun W9 hW9 => ?_)
  have u9 : Up W7 W9 := by rw [hW9]; exact (by repeat' (first | (with_reducible exact up_refl _) | (with_reducible assumption) | (with_reducible refine up_alloc ?_ _) | (with_reducible refine up_drewN ?_ _) | (with_reducible refine up_drew ?_) | (with_reducible refine up_set ?_ (by first | (simp; done) | (simp; omega) | omega) _) | (refine up_trans ?_ (by with_reducible assumption))))
  have bN9 := bx_up bN u9
  have bC9 := bx_up bC7 u9
  have U9 := up_trans U7 u9
  clear hW9 s0 s1 s2 s3 bL7 bC7 hA7 hB7 U7 u8 u9
  have c0 := bx_cell bC9 (k := 0) rfl
  have c1 := bx_cell bC9 (k := 1) rfl
  have c2 := bx_cell bC9 (k := 2) rfl
  have n0 := bx_cell bN9 (k := 0) rfl
  have n1 := bx_cell bN9 (k := 1) rfl
  have e3 := fun a b c W => eqL3_same a b c W
  go_wp2_with fail
  go_ret
  exact ⟨rfl, U9⟩
end Go.Proofs.YtdehnokcjnbjoaaGreat
namespace Go.Proofs.YtdehnokcjnbjoaaGreat
open Go.RowKit Go.Proofs.Gn
attribute [local go_sem] Oper.semAt_some
set_option linter.unusedVariables false
theorem pcs_two {W : World} {A : Option Addr} {ps : List Pce} (h : Pcs W A ps) (k : Nat) (hk : k < ps.length) : ∃ b off, A = some ⟨b, off, none⟩ ∧ ∀ W', Up W W' → PceAt W' b (off + k * 7) ps[k] := by
  rcases h with h | ⟨b, off, e, hc⟩
  · rw [h] at hk; simp at hk
  · exact ⟨b, off, e, fun W' hu => pceAt_up (hc k hk) hu⟩
theorem eyes_two {W : World} {A : Option Addr} {ys : List Eye} (h : Eyes W A ys) (k : Nat) (hk : k < ys.length) : ∃ b off, A = some ⟨b, off, none⟩ ∧ ∀ W', Up W W' → EyeAt W' b (off + k * 4) ys[k] := by
  rcases h with h | ⟨b, off, e, hc⟩
  · rw [h] at hk; simp at hk
  · exact ⟨b, off, e, fun W' hu => eyeAt_up (hc k hk) hu⟩
set_option maxRecDepth 100000 in
set_option maxHeartbeats 8000000 in
theorem l_sameLoad (s : ByteArray) (A : Option Addr) (ps : List Pce) (cA : Nat) (B : Option Addr) (ys : List Eye) (cB : Nat) (f : Int) (A' : Option Addr) (cA' : Nat) (B' : Option Addr) (cB' : Nat) (w : World)
    (hA : Pcs w A ps) (hB : Eyes w B ys) (hA' : Pcs w A' ps) (hB' : Eyes w B' ys) (hn : ps.length ≤ 100) (hm : ys.length ≤ 100) :
    Calls Tryz.prog 47 #[loV s A ps.length cA B ys.length cB f, loV s A' ps.length cA' B' ys.length cB' f] w fun e w' => e = .returned (.bool true) ∧ Up w w' := by
  have HL := hide (show ∀ (k : Nat), k < ps.length → ∃ b off b2 off2 q, A = some ⟨b, off, none⟩ ∧ A' = some ⟨b2, off2, none⟩ ∧ ∀ W, Up w W → PceAt W b (off + k * 7) q ∧ PceAt W b2 (off2 + k * 7) q from fun k hk => by
    obtain ⟨b, off, e, h⟩ := pcs_two hA k hk
    obtain ⟨b2, off2, e2, h2⟩ := pcs_two hA' k hk
    exact ⟨b, off, b2, off2, ps[k], e, e2, fun W hW => ⟨h W hW, h2 W hW⟩⟩)
  have HM := hide (show ∀ (k : Nat), k < ys.length → ∃ b off b2 off2 q, B = some ⟨b, off, none⟩ ∧ B' = some ⟨b2, off2, none⟩ ∧ ∀ W, Up w W → EyeAt W b (off + k * 4) q ∧ EyeAt W b2 (off2 + k * 4) q from fun k hk => by
    obtain ⟨b, off, e, h⟩ := eyes_two hB k hk
    obtain ⟨b2, off2, e2, h2⟩ := eyes_two hB' k hk
    exact ⟨b, off, b2, off2, ys[k], e, e2, fun W hW => ⟨h W hW, h2 W hW⟩⟩)
  clear hA hB hA' hB'
  generalize ps.length = n at *
  generalize ys.length = m at *
  have t0 : ((n : Int) == (n : Int)) = true := by simp
  have t1 : ((m : Int) == (m : Int)) = true := by simp
  have t2 : (f == f) = true := by simp
  go_enter Tryz.func47, Tryz.ntmps47
  go_upto_region 1 with fail
  refine at_wpC (fun W0 hW0 => ?_)
  have U0 : Up w W0 := by rw [hW0]; exact (by repeat' (first | (with_reducible exact up_refl _) | (with_reducible assumption) | (with_reducible refine up_alloc ?_ _) | (with_reducible refine up_drewN ?_ _) | (with_reducible refine up_drew ?_) | (with_reducible refine up_set ?_ (by first | (simp; done) | (simp; omega) | omega) _) | (refine up_trans ?_ (by with_reducible assumption))))
  obtain ⟨bA, bB⟩ : Bx W0 w.heap.size [.string s, .slice A n cA, .slice B m cB, .int .i64 f] ∧ Bx W0 (w.heap.size + 1) [.string s, .slice A' n cA', .slice B' m cB', .int .i64 f] := by
    rw [hW0]
    refine ⟨bx_alloc (bx_new w _ _) _, ?_⟩
    have q := bx_new (w.alloc (.cells #[.string s, .slice A n cA, .slice B m cB, .int .i64 f] 25)) [.string s, .slice A' n cA', .slice B' m cB', .int .i64 f] 25
    rw [World.size_alloc] at q
    exact q
  clear hW0
  have a0 := (bA 0 _ rfl).1
  have a1 := (bA 1 _ rfl).1
  have a2 := (bA 2 _ rfl).1
  have a3 := (bA 3 _ rfl).1
  have b0 := (bB 0 _ rfl).1
  have b1 := (bB 1 _ rfl).1
  have b2 := (bB 2 _ rfl).1
  have b3 := (bB 3 _ rfl).1
  go_upto_region 4 with fail
  clear a0 a1 a2 a3 b0 b1 b2 b3
  go_loopw [5] (fun s5 wr => ∃ k : Nat, k ≤ n ∧ s5 = .int .i64 k ∧ Bx wr w.heap.size [.string s, .slice A n cA, .slice B m cB, .int .i64 f] ∧ Bx wr (w.heap.size + 1) [.string s, .slice A' n cA', .slice B' m cB', .int .i64 f] ∧ Up w wr) (fun s5 _ => n - (intOf s5).toNat)
  case atStart => exact ⟨0, by omega, rfl, bA, bB, U0⟩
  case round =>
    clear bA bB U0
    obtain ⟨k, hk, rfl, bA, bB, hu⟩ := hrel
    by_cases hlt : k < n
    · obtain ⟨b, off, b2, off2, q, rfl, rfl, hc⟩ := unhide HL k hlt
      obtain ⟨px, py, pz, pl, pw, ph, pm⟩ := q
      have i0 : (0 : Int) ≤ (k : Int) := by omega
      have i1 : (k : Int) < (n : Int) := by omega
      have i3 : (k : Int).toNat = k := by omega
      have hwk : IntKind.i64.wrap ((k : Int) + 1) = (k : Int) + 1 := IntWalk.i64_in _ ⟨by omega, by omega⟩
      have qA : ∀ r : UpW wr, r.v.cell? ⟨w.heap.size, 1, none⟩ = some (.slice (some ⟨b, off, none⟩) n cA) := fun r => (bx_up bA r.up 1 _ rfl).1
      have qB : ∀ r : UpW wr, r.v.cell? ⟨w.heap.size + 1, 1, none⟩ = some (.slice (some ⟨b2, off2, none⟩) n cA') := fun r => (bx_up bB r.up 1 _ rfl).1
      have Q0 : ∀ r : UpW wr, r.v.cell? ⟨b, off + k * 7, none⟩ = some (.int .i64 px) := fun r => (hc _ (up_trans hu r.up)).1.1
      have Q1 : ∀ r : UpW wr, r.v.cell? ⟨b, off + k * 7 + 1, none⟩ = some (.int .i64 py) := fun r => (hc _ (up_trans hu r.up)).1.2.1
      have Q2 : ∀ r : UpW wr, r.v.cell? ⟨b, off + k * 7 + 2, none⟩ = some (.int .i64 pz) := fun r => (hc _ (up_trans hu r.up)).1.2.2.1
      have Q3 : ∀ r : UpW wr, r.v.cell? ⟨b, off + k * 7 + 3, none⟩ = some (.int .i64 pl) := fun r => (hc _ (up_trans hu r.up)).1.2.2.2.1
      have Q4 : ∀ r : UpW wr, r.v.cell? ⟨b, off + k * 7 + 4, none⟩ = some (.int .i64 pw) := fun r => (hc _ (up_trans hu r.up)).1.2.2.2.2.1
      have Q5 : ∀ r : UpW wr, r.v.cell? ⟨b, off + k * 7 + 5, none⟩ = some (.int .i64 ph) := fun r => (hc _ (up_trans hu r.up)).1.2.2.2.2.2.1
      have Q6 : ∀ r : UpW wr, r.v.cell? ⟨b, off + k * 7 + 6, none⟩ = some (.int .i64 pm) := fun r => (hc _ (up_trans hu r.up)).1.2.2.2.2.2.2
      have R0 : ∀ r : UpW wr, r.v.cell? ⟨b2, off2 + k * 7, none⟩ = some (.int .i64 px) := fun r => (hc _ (up_trans hu r.up)).2.1
      have R1 : ∀ r : UpW wr, r.v.cell? ⟨b2, off2 + k * 7 + 1, none⟩ = some (.int .i64 py) := fun r => (hc _ (up_trans hu r.up)).2.2.1
      have R2 : ∀ r : UpW wr, r.v.cell? ⟨b2, off2 + k * 7 + 2, none⟩ = some (.int .i64 pz) := fun r => (hc _ (up_trans hu r.up)).2.2.2.1
      have R3 : ∀ r : UpW wr, r.v.cell? ⟨b2, off2 + k * 7 + 3, none⟩ = some (.int .i64 pl) := fun r => (hc _ (up_trans hu r.up)).2.2.2.2.1
      have R4 : ∀ r : UpW wr, r.v.cell? ⟨b2, off2 + k * 7 + 4, none⟩ = some (.int .i64 pw) := fun r => (hc _ (up_trans hu r.up)).2.2.2.2.2.1
      have R5 : ∀ r : UpW wr, r.v.cell? ⟨b2, off2 + k * 7 + 5, none⟩ = some (.int .i64 ph) := fun r => (hc _ (up_trans hu r.up)).2.2.2.2.2.2.1
      have R6 : ∀ r : UpW wr, r.v.cell? ⟨b2, off2 + k * 7 + 6, none⟩ = some (.int .i64 pm) := fun r => (hc _ (up_trans hu r.up)).2.2.2.2.2.2.2
      have x0 : (px == px) = true := by simp
      have x1 : (py == py) = true := by simp
      have x2 : (pz == pz) = true := by simp
      have x3 : (pl == pl) = true := by simp
      have x4 : (pw == pw) = true := by simp
      have x5 : (ph == ph) = true := by simp
      have x6 : (pm == pm) = true := by simp
      clear hc
      have c1 := (bA 1 _ rfl).1
      go_upto_region 6 with fail
      clear c1
      refine wp_upq (by kernel_rfl) (by kernel_rfl) ?_; (repeat (go_big_quiet_step (fail))); refine wpQuiet_nil ?_; intro _ hw'; obtain ⟨pq, hw''⟩ := hw'; subst hw''; have hpq := pq.up
      generalize pq.v = W3 at hpq ⊢
      clear Q0 Q1 Q2 Q3 Q4 Q5 Q6 R0 R1 R2 R3 R4 R5 R6 qA qB
      have bA' := bx_up bA hpq
      have bB' := bx_up bB hpq
      go_wp2_with fail
      go_roundw
      case rel => exact ⟨k + 1, by omega, by go_num, bA', bB', up_trans hu hpq⟩
      case measure => simp [intOf]; omega
    · obtain rfl : k = n := by omega
      have i1 : ¬ (k : Int) < (k : Int) := by omega
      have c1 := (bA 1 _ rfl).1
      go_upto_region 9 with fail
      clear c1 i1 HL
      obtain ⟨wo, rfl⟩ : ∃ wo, wo = wr := ⟨_, rfl⟩
      go_loopw [6] (fun s6 wr => ∃ j : Nat, j ≤ m ∧ s6 = .int .i64 j ∧ Bx wr w.heap.size [.string s, .slice A k cA, .slice B m cB, .int .i64 f] ∧ Bx wr (w.heap.size + 1) [.string s, .slice A' k cA', .slice B' m cB', .int .i64 f] ∧ Up w wr) (fun s6 _ => m - (intOf s6).toNat)
      case atStart => exact ⟨0, by omega, rfl, bA, bB, hu⟩
      case round =>
        clear bA bB hu
        obtain ⟨j, hj, rfl, bA, bB, hu⟩ := hrel
        by_cases hlt : j < m
        · obtain ⟨b, off, b2, off2, q, rfl, rfl, hc⟩ := unhide HM j hlt
          obtain ⟨yx, yy, yz, ys'⟩ := q
          have i0 : (0 : Int) ≤ (j : Int) := by omega
          have i1 : (j : Int) < (m : Int) := by omega
          have i3 : (j : Int).toNat = j := by omega
          have hwk : IntKind.i64.wrap ((j : Int) + 1) = (j : Int) + 1 := IntWalk.i64_in _ ⟨by omega, by omega⟩
          have qA : ∀ r : UpW wr, r.v.cell? ⟨w.heap.size, 2, none⟩ = some (.slice (some ⟨b, off, none⟩) m cB) := fun r => (bx_up bA r.up 2 _ rfl).1
          have qB : ∀ r : UpW wr, r.v.cell? ⟨w.heap.size + 1, 2, none⟩ = some (.slice (some ⟨b2, off2, none⟩) m cB') := fun r => (bx_up bB r.up 2 _ rfl).1
          have Q0 : ∀ r : UpW wr, r.v.cell? ⟨b, off + j * 4, none⟩ = some (.int .i64 yx) := fun r => (hc _ (up_trans hu r.up)).1.1
          have Q1 : ∀ r : UpW wr, r.v.cell? ⟨b, off + j * 4 + 1, none⟩ = some (.int .i64 yy) := fun r => (hc _ (up_trans hu r.up)).1.2.1
          have Q2 : ∀ r : UpW wr, r.v.cell? ⟨b, off + j * 4 + 2, none⟩ = some (.int .i64 yz) := fun r => (hc _ (up_trans hu r.up)).1.2.2.1
          have Q3 : ∀ r : UpW wr, r.v.cell? ⟨b, off + j * 4 + 3, none⟩ = some (.int .i64 ys') := fun r => (hc _ (up_trans hu r.up)).1.2.2.2
          have R0 : ∀ r : UpW wr, r.v.cell? ⟨b2, off2 + j * 4, none⟩ = some (.int .i64 yx) := fun r => (hc _ (up_trans hu r.up)).2.1
          have R1 : ∀ r : UpW wr, r.v.cell? ⟨b2, off2 + j * 4 + 1, none⟩ = some (.int .i64 yy) := fun r => (hc _ (up_trans hu r.up)).2.2.1
          have R2 : ∀ r : UpW wr, r.v.cell? ⟨b2, off2 + j * 4 + 2, none⟩ = some (.int .i64 yz) := fun r => (hc _ (up_trans hu r.up)).2.2.2.1
          have R3 : ∀ r : UpW wr, r.v.cell? ⟨b2, off2 + j * 4 + 3, none⟩ = some (.int .i64 ys') := fun r => (hc _ (up_trans hu r.up)).2.2.2.2
          have x0 : (yx == yx) = true := by simp
          have x1 : (yy == yy) = true := by simp
          have x2 : (yz == yz) = true := by simp
          have x3 : (ys' == ys') = true := by simp
          clear hc
          have c2 := (bA 2 _ rfl).1
          go_upto_region 11 with fail
          clear c2
          refine wp_upq (by kernel_rfl) (by kernel_rfl) ?_; (repeat (go_big_quiet_step (fail))); refine wpQuiet_nil ?_; intro _ hw'; obtain ⟨pq, hw''⟩ := hw'; subst hw''; have hpq := pq.up
          generalize pq.v = W3 at hpq ⊢
          clear Q0 Q1 Q2 Q3 R0 R1 R2 R3 qA qB
          have bA' := bx_up bA hpq
          have bB' := bx_up bB hpq
          go_wp2_with fail
          go_roundw
          case rel => exact ⟨j + 1, by omega, by go_num, bA', bB', up_trans hu hpq⟩
          case measure => simp [intOf]; omega
        · obtain rfl : j = m := by omega
          have i1 : ¬ (j : Int) < (j : Int) := by omega
          have c2 := (bA 2 _ rfl).1
          go_wp2_with fail
          go_ret
          exact ⟨rfl, hu⟩
end Go.Proofs.YtdehnokcjnbjoaaGreat
namespace Go.Proofs.YtdehnokcjnbjoaaGreat
open Go.RowKit Go.Proofs.Gn
theorem ceV_eq {n k : Int} (hn : -2305843009213693952 ≤ n ∧ n ≤ 2305843009213693952) (hk : 1 ≤ k ∧ k ≤ 16777216) : ceV n k = (n + k) / (2 * k) := by
  unfold ceV neV
  have : inQ n (2 * k) = true := by unfold inQ; rw [decide_eq_true_iff]; omega
  rw [this]
  simp only [if_true]
  unfold near
  rw [show 2 * n + 2 * k = 2 * (n + k) by omega, Int.mul_ediv_mul_of_pos _ _ (by omega)]
theorem mo_all (g : Pce → Int) {ps : List Pce} (hf : ∀ p, okP p = true → -4398046511104 ≤ g p ∧ g p ≤ 4398046511104) (h : okPs ps = true) (hn : ps.length ≤ 32) : -140737488355328 ≤ mo g ps ∧ mo g ps ≤ 140737488355328 := by
  have t := mo_bd g hf h ps.length (Nat.le_refl _)
  rw [List.take_length] at t
  omega
set_option maxRecDepth 100000 in
set_option maxHeartbeats 8000000 in
theorem r_moments2 (A : Option Addr) (ps : List Pce) (cap : Nat) (w : World) (h : Pcs w A ps) (ho : okPs ps = true) (hn : ps.length ≤ 32) :
    Calls Tryz.prog 54 #[.slice A ps.length cap] w fun e w' => e = .returned (.agg #[.int .i64 (mo fX ps), .int .i64 (mo fY ps), .int .i64 (mo fZ ps)]) ∧ Up w w' := by
  rcases h with rfl | ⟨b, off, rfl, hc⟩
  · go_enter Tryz.func54, Tryz.ntmps54
    go_wp2_with fail
    go_rounds 1
    go_returns
    exact ⟨rfl, (by repeat' (first | (with_reducible exact up_refl _) | (with_reducible assumption) | (with_reducible refine up_alloc ?_ _) | (with_reducible refine up_drewN ?_ _) | (with_reducible refine up_drew ?_) | (with_reducible refine up_set ?_ (by first | (simp; done) | (simp; omega) | omega) _) | (refine up_trans ?_ (by with_reducible assumption))))⟩
  have HC := hide hc
  have HO := hide ho
  clear hc ho
  obtain ⟨n, hN⟩ : ∃ n, ps.length = n := ⟨_, rfl⟩
  rw [hN] at hn ⊢
  have HN := hide hN
  clear hN
  go_enter Tryz.func54, Tryz.ntmps54
  go_wp2_with fail
  go_loopw [4] (fun i wr => ∃ k : Nat, k ≤ n ∧ i = .int .i64 k ∧ Up w wr ∧ Bx wr (w.heap.size + 1) [.int .i64 (mo fX (ps.take k)), .int .i64 (mo fY (ps.take k)), .int .i64 (mo fZ (ps.take k))] ∧ Bx wr w.heap.size [.int .i64 0, .int .i64 0, .int .i64 0]) (fun i _ => n - (intOf i).toNat)
  case atStart => exact ⟨0, by omega, rfl, (by repeat' (first | (with_reducible exact up_refl _) | (with_reducible assumption) | (with_reducible refine up_alloc ?_ _) | (with_reducible refine up_drewN ?_ _) | (with_reducible refine up_drew ?_) | (with_reducible refine up_set ?_ (by first | (simp; done) | (simp; omega) | omega) _) | (refine up_trans ?_ (by with_reducible assumption)))), (bxm2 w [.int .i64 0, .int .i64 0, .int .i64 0] [.int .i64 0, .int .i64 0, .int .i64 0] 31 31).2, (bxm2 w [.int .i64 0, .int .i64 0, .int .i64 0] [.int .i64 0, .int .i64 0, .int .i64 0] 31 31).1⟩
  case round =>
    obtain ⟨k, hk, rfl, hu, hB, hZ⟩ := hrel
    have hUs := bx_lt hB (by simp)
    by_cases hlt : k < n
    · have hl : k < ps.length := by rw [unhide HN]; exact hlt
      have hp := pceAt_up (unhide HC k hl) hu
      obtain ⟨d0, d1, d2, d3, d4, d5, d6⟩ := hp
      have hok := (okP_iff _).1 (okPs_get (unhide HO) hl)
      have bX := mo_bd fX fX_bd (unhide HO) k (by rw [unhide HN]; exact hk)
      have bY := mo_bd fY fY_bd (unhide HO) k (by rw [unhide HN]; exact hk)
      have bZ := mo_bd fZ fZ_bd (unhide HO) k (by rw [unhide HN]; exact hk)
      have tX := mo_take fX hl
      have tY := mo_take fY hl
      have tZ := mo_take fZ hl
      obtain ⟨SX, hSX⟩ : ∃ S, mo fX (ps.take k) = S := ⟨_, rfl⟩
      obtain ⟨SY, hSY⟩ : ∃ S, mo fY (ps.take k) = S := ⟨_, rfl⟩
      obtain ⟨SZ, hSZ⟩ : ∃ S, mo fZ (ps.take k) = S := ⟨_, rfl⟩
      rw [hSX] at bX tX hB
      rw [hSY] at bY tY hB
      rw [hSZ] at bZ tZ hB
      unfold fX at tX
      unfold fY at tY
      unfold fZ at tZ
      obtain ⟨x, hx⟩ : ∃ t, ps[k].x = t := ⟨_, rfl⟩
      obtain ⟨y, hy⟩ : ∃ t, ps[k].y = t := ⟨_, rfl⟩
      obtain ⟨z, hz⟩ : ∃ t, ps[k].z = t := ⟨_, rfl⟩
      obtain ⟨l, hl'⟩ : ∃ t, ps[k].l = t := ⟨_, rfl⟩
      obtain ⟨wd, hwd⟩ : ∃ t, ps[k].w = t := ⟨_, rfl⟩
      obtain ⟨h, hh⟩ : ∃ t, ps[k].h = t := ⟨_, rfl⟩
      obtain ⟨m, hm⟩ : ∃ t, ps[k].m = t := ⟨_, rfl⟩
      have hok2 : okPp ⟨x, y, z, l, wd, h, m⟩ := by rw [← hx, ← hy, ← hz, ← hl', ← hwd, ← hh, ← hm]; exact hok
      rw [hx] at d0 tX; rw [hy] at d1 tY; rw [hz] at d2 tZ; rw [hl'] at d3 tX; rw [hwd] at d4 tY; rw [hh] at d5 tZ; rw [hm] at d6 tX tY tZ
      clear hSX hSY hSZ hx hy hz hl' hwd hh hm hok
      unfold okPp at hok2
      simp only at hok2
      rw [show x + (x + l) = 2 * x + l by omega] at tX
      rw [show y + (y + wd) = 2 * y + wd by omega] at tY
      rw [show z + (z + h) = 2 * z + h by omega] at tZ
      have gX := fm_bd (m := m) (s := 2 * x + l) (by omega) (by omega)
      have gY := fm_bd (m := m) (s := 2 * y + wd) (by omega) (by omega)
      have gZ := fm_bd (m := m) (s := 2 * z + h) (by omega) (by omega)
      have HT := hide (And.intro tX (And.intro tY tZ))
      have HW0 := hide (And.intro gX (And.intro gY gZ))
      have aX : IntKind.i64.wrap (2 * x) = 2 * x := IntWalk.i64_in _ ⟨by omega, by omega⟩
      have vX : IntKind.i64.wrap (2 * x + l) = 2 * x + l := IntWalk.i64_in _ ⟨by omega, by omega⟩
      have wX : IntKind.i64.wrap (m * (2 * x + l)) = m * (2 * x + l) := IntWalk.i64_in _ ⟨by omega, by omega⟩
      have sX : IntKind.i64.wrap (SX + m * (2 * x + l)) = SX + m * (2 * x + l) := IntWalk.i64_in _ ⟨by omega, by omega⟩
      have aY : IntKind.i64.wrap (2 * y) = 2 * y := IntWalk.i64_in _ ⟨by omega, by omega⟩
      have vY : IntKind.i64.wrap (2 * y + wd) = 2 * y + wd := IntWalk.i64_in _ ⟨by omega, by omega⟩
      have wY : IntKind.i64.wrap (m * (2 * y + wd)) = m * (2 * y + wd) := IntWalk.i64_in _ ⟨by omega, by omega⟩
      have sY : IntKind.i64.wrap (SY + m * (2 * y + wd)) = SY + m * (2 * y + wd) := IntWalk.i64_in _ ⟨by omega, by omega⟩
      have aZ : IntKind.i64.wrap (2 * z) = 2 * z := IntWalk.i64_in _ ⟨by omega, by omega⟩
      have vZ : IntKind.i64.wrap (2 * z + h) = 2 * z + h := IntWalk.i64_in _ ⟨by omega, by omega⟩
      have wZ : IntKind.i64.wrap (m * (2 * z + h)) = m * (2 * z + h) := IntWalk.i64_in _ ⟨by omega, by omega⟩
      have sZ : IntKind.i64.wrap (SZ + m * (2 * z + h)) = SZ + m * (2 * z + h) := IntWalk.i64_in _ ⟨by omega, by omega⟩
      have hwk : IntKind.i64.wrap ((k : Int) + 1) = (k : Int) + 1 := IntWalk.i64_in _ ⟨by omega, by omega⟩
      clear gX gY gZ bX bY bZ tX tY tZ hok2 HW0
      obtain ⟨p0, p1, p2⟩ := bx3 hB
      obtain ⟨f0, f1, f2⟩ := bxf3 hB
      go_wp2_with fail
      go_roundw
      case rel =>
        obtain ⟨t1, t2, t3⟩ := unhide HT
        refine ⟨k + 1, by omega, by first | rfl | trivial | go_num, up_alloc (up_set (up_set (up_set hu (by simp) _) (by simp) _) (by simp) _) _, ?_, bx_alloc (bx_far3 (v0 := .int .i64 (SX + m * (2 * x + l))) (v1 := .int .i64 (SY + m * (2 * y + wd))) (v2 := .int .i64 (SZ + m * (2 * z + h))) hZ (by omega)) _⟩
        rw [show mo fX (ps.take (k + 1)) = _ from t1, show mo fY (ps.take (k + 1)) = _ from t2, show mo fZ (ps.take (k + 1)) = _ from t3]
        exact bx_alloc (bx_set3 hB) _
      case measure => simp [intOf]; omega
    · obtain rfl : k = n := by omega
      have hF : ps.take k = ps := List.take_of_length_le (by rw [unhide HN]; omega)
      rw [hF] at hB
      obtain ⟨p0, p1, p2⟩ := bx3 hB
      obtain ⟨z0, z1, z2⟩ := bx3 hZ
      obtain ⟨f0, f1, f2⟩ := bxf3 hZ
      obtain ⟨a, ha⟩ : ∃ t, mo fX ps = t := ⟨_, rfl⟩
      obtain ⟨b', hb'⟩ : ∃ t, mo fY ps = t := ⟨_, rfl⟩
      obtain ⟨c, hc⟩ : ∃ t, mo fZ ps = t := ⟨_, rfl⟩
      rw [ha] at p0
      rw [hb'] at p1
      rw [hc] at p2
      have HE := hide (And.intro ha (And.intro hb' hc))
      clear hF hB ha hb' hc
      go_wp2_with fail
      obtain ⟨W9, hW9⟩ : ∃ W9 : World, W9 = (((wr.setCell ⟨w.heap.size, 0, none⟩ (.int .i64 a)).setCell ⟨w.heap.size, 1, none⟩ (.int .i64 b')).setCell ⟨w.heap.size, 2, none⟩ (.int .i64 c)) := ⟨_, rfl⟩
      rw [← hW9]
      have B9 : Bx W9 w.heap.size [.int .i64 a, .int .i64 b', .int .i64 c] := by rw [hW9]; exact bx_set3 hZ
      have U9 : Up w W9 := by rw [hW9]; exact up_set (up_set (up_set hu (by simp) _) (by simp) _) (by simp) _
      clear hW9 z0 z1 z2 f0 f1 f2 p0 p1 p2
      obtain ⟨q0, q1, q2⟩ := bx3 B9
      refine bodyPost_ret (v := .agg #[.int .i64 a, .int .i64 b', .int .i64 c]) (by simp [results, Tryz.results54, go_sem, q0, q1, q2]) rfl ⟨by rw [(unhide HE).1, (unhide HE).2.1, (unhide HE).2.2], U9⟩
end Go.Proofs.YtdehnokcjnbjoaaGreat
namespace Go.Proofs.YtdehnokcjnbjoaaGreat
open Go.RowKit Go.Proofs.Gn
attribute [local go_sem] Oper.semAt_some
set_option linter.unusedVariables false
set_option maxRecDepth 100000 in
set_option maxHeartbeats 8000000 in
theorem l_samePts (A B : Option Addr) (ps : Pl) (cA cB : Nat) (w : World) (hA : Pts w A ps) (hB : Pts w B ps) (hn : ps.length ≤ 9223372036854775807) :
    Calls Tryz.prog 24 #[.slice A ps.length cA, .slice B ps.length cB] w fun e w' => e = .returned (.bool true) ∧ Up w w' := by
  have HA := hide (fun k (hk : k < ps.length) => (⟨hA, hB⟩ : Pts w A ps ∧ Pts w B ps))
  have HL := hide (show ∀ k, k < ps.length → ∃ b off b2 off2, A = some ⟨b, off, none⟩ ∧ B = some ⟨b2, off2, none⟩ ∧ ∀ W, Up w W → (W.cell? ⟨b, off + k * 2, none⟩ = some (.int .i64 (ps.getD k (0, 0)).1) ∧ W.cell? ⟨b, off + k * 2 + 1, none⟩ = some (.int .i64 (ps.getD k (0, 0)).2)) ∧ (W.cell? ⟨b2, off2 + k * 2, none⟩ = some (.int .i64 (ps.getD k (0, 0)).1) ∧ W.cell? ⟨b2, off2 + k * 2 + 1, none⟩ = some (.int .i64 (ps.getD k (0, 0)).2)) from fun k hk => by
    have hne : ps ≠ [] := by intro e; rw [e] at hk; simp at hk
    obtain ⟨b, off, rfl, hc⟩ := hA.resolve_left hne
    obtain ⟨b2, off2, rfl, hc2⟩ := hB.resolve_left hne
    have e : ps.getD k (0, 0) = ps[k] := by rw [List.getD_eq_getElem?_getD, List.getElem?_eq_getElem hk]; rfl
    refine ⟨b, off, b2, off2, rfl, rfl, fun W hW => ?_⟩
    rw [e]
    exact ⟨⟨up_cell hW (hc k hk).1, up_cell hW (hc k hk).2⟩, ⟨up_cell hW (hc2 k hk).1, up_cell hW (hc2 k hk).2⟩⟩)
  clear hA hB HA
  generalize ps.length = n at *
  have t0 : ((n : Int) == (n : Int)) = true := by simp
  go_enter Tryz.func24, Tryz.ntmps24
  go_upto_region 4 with fail
  go_loopw [5] (fun s5 wr => ∃ k : Nat, k ≤ n ∧ s5 = .int .i64 k ∧ Up w wr) (fun s5 _ => n - (intOf s5).toNat)
  case atStart => exact ⟨0, by omega, rfl, up_refl _⟩
  case round =>
    obtain ⟨k, hk, rfl, hu⟩ := hrel
    by_cases hlt : k < n
    · obtain ⟨b, off, b2, off2, rfl, rfl, hc⟩ := unhide HL k hlt
      generalize (ps.getD k (0, 0)).1 = x at *
      generalize (ps.getD k (0, 0)).2 = y at *
      have i0 : (0 : Int) ≤ (k : Int) := by omega
      have i1 : (k : Int) < (n : Int) := by omega
      have i3 : (k : Int).toNat = k := by omega
      have hwk : IntKind.i64.wrap ((k : Int) + 1) = (k : Int) + 1 := IntWalk.i64_in _ ⟨by omega, by omega⟩
      have Q0 : ∀ r : UpW wr, r.v.cell? ⟨b, off + k * 2, none⟩ = some (.int .i64 x) := fun r => (hc _ (up_trans hu r.up)).1.1
      have Q1 : ∀ r : UpW wr, r.v.cell? ⟨b, off + k * 2 + 1, none⟩ = some (.int .i64 y) := fun r => (hc _ (up_trans hu r.up)).1.2
      have Q2 : ∀ r : UpW wr, r.v.cell? ⟨b2, off2 + k * 2, none⟩ = some (.int .i64 x) := fun r => (hc _ (up_trans hu r.up)).2.1
      have Q3 : ∀ r : UpW wr, r.v.cell? ⟨b2, off2 + k * 2 + 1, none⟩ = some (.int .i64 y) := fun r => (hc _ (up_trans hu r.up)).2.2
      have x1 : (x == x) = true := by simp
      have x2 : (y == y) = true := by simp
      clear hc
      go_upto_region 6 with fail
      refine wp_upq (by kernel_rfl) (by kernel_rfl) ?_; (repeat (go_big_quiet_step (fail))); refine wpQuiet_nil ?_; intro _ hw'; obtain ⟨pq, hw''⟩ := hw'; subst hw''; have hpq := pq.up
      generalize pq.v = W3 at hpq ⊢
      clear Q0 Q1 Q2 Q3
      go_wp2_with fail
      go_roundw
      case rel => exact ⟨k + 1, by omega, by go_num, up_trans hu hpq⟩
      case measure => simp [intOf]; omega
    · obtain rfl : k = n := by omega
      have i1 : ¬ (k : Int) < (k : Int) := by omega
      go_wp2_with fail
      go_ret
      exact ⟨rfl, hu⟩
set_option maxRecDepth 100000 in
set_option maxHeartbeats 8000000 in
theorem r_MomentsL (s : ByteArray) (A : Option Addr) (ps : List Pce) (capA : Nat) (B : Option Addr) (ys : List Eye) (capB : Nat) (f : Int) (w : World) (hA : Pcs w A ps) (hB : Eyes w B ys) (hn : ps.length ≤ 9223372036854775807) (hm : ys.length ≤ 9223372036854775807) :
    Calls Tryz.prog 13 #[loV s A ps.length capA B ys.length capB f] w fun e w' => e = .returned (.tuple #[.agg #[.int .i64 (loO s ps ys f fX), .int .i64 (loO s ps ys f fY), .int .i64 (loO s ps ys f fZ)], .int .i64 (loE s ps ys f)]) ∧ Up w w' := by
  have HC := hide (fun W (hW : Up w W) => r_CheckL s A ps capA B ys capB f W (pcs_up hA hW) (eyes_up hB hW) hn hm)
  have HM := hide (fun W (hW : Up w W) (he : loE s ps ys f = 0) => r_moments2 A ps capA W (pcs_up hA hW) (loE_ok he).2.2.2.1 (loE_ok he).1.2.1)
  unfold loO
  clear hA hB
  generalize loE s ps ys f = E at *
  generalize mo fX ps = mx at *
  generalize mo fY ps = my at *
  generalize mo fZ ps = mz at *
  generalize ps.length = n at *
  generalize ys.length = m at *
  go_enter Tryz.func13, Tryz.ntmps13
  go_upto_region 1 with fail
  refine at_wpC (fun W0 hW0 => ?_)
  have U0 : Up w W0 := by rw [hW0]; exact (by repeat' (first | (with_reducible exact up_refl _) | (with_reducible assumption) | (with_reducible refine up_alloc ?_ _) | (with_reducible refine up_drewN ?_ _) | (with_reducible refine up_drew ?_) | (with_reducible refine up_set ?_ (by first | (simp; done) | (simp; omega) | omega) _) | (refine up_trans ?_ (by with_reducible assumption))))
  obtain ⟨bL, bR⟩ : Bx W0 w.heap.size [.string s, .slice A n capA, .slice B m capB, .int .i64 f] ∧ Bx W0 (w.heap.size + 1) [.int .i64 0, .int .i64 0, .int .i64 0] := by
    rw [hW0]
    refine ⟨bx_alloc (bx_new w _ _) _, ?_⟩
    have q := bx_new (w.alloc (.cells #[.string s, .slice A n capA, .slice B m capB, .int .i64 f] 25)) [.int .i64 0, .int .i64 0, .int .i64 0] 31
    rw [World.size_alloc] at q
    exact q
  clear hW0
  have c0 := (bL 0 _ rfl).1
  have c1 := (bL 1 _ rfl).1
  have c2 := (bL 2 _ rfl).1
  have c3 := (bL 3 _ rfl).1
  by_cases he : E = 0
  · subst he
    have HM2 := hide (fun W hW => unhide HM W hW rfl)
    clear HM
    go_upto_region 3 with (go_at_call 17; (with_reducible refine (unhide HC _ U0).mono ?_); rintro e w1 ⟨rfl, v1⟩; have bL1 := bx_up bL v1; have bR1 := bx_up bR v1; have U1 := up_trans U0 v1)
    clear bL bR U0 v1 c0 c1 c2 c3
    generalize hgR : w.heap.size + 1 = gR at *
    have k1 := (bL1 1 _ rfl).1
    go_wp2_with (go_at_call 54; (with_reducible refine (unhide HM2 _ U1).mono ?_); rintro e w2 ⟨rfl, v2⟩; have bR2 := bx_up bR1 v2; have U2 := up_trans U1 v2; have r0 := (bR2 0 _ rfl).1; have r1 := (bR2 1 _ rfl).1; have r2 := (bR2 2 _ rfl).1; have f0 := (bR2 0 _ rfl).2; have f1 := (bR2 1 _ rfl).2; have f2 := (bR2 2 _ rfl).2)
    have B9 := bx_set (bx_set (bx_set bR2 0 (.int .i64 mx)) 1 (.int .i64 my)) 2 (.int .i64 mz)
    have UZ := up_set (up_set (up_set U2 (p := ⟨gR, 0, none⟩) (by simp only; omega) (.int .i64 mx)) (p := ⟨gR, 1, none⟩) (by simp only; omega) (.int .i64 my)) (p := ⟨gR, 2, none⟩) (by simp only; omega) (.int .i64 mz)
    generalize ((w2.setCell ⟨gR, 0, none⟩ (.int .i64 mx)).setCell ⟨gR, 1, none⟩ (.int .i64 my)).setCell ⟨gR, 2, none⟩ (.int .i64 mz) = W9 at B9 UZ ⊢
    have q0 := (B9 0 _ rfl).1
    have q1 := (B9 1 _ rfl).1
    have q2 := (B9 2 _ rfl).1
    refine bodyPost_ret (v := .tuple #[.agg #[.int .i64 mx, .int .i64 my, .int .i64 mz], .int .i64 0]) (by simp [results, Tryz.f13, go_sem, q0, q1, q2]) rfl ?_
    exact ⟨rfl, UZ⟩
  · have t : (E == 0) = false := by simp [he]
    have HH := hide he
    clear he
    go_upto_region 2 with (go_at_call 17; (with_reducible refine (unhide HC _ U0).mono ?_); rintro e w1 ⟨rfl, v1⟩; have bL1 := bx_up bL v1; have bR1 := bx_up bR v1; have U1 := up_trans U0 v1)
    clear bL bR U0 v1 c0 c1 c2 c3
    generalize hgR : w.heap.size + 1 = gR at *
    have c0 := (bL1 0 _ rfl).1
    have c1 := (bL1 1 _ rfl).1
    have c2 := (bL1 2 _ rfl).1
    have c3 := (bL1 3 _ rfl).1
    go_wp2_with (go_at_call 17; (with_reducible refine (unhide HC _ U1).mono ?_); rintro e w2 ⟨rfl, v2⟩; have bR2 := bx_up bR1 v2; have U2 := up_trans U1 v2; have r0 := (bR2 0 _ rfl).1; have r1 := (bR2 1 _ rfl).1; have r2 := (bR2 2 _ rfl).1; have f0 := (bR2 0 _ rfl).2; have f1 := (bR2 1 _ rfl).2; have f2 := (bR2 2 _ rfl).2)
    have B9 := bx_set (bx_set (bx_set bR2 0 (.int .i64 0)) 1 (.int .i64 0)) 2 (.int .i64 0)
    have UZ := up_set (up_set (up_set U2 (p := ⟨gR, 0, none⟩) (by simp only; omega) (.int .i64 0)) (p := ⟨gR, 1, none⟩) (by simp only; omega) (.int .i64 0)) (p := ⟨gR, 2, none⟩) (by simp only; omega) (.int .i64 0)
    generalize ((w2.setCell ⟨gR, 0, none⟩ (.int .i64 0)).setCell ⟨gR, 1, none⟩ (.int .i64 0)).setCell ⟨gR, 2, none⟩ (.int .i64 0) = W9 at B9 UZ ⊢
    have q0 := (B9 0 _ rfl).1
    have q1 := (B9 1 _ rfl).1
    have q2 := (B9 2 _ rfl).1
    refine bodyPost_ret (v := .tuple #[.agg #[.int .i64 0, .int .i64 0, .int .i64 0], .int .i64 E]) (by simp [results, Tryz.f13, go_sem, q0, q1, q2]) rfl ?_
    exact ⟨by first | rfl | simp only [if_neg (unhide HH)], UZ⟩
end Go.Proofs.YtdehnokcjnbjoaaGreat
