/- The first piece that does not stand: load.Falls of a valid load. -/
import Derived.Test.YtdehnokcjnbjoaaGreatStdP
namespace Go.Proofs.YtdehnokcjnbjoaaGreat
open Go.RowKit Go.Proofs.Gn
attribute [local go_sem] Oper.semAt_some
set_option linter.unusedVariables false
/-- What Falls answers. -/
def FalQ (ps : List Pce) (z e : Int) : Prop := (∃ k : Nat, k < ps.length ∧ z = k ∧ e = 0 ∧ stB ps k = false ∧ ∀ j, j < k → stB ps j = true) ∨ (z = 0 ∧ e = 5 ∧ ∀ j, j < ps.length → stB ps j = true)
set_option maxRecDepth 100000 in
set_option maxHeartbeats 8000000 in
theorem p_FallsV (s : ByteArray) (A : Option Addr) (ps : List Pce) (cA : Nat) (B : Option Addr) (ys : List Eye) (cB : Nat) (f : Int) (w : World) (hA : Pcs w A ps) (hB : Eyes w B ys) (hE : loE s ps ys f = 0) :
    Calls Tryz.prog 31 #[loV s A ps.length cA B ys.length cB f] w fun e w' => (∃ z e', e = .returned (.tuple #[.int .i64 z, .int .i64 e']) ∧ FalQ ps z e') ∧ Up w w' := by
  obtain ⟨⟨hg1, hg2, hg3⟩, _, _, hok, _, hmas⟩ := loE_ok hE
  have HC := hide (fun W (hW : Up w W) => p_CheckL s A ps cA B ys cB f W (pcs_up hA hW) (eyes_up hB hW) (by omega) (by omega))
  rw [hE] at HC
  have hm2 : mas ps ≤ 16777216 := by first | exact hmas.2 | (have := (win_iff _ _ _).1 hmas; omega) | omega
  have HS := hide (fun k (hk : k < ps.length) W (hW : Up w W) => p_stands A ps cA k W (pcs_up hA hW) hok hk (by omega) hm2)
  have HF1 := hide (fun k (hk : k < ps.length) (h : stB ps k = false) (hj : ∀ j, j < k → stB ps j = true) => (show FalQ ps k 0 from .inl ⟨k, hk, rfl, rfl, h, hj⟩))
  have HF2 := hide (fun (hj : ∀ j, j < ps.length → stB ps j = true) => (show FalQ ps 0 5 from .inr ⟨rfl, rfl, hj⟩))
  generalize FalQ ps = Q at *
  clear hA hB hE hok hmas hm2
  generalize hst : (fun k => stB ps k) = S at *
  have hst' : ∀ k, stB ps k = S k := fun k => congrFun hst k
  simp only [hst'] at HS HF1 HF2
  clear hst hst'
  generalize ps.length = n at *
  generalize ys.length = m at *
  go_enter Tryz.func31, Tryz.ntmps31
  go_upto_region 1 with fail
  refine at_wpC (fun W0 hW0 => ?_)
  have U0 : Up w W0 := by rw [hW0]; exact (by repeat' (first | (with_reducible exact up_refl _) | (with_reducible assumption) | (with_reducible refine up_alloc ?_ _) | (with_reducible refine up_drewN ?_ _) | (with_reducible refine up_drew ?_) | (with_reducible refine up_set ?_ (by first | (simp; done) | (simp; omega) | omega) _) | (refine up_trans ?_ (by with_reducible assumption))))
  have bL : Bx W0 w.heap.size [.string s, .slice A n cA, .slice B m cB, .int .i64 f] := by rw [hW0]; exact bx_new w _ _
  clear hW0
  have c0 := (bL 0 _ rfl).1
  have c1 := (bL 1 _ rfl).1
  have c2 := (bL 2 _ rfl).1
  have c3 := (bL 3 _ rfl).1
  go_upto_region 4 with (go_at_call 16; (with_reducible refine (unhide HC _ U0).mono ?_); rintro e w1 ⟨rfl, v1⟩)
  have bL1 := bx_up bL v1
  have U1 := up_trans U0 v1
  clear c0 c1 c2 c3 bL v1 U0 HC
  have c1 := (bL1 1 _ rfl).1
  go_upto_region 5 with fail
  clear c1
  go_loopw [14] (fun s14 wr => ∃ k : Nat, k ≤ n ∧ s14 = .int .i64 k ∧ (∀ j, j < k → S j = true) ∧ Bx wr w.heap.size [.string s, .slice A n cA, .slice B m cB, .int .i64 f] ∧ Up w wr) (fun s14 _ => n - (intOf s14).toNat)
  case atStart => exact ⟨0, by omega, rfl, fun j hj => by omega, bL1, U1⟩
  case round =>
    clear bL1 U1
    obtain ⟨k, hk, rfl, hs, bL, hu⟩ := hrel
    by_cases hlt : k < n
    · have c1 := (bL 1 _ rfl).1
      have HSk := hide (unhide HS k hlt)
      have HF := hide (unhide HF1 k hlt)
      have hss := hide hs
      have i0 : (0 : Int) ≤ (k : Int) := by omega
      have i1 : (k : Int) < (n : Int) := by omega
      have i3 : (k : Int).toNat = k := by omega
      have hwk : IntKind.i64.wrap ((k : Int) + 1) = (k : Int) + 1 := IntWalk.i64_in _ ⟨by omega, by omega⟩
      clear hs
      obtain ⟨T, hT⟩ : ∃ T, S k = T := ⟨_, rfl⟩
      have HT := hide hT
      rw [hT] at HSk
      clear hT
      cases T with
      | false =>
        go_wp2_with (go_at_call 74; (with_reducible refine (unhide HSk _ hu).mono ?_); rintro e w2 ⟨rfl, v2⟩)
        go_ret2
        exact ⟨⟨_, _, rfl, unhide HF (unhide HT) (unhide hss)⟩, up_trans hu v2⟩
      | true =>
        go_wp2_with (go_at_call 74; (with_reducible refine (unhide HSk _ hu).mono ?_); rintro e w2 ⟨rfl, v2⟩; have bL2 := bx_up bL v2)
        go_roundw
        case rel => exact ⟨k + 1, by omega, by go_num, fun j hj => by
          by_cases e : j < k
          · exact unhide hss j e
          · obtain rfl : j = k := by omega
            exact unhide HT, bL2, up_trans hu v2⟩
        case measure => simp [intOf]; omega
    · obtain rfl : k = n := by omega
      have i1 : ¬ (k : Int) < (k : Int) := by omega
      have hss := hide hs
      clear hs
      go_wp2_with fail
      go_ret2
      exact ⟨⟨_, _, rfl, unhide HF2 (unhide hss)⟩, hu⟩
end Go.Proofs.YtdehnokcjnbjoaaGreat
