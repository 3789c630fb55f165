/- load's allValid and Check. -/
import Derived.Test.YtdehnokcjnbjoaaGreatPcs
import Derived.Test.YtdehnokcjnbjoaaGreatPkVehC
namespace Go.Proofs.YtdehnokcjnbjoaaGreat
open Go.RowKit Go.Proofs.Gn
abbrev loV (s : ByteArray) (A : Option Addr) (n capA : Nat) (B : Option Addr) (m capB : Nat) (f : Int) : Value :=
  .agg #[.string s, .slice A n capA, .slice B m capB, .int .i64 f]
set_option maxRecDepth 100000 in
set_option maxHeartbeats 8000000 in
theorem p_allValid (s : ByteArray) (A : Option Addr) (ps : List Pce) (capA : Nat) (B : Option Addr) (ys : List Eye) (capB : Nat) (f : Int) (w : World) (hA : Pcs w A ps) (hB : Eyes w B ys) (hn : ps.length ≤ 32) (hm : ys.length ≤ 32) :
    Calls Tryz.prog 59 #[loV s A ps.length capA B ys.length capB f] w fun e w' => e = .returned (.bool (okPs ps && okYs ys)) ∧ Up w w' := by
  have HPI := hide (fun p W => p_isPiece p W)
  have HPL := hide (fun x y z W => p_isPlace x y z W)
  obtain ⟨n, hN⟩ : ∃ n, ps.length = n := ⟨_, rfl⟩
  obtain ⟨m, hM⟩ : ∃ n, ys.length = n := ⟨_, rfl⟩
  rw [hN] at hn ⊢
  rw [hM] at hm ⊢
  have HN := hide hN
  have HM := hide hM
  have HA := hide hA
  have HB := hide hB
  clear hN hM hA hB
  go_enter Tryz.func59, Tryz.ntmps59
  go_upto_region 1 with fail
  refine at_wp (fun W0 hW0 => ?_)
  have U0 : Up w W0 := by rw [hW0]; exact (by repeat' (first | (with_reducible exact up_refl _) | (with_reducible assumption) | (with_reducible refine up_alloc ?_ _) | (with_reducible refine up_drewN ?_ _) | (with_reducible refine up_drew ?_) | (with_reducible refine up_set ?_ (by first | (simp; done) | (simp; omega) | omega) _) | (refine up_trans ?_ (by with_reducible assumption))))
  have B0 : Bx W0 w.heap.size [.string s, .slice A n capA, .slice B m capB, .int .i64 f] := by rw [hW0]; exact bx_new w _ 25
  clear hW0
  have c1 := (B0 1 _ rfl).1
  go_wp2_with fail
  go_loopw [10] (fun i wr => ∃ k : Nat, k ≤ n ∧ i = .int .i64 k ∧ Up W0 wr ∧ okPs (ps.take k) = true) (fun i _ => n - (intOf i).toNat)
  case atStart => exact ⟨0, by omega, rfl, up_refl _, rfl⟩
  case round =>
    obtain ⟨k, hk, rfl, hu, ho⟩ := hrel
    have HO := hide ho
    clear ho c1
    have B1 := bx_up B0 hu
    by_cases hlt : k < n
    · have hl : k < ps.length := by rw [unhide HN]; exact hlt
      rcases pcs_up (unhide HA) (up_trans U0 hu) with hnil | ⟨b, off, rfl, hc⟩
      · rw [hnil] at hl; simp at hl
      obtain ⟨d0, d1, d2, d3, d4, d5, d6⟩ := hc k hl
      clear hc
      have HI := hide (fun W => unhide HPI ps[k] W)
      have HF := hide (fun h => all_atP (f := okP) hl h)
      have HT := hide (fun h => all_take (f := okP) hl (unhide HO) h)
      obtain ⟨q, hq⟩ : ∃ q, okP ps[k] = q := ⟨_, rfl⟩
      rw [hq] at HI HF HT
      clear hq
      obtain ⟨x, hx⟩ : ∃ x, ps[k].x = x := ⟨_, rfl⟩
      obtain ⟨y, hy⟩ : ∃ x, ps[k].y = x := ⟨_, rfl⟩
      obtain ⟨z, hz⟩ : ∃ x, ps[k].z = x := ⟨_, rfl⟩
      obtain ⟨l, hL⟩ : ∃ x, ps[k].l = x := ⟨_, rfl⟩
      obtain ⟨wd, hwd⟩ : ∃ x, ps[k].w = x := ⟨_, rfl⟩
      obtain ⟨h, hh⟩ : ∃ x, ps[k].h = x := ⟨_, rfl⟩
      obtain ⟨mm, hmm⟩ : ∃ x, ps[k].m = x := ⟨_, rfl⟩
      rw [hx] at d0; rw [hy] at d1; rw [hz] at d2; rw [hL] at d3; rw [hwd] at d4; rw [hh] at d5; rw [hmm] at d6
      have HI2 : Hid (∀ W, Calls Tryz.prog 105 #[.agg #[.int .i64 x, .int .i64 y, .int .i64 z, .int .i64 l, .int .i64 wd, .int .i64 h, .int .i64 mm]] W fun e w' => e = .returned (.bool q) ∧ Up W w') := by
        rw [← hx, ← hy, ← hz, ← hL, ← hwd, ← hh, ← hmm]; exact HI
      clear hx hy hz hL hwd hh hmm HI
      cases q
      · have HF2 := hide (show okPs ps = false from unhide HF rfl)
        clear HF HT
        go_wp2_with (go_at_call 105; (with_reducible refine (unhide HI2 _).mono ?_); rintro e w1 ⟨rfl, hb⟩)
        go_ret
        exact ⟨by rw [unhide HF2]; rfl, (by repeat' (first | (with_reducible exact up_refl _) | (with_reducible assumption) | (with_reducible refine up_alloc ?_ _) | (with_reducible refine up_drewN ?_ _) | (with_reducible refine up_drew ?_) | (with_reducible refine up_set ?_ (by first | (simp; done) | (simp; omega) | omega) _) | (refine up_trans ?_ (by with_reducible assumption))))⟩
      · have HT2 := hide (show okPs (ps.take (k + 1)) = true from unhide HT rfl)
        clear HF HT
        go_wp2_with (go_at_call 105; (with_reducible refine (unhide HI2 _).mono ?_); rintro e w1 ⟨rfl, hb⟩)
        go_roundw
        case rel => exact ⟨k + 1, by omega, by first | rfl | trivial | go_num, (by repeat' (first | (with_reducible exact up_refl _) | (with_reducible assumption) | (with_reducible refine up_alloc ?_ _) | (with_reducible refine up_drewN ?_ _) | (with_reducible refine up_drew ?_) | (with_reducible refine up_set ?_ (by first | (simp; done) | (simp; omega) | omega) _) | (refine up_trans ?_ (by with_reducible assumption)))), unhide HT2⟩
        case measure => simp [intOf]; omega
    · obtain rfl : k = n := by omega
      have HP := hide (show okPs ps = true by have t := unhide HO; rwa [List.take_of_length_le (by rw [unhide HN]; omega)] at t)
      have V1 := up_trans U0 hu
      have c2 := (B1 2 _ rfl).1
      clear HO hu HPI
      go_wp2_with fail
      obtain ⟨wo, hwo⟩ : ∃ wo, wo = wr := ⟨_, rfl⟩
      rw [← hwo] at V1 B1 c2 ⊢
      clear hwo
      go_loopw [21] (fun i wr => ∃ k : Nat, k ≤ m ∧ i = .int .i64 k ∧ Up wo wr ∧ okYs (ys.take k) = true) (fun i _ => m - (intOf i).toNat)
      case atStart => exact ⟨0, by omega, rfl, up_refl _, rfl⟩
      case round =>
        obtain ⟨j, hj, rfl, hu, ho⟩ := hrel
        have HO := hide ho
        have V2 := up_trans V1 hu
        clear ho c2
        by_cases hlt : j < m
        · have hl : j < ys.length := by rw [unhide HM]; exact hlt
          rcases eyes_up (unhide HB) V2 with hnil | ⟨b, off, rfl, hc⟩
          · rw [hnil] at hl; simp at hl
          obtain ⟨d0, d1, d2, d3⟩ := hc j hl
          clear hc
          have hy : okY ys[j] = (plcL ys[j].x ys[j].y ys[j].z && win ys[j].s 0 4194304) := rfl
          have HI := hide (fun W => unhide HPL ys[j].x ys[j].y ys[j].z W)
          have HW := hide (fun W => p_withinL ys[j].s 0 4194304 W)
          have HF := hide (fun h => all_atP (f := okY) hl h)
          have HT := hide (fun h => all_take (f := okY) hl (unhide HO) h)
          rw [hy] at HF HT
          clear hy
          generalize plcL ys[j].x ys[j].y ys[j].z = q at *
          generalize win ys[j].s 0 4194304 = r at *
          obtain ⟨x, hx⟩ : ∃ x, ys[j].x = x := ⟨_, rfl⟩
          obtain ⟨y, hy⟩ : ∃ x, ys[j].y = x := ⟨_, rfl⟩
          obtain ⟨z, hz⟩ : ∃ x, ys[j].z = x := ⟨_, rfl⟩
          obtain ⟨t, ht⟩ : ∃ x, ys[j].s = x := ⟨_, rfl⟩
          rw [hx] at d0 HI; rw [hy] at d1 HI; rw [hz] at d2 HI; rw [ht] at d3 HW
          clear hx hy hz ht
          cases q
          · have HF2 := hide (show okYs ys = false from unhide HF rfl)
            clear HF HT
            go_wp2_with (go_at_call 106; (with_reducible refine (unhide HI _).mono ?_); rintro e w1 ⟨rfl, hb⟩)
            go_ret
            exact ⟨by rw [unhide HF2, Bool.and_false]; rfl, (by repeat' (first | (with_reducible exact up_refl _) | (with_reducible assumption) | (with_reducible refine up_alloc ?_ _) | (with_reducible refine up_drewN ?_ _) | (with_reducible refine up_drew ?_) | (with_reducible refine up_set ?_ (by first | (simp; done) | (simp; omega) | omega) _) | (refine up_trans ?_ (by with_reducible assumption))))⟩
          cases r
          · have HF2 := hide (show okYs ys = false from unhide HF rfl)
            clear HF HT
            have KD : ∀ w1 : World, Up (wr.alloc (.cells #[.int .i64 x, .int .i64 y, .int .i64 z, .int .i64 t] 86)) w1 → w1.cell? ⟨wr.heap.size, 3, none⟩ = some (.int .i64 t) := fun w1 hb => (bx_up (bx_new wr [.int .i64 x, .int .i64 y, .int .i64 z, .int .i64 t] 86) hb 3 _ rfl).1
            have HKD := hide KD
            clear KD
            go_wp2_with (first | (go_at_call 106; (with_reducible refine (unhide HI _).mono ?_); rintro e w1 ⟨rfl, hb⟩; have kd := unhide HKD _ hb) | (go_at_call 58; (with_reducible refine (unhide HW _).mono ?_); rintro e w2 ⟨rfl, rfl⟩))
            go_ret
            exact ⟨by rw [unhide HF2, Bool.and_false]; rfl, (by repeat' (first | (with_reducible exact up_refl _) | (with_reducible assumption) | (with_reducible refine up_alloc ?_ _) | (with_reducible refine up_drewN ?_ _) | (with_reducible refine up_drew ?_) | (with_reducible refine up_set ?_ (by first | (simp; done) | (simp; omega) | omega) _) | (refine up_trans ?_ (by with_reducible assumption))))⟩
          · have HT2 := hide (show okYs (ys.take (j + 1)) = true from unhide HT rfl)
            clear HF HT
            have KD : ∀ w1 : World, Up (wr.alloc (.cells #[.int .i64 x, .int .i64 y, .int .i64 z, .int .i64 t] 86)) w1 → w1.cell? ⟨wr.heap.size, 3, none⟩ = some (.int .i64 t) := fun w1 hb => (bx_up (bx_new wr [.int .i64 x, .int .i64 y, .int .i64 z, .int .i64 t] 86) hb 3 _ rfl).1
            have HKD := hide KD
            clear KD
            go_wp2_with (first | (go_at_call 106; (with_reducible refine (unhide HI _).mono ?_); rintro e w1 ⟨rfl, hb⟩; have kd := unhide HKD _ hb) | (go_at_call 58; (with_reducible refine (unhide HW _).mono ?_); rintro e w2 ⟨rfl, rfl⟩))
            go_roundw
            case rel => exact ⟨j + 1, by omega, by first | rfl | trivial | go_num, (by repeat' (first | (with_reducible exact up_refl _) | (with_reducible assumption) | (with_reducible refine up_alloc ?_ _) | (with_reducible refine up_drewN ?_ _) | (with_reducible refine up_drew ?_) | (with_reducible refine up_set ?_ (by first | (simp; done) | (simp; omega) | omega) _) | (refine up_trans ?_ (by with_reducible assumption)))), unhide HT2⟩
            case measure => simp [intOf]; omega
        · obtain rfl : j = m := by omega
          have HY := hide (show okYs ys = true by have t := unhide HO; rwa [List.take_of_length_le (by rw [unhide HM]; omega)] at t)
          clear HO
          go_wp2_with fail
          go_ret
          exact ⟨by rw [unhide HP, unhide HY]; rfl, V2⟩
end Go.Proofs.YtdehnokcjnbjoaaGreat
