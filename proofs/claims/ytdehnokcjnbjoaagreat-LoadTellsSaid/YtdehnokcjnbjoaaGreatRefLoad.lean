/- The document's mass and Check of a load. -/
import Derived.Test.YtdehnokcjnbjoaaGreatChkL
namespace Go.Proofs.YtdehnokcjnbjoaaGreat
open Go.RowKit Go.Proofs.Gn
set_option maxRecDepth 100000 in
set_option maxHeartbeats 4000000 in
theorem r_mass2 (A : Option Addr) (ps : List Pce) (cap : Nat) (w : World) (h : Pcs w A ps) (ho : okPs ps = true) (hn : ps.length ≤ 32) :
    Calls Tryz.prog 52 #[.slice A ps.length cap] w fun e w' => e = .returned (.int .i64 (mas ps)) ∧ Up w w' := by
  rcases h with rfl | ⟨b, off, rfl, hc⟩
  · go_enter Tryz.func52, Tryz.ntmps52
    go_wp2_with fail
    go_rounds 1
    go_ret
    exact ⟨rfl, (by repeat' (first | (with_reducible exact up_refl _) | (with_reducible assumption) | (with_reducible refine up_alloc ?_ _) | (with_reducible refine up_drewN ?_ _) | (with_reducible refine up_drew ?_) | (with_reducible refine up_set ?_ (by first | (simp; done) | (simp; omega) | omega) _) | (refine up_trans ?_ (by with_reducible assumption))))⟩
  have HC := hide hc
  have HO := hide ho
  clear hc ho
  obtain ⟨n, hN⟩ : ∃ n, ps.length = n := ⟨_, rfl⟩
  rw [hN] at hn ⊢
  have HN := hide hN
  clear hN
  go_enter Tryz.func52, Tryz.ntmps52
  go_wp2_with fail
  go_loopw [3, 4] (fun s i wr => ∃ k : Nat, k ≤ n ∧ s = .int .i64 (mas (ps.take k)) ∧ i = .int .i64 k ∧ Up w wr) (fun _ i _ => n - (intOf i).toNat)
  case atStart => exact ⟨0, by omega, rfl, rfl, (by repeat' (first | (with_reducible exact up_refl _) | (with_reducible assumption) | (with_reducible refine up_alloc ?_ _) | (with_reducible refine up_drewN ?_ _) | (with_reducible refine up_drew ?_) | (with_reducible refine up_set ?_ (by first | (simp; done) | (simp; omega) | omega) _) | (refine up_trans ?_ (by with_reducible assumption))))⟩
  case round =>
    obtain ⟨k, hk, rfl, rfl, hu⟩ := hrel
    by_cases hlt : k < n
    · have hl : k < ps.length := by rw [unhide HN]; exact hlt
      have hp := pceAt_up (unhide HC k hl) hu
      obtain ⟨d0, d1, d2, d3, d4, d5, d6⟩ := hp
      have bk := mas_bd (unhide HO) k (by rw [unhide HN]; exact hk)
      have bs := mas_bd (unhide HO) (k + 1) hl
      have ht := mas_take hl
      obtain ⟨S, hS⟩ : ∃ S, mas (ps.take k) = S := ⟨_, rfl⟩
      obtain ⟨m, hm⟩ : ∃ m, ps[k].m = m := ⟨_, rfl⟩
      rw [hS] at bk ht ⊢
      rw [hm] at d6 ht
      have HT := hide ht
      have hw1 : IntKind.i64.wrap (S + m) = S + m := IntWalk.i64_in _ ⟨by omega, by omega⟩
      have hw2 : IntKind.i64.wrap ((k : Int) + 1) = (k : Int) + 1 := IntWalk.i64_in _ ⟨by omega, by omega⟩
      clear bk bs ht hS hm
      go_wp2_with fail
      go_roundw
      case rel => exact ⟨k + 1, by omega, by rw [unhide HT], by first | rfl | trivial | go_num, (by repeat' (first | (with_reducible exact up_refl _) | (with_reducible assumption) | (with_reducible refine up_alloc ?_ _) | (with_reducible refine up_drewN ?_ _) | (with_reducible refine up_drew ?_) | (with_reducible refine up_set ?_ (by first | (simp; done) | (simp; omega) | omega) _) | (refine up_trans ?_ (by with_reducible assumption))))⟩
      case measure => simp [intOf]; omega
    · obtain rfl : k = n := by omega
      have hF : mas (ps.take k) = mas ps := by rw [List.take_of_length_le (by rw [unhide HN]; omega)]
      have HF := hide hF
      clear hF
      go_wp2_with fail
      go_ret
      exact ⟨by rw [← unhide HF]; rfl, hu⟩
theorem mas_pre {ps : List Pce} {k : Nat} (hk : k ≤ ps.length) (h : okPs (ps.take k) = true) : 0 ≤ mas (ps.take k) ∧ mas (ps.take k) ≤ 16777216 * k := by
  have t := mas_bd h k (by simp; omega)
  rwa [List.take_take, Nat.min_self] at t
set_option maxRecDepth 100000 in
set_option maxHeartbeats 16000000 in
theorem r_CheckL (s : ByteArray) (A : Option Addr) (ps : List Pce) (capA : Nat) (B : Option Addr) (ys : List Eye) (capB : Nat) (f : Int) (w : World) (hA : Pcs w A ps) (hB : Eyes w B ys) (hn : ps.length ≤ 9223372036854775807) (hm : ys.length ≤ 9223372036854775807) :
    Calls Tryz.prog 17 #[loV s A ps.length capA B ys.length capB f] w fun e w' => e = .returned (.int .i64 (loE s ps ys f)) ∧ Up w w' := by
  have HE6 := hide (lo6 (s := s) (ps := ps) (ys := ys) (f := f))
  have HE2 := hide (lo2 (s := s) (ps := ps) (ys := ys) (f := f))
  have HE0 := hide (lo0 (s := s) (ps := ps) (ys := ys) (f := f))
  have HP := hide (fun x y z l wd h m W => r_piece x y z l wd h m W)
  have HY := hide (fun x y z t W => r_eye x y z t W)
  have HNm := hide (fun W => r_Named s W)
  have HF := hide (fun W => r_withinL f 0 1000 W)
  have HW := hide (fun W => r_withinL (mas ps) 1 16777216 W)
  have HA := hide hA
  have HB := hide hB
  clear hA hB
  generalize loE s ps ys f = E at *
  generalize nmS s = q0 at *
  generalize win f 0 1000 = q1 at *
  obtain ⟨q3, hq3⟩ : ∃ q, win (mas ps) 1 16777216 = q := ⟨_, rfl⟩
  rw [hq3] at HE2 HE0 HW
  clear hq3
  obtain ⟨n, hN⟩ : ∃ n, ps.length = n := ⟨_, rfl⟩
  obtain ⟨m, hM⟩ : ∃ n, ys.length = n := ⟨_, rfl⟩
  rw [hN] at hn HE6 HE2 HE0 ⊢
  rw [hM] at hm HE6 HE2 HE0 ⊢
  have HN := hide hN
  have HM := hide hM
  clear hN hM
  by_cases g1 : (1 : Int) ≤ n
  rotate_left
  · have F := hide (unhide HE6 (by omega))
    go_enter Tryz.func17, Tryz.ntmps17
    go_wp2_with fail
    go_ret
    exact ⟨by rw [unhide F]; rfl, (by repeat' (first | (with_reducible exact up_refl _) | (with_reducible assumption) | (with_reducible refine up_alloc ?_ _) | (with_reducible refine up_drewN ?_ _) | (with_reducible refine up_drew ?_) | (with_reducible refine up_set ?_ (by first | (simp; done) | (simp; omega) | omega) _) | (refine up_trans ?_ (by with_reducible assumption))))⟩
  by_cases g2 : 32 < (n : Int)
  · have F := hide (unhide HE6 (by omega))
    go_enter Tryz.func17, Tryz.ntmps17
    go_wp2_with fail
    go_ret
    exact ⟨by rw [unhide F]; rfl, (by repeat' (first | (with_reducible exact up_refl _) | (with_reducible assumption) | (with_reducible refine up_alloc ?_ _) | (with_reducible refine up_drewN ?_ _) | (with_reducible refine up_drew ?_) | (with_reducible refine up_set ?_ (by first | (simp; done) | (simp; omega) | omega) _) | (refine up_trans ?_ (by with_reducible assumption))))⟩
  by_cases g3 : 32 < (m : Int)
  · have F := hide (unhide HE6 (by omega))
    go_enter Tryz.func17, Tryz.ntmps17
    go_wp2_with fail
    go_ret
    exact ⟨by rw [unhide F]; rfl, (by repeat' (first | (with_reducible exact up_refl _) | (with_reducible assumption) | (with_reducible refine up_alloc ?_ _) | (with_reducible refine up_drewN ?_ _) | (with_reducible refine up_drew ?_) | (with_reducible refine up_set ?_ (by first | (simp; done) | (simp; omega) | omega) _) | (refine up_trans ?_ (by with_reducible assumption))))⟩
  have HG := hide (show 1 ≤ n ∧ n ≤ 32 ∧ m ≤ 32 by omega)
  have hE2 := hide (fun h => unhide HE2 (unhide HG) h)
  have hE0 := hide (fun a b c d => unhide HE0 (unhide HG) a b c d)
  have hn' : n ≤ 32 := by omega
  have hm' : m ≤ 32 := by omega
  clear HE6 HE2 HE0 hn hm
  go_enter Tryz.func17, Tryz.ntmps17
  go_upto_region 1 with fail
  refine at_wp (fun W0 hW0 => ?_)
  have U0 : Up w W0 := by rw [hW0]; exact (by repeat' (first | (with_reducible exact up_refl _) | (with_reducible assumption) | (with_reducible refine up_alloc ?_ _) | (with_reducible refine up_drewN ?_ _) | (with_reducible refine up_drew ?_) | (with_reducible refine up_set ?_ (by first | (simp; done) | (simp; omega) | omega) _) | (refine up_trans ?_ (by with_reducible assumption))))
  have B0 : Bx W0 w.heap.size [.string s, .slice A n capA, .slice B m capB, .int .i64 f] := by rw [hW0]; exact bx_new w _ 25
  clear hW0
  have c1 := (B0 1 _ rfl).1
  have c2 := (B0 2 _ rfl).1
  go_wp2_with fail
  clear g1 g2 g3
  go_loopw [3, 4] (fun t i wr => ∃ k : Nat, k ≤ n ∧ t = .int .i64 (mas (ps.take k)) ∧ i = .int .i64 k ∧ Up W0 wr ∧ okPs (ps.take k) = true) (fun _ i _ => n - (intOf i).toNat)
  case atStart => exact ⟨0, by omega, rfl, rfl, up_refl _, rfl⟩
  case round =>
    obtain ⟨k, hk, rfl, rfl, hu, ho⟩ := hrel
    have HO := hide ho
    clear ho c1 c2
    have B1 := bx_up B0 hu
    have c1 := (B1 1 _ rfl).1
    by_cases hlt : k < n
    · have hl : k < ps.length := by rw [unhide HN]; exact hlt
      rcases pcs_up (unhide HA) (up_trans U0 hu) with hnil | ⟨b, off, rfl, hc⟩
      · rw [hnil] at hl; simp at hl
      obtain ⟨d0, d1, d2, d3, d4, d5, d6⟩ := hc k hl
      clear hc
      have HI := hide (fun W => unhide HP ps[k].x ps[k].y ps[k].z ps[k].l ps[k].w ps[k].h ps[k].m W)
      have HFa := hide (fun h => all_atP (f := okP) hl h)
      have HT := hide (fun h => all_take (f := okP) hl (unhide HO) h)
      have hms := hide (fun h => mas_pre (ps := ps) (k := k + 1) hl h)
      have hmk := hide (mas_pre (ps := ps) (Nat.le_of_lt hl) (unhide HO))
      have hmt := hide (mas_take hl)
      have hq : okP ps[k] = okP ⟨ps[k].x, ps[k].y, ps[k].z, ps[k].l, ps[k].w, ps[k].h, ps[k].m⟩ := rfl
      rw [hq] at HFa HT
      generalize ps[k].x = x at *
      generalize ps[k].y = y at *
      generalize ps[k].z = z at *
      generalize ps[k].l = l at *
      generalize ps[k].w = wd at *
      generalize ps[k].h = h at *
      generalize ps[k].m = mm at *
      clear hq
      generalize okP ⟨x, y, z, l, wd, h, mm⟩ = q at *
      generalize mas (ps.take k) = S at *
      cases q
      · have HF2 := hide (unhide hE2 (.inr (.inr (.inl (by rw [show okPs ps = false from unhide HFa rfl]; rfl)))))
        clear HFa HT hms hE2 hE0
        go_wp2_with (go_at_call 60; (with_reducible refine (unhide HI _).mono ?_); rintro e w1 ⟨rfl, hb⟩)
        go_ret
        exact ⟨by rw [unhide HF2]; rfl, (by repeat' (first | (with_reducible exact up_refl _) | (with_reducible assumption) | (with_reducible refine up_alloc ?_ _) | (with_reducible refine up_drewN ?_ _) | (with_reducible refine up_drew ?_) | (with_reducible refine up_set ?_ (by first | (simp; done) | (simp; omega) | omega) _) | (refine up_trans ?_ (by with_reducible assumption))))⟩
      · have HT2 := hide (show okPs (ps.take (k + 1)) = true from unhide HT rfl)
        have b1 := unhide hmk
        have b2 := unhide hms (unhide HT2)
        have b3 := unhide hmt
        have hw1 : IntKind.i64.wrap (S + mm) = S + mm := IntWalk.i64_in _ ⟨by omega, by omega⟩
        have hw2 : IntKind.i64.wrap ((k : Int) + 1) = (k : Int) + 1 := IntWalk.i64_in _ ⟨by omega, by omega⟩
        clear HFa HT hms hmk b1 b2 b3
        go_wp2_with (go_at_call 60; (with_reducible refine (unhide HI _).mono ?_); rintro e w1 ⟨rfl, hb⟩; have k1 := (bx_up B1 hb 1 _ rfl).1; have k6 := up_cell hb d6)
        go_roundw
        case rel => exact ⟨k + 1, by omega, by rw [unhide hmt], by first | rfl | trivial | go_num, (by repeat' (first | (with_reducible exact up_refl _) | (with_reducible assumption) | (with_reducible refine up_alloc ?_ _) | (with_reducible refine up_drewN ?_ _) | (with_reducible refine up_drew ?_) | (with_reducible refine up_set ?_ (by first | (simp; done) | (simp; omega) | omega) _) | (refine up_trans ?_ (by with_reducible assumption)))), unhide HT2⟩
        case measure => simp [intOf]; omega
    · obtain rfl : k = n := by omega
      have hfull : ps.take k = ps := List.take_of_length_le (by rw [unhide HN]; omega)
      rw [hfull] at HO ⊢
      have HOk := hide (unhide HO)
      clear HO hfull
      have V1 := up_trans U0 hu
      have c2 := (B1 2 _ rfl).1
      generalize mas ps = S at *
      clear hu HP HA
      go_wp2_with fail
      obtain ⟨wo, hwo⟩ : ∃ wo, wo = wr := ⟨_, rfl⟩
      rw [← hwo] at V1 B1 c1 c2 ⊢
      clear hwo
      go_loopw [5] (fun i wr => ∃ k : Nat, k ≤ m ∧ i = .int .i64 k ∧ Up wo wr ∧ okYs (ys.take k) = true) (fun i _ => m - (intOf i).toNat)
      case atStart => exact ⟨0, by omega, rfl, up_refl _, rfl⟩
      case round =>
        obtain ⟨j, hj, rfl, hu, ho⟩ := hrel
        have HO := hide ho
        have V2 := up_trans V1 hu
        have B2 := bx_up B1 hu
        clear ho c1 c2
        have c2 := (B2 2 _ rfl).1
        by_cases hlt : j < m
        · have hl : j < ys.length := by rw [unhide HM]; exact hlt
          rcases eyes_up (unhide HB) V2 with hnil | ⟨b, off, rfl, hc⟩
          · rw [hnil] at hl; simp at hl
          obtain ⟨d0, d1, d2, d3⟩ := hc j hl
          clear hc
          have HI := hide (fun W => unhide HY ys[j].x ys[j].y ys[j].z ys[j].s W)
          have HFa := hide (fun h => all_atP (f := okY) hl h)
          have HT := hide (fun h => all_take (f := okY) hl (unhide HO) h)
          have hq : okY ys[j] = okY ⟨ys[j].x, ys[j].y, ys[j].z, ys[j].s⟩ := rfl
          rw [hq] at HFa HT
          generalize ys[j].x = x at *
          generalize ys[j].y = y at *
          generalize ys[j].z = z at *
          generalize ys[j].s = t at *
          clear hq
          generalize okY ⟨x, y, z, t⟩ = q at *
          cases q
          · have HF2 := hide (unhide hE2 (.inr (.inr (.inl (by rw [show okYs ys = false from unhide HFa rfl, Bool.and_false])))))
            clear HFa HT hE2 hE0
            go_wp2_with (go_at_call 61; (with_reducible refine (unhide HI _).mono ?_); rintro e w1 ⟨rfl, hb⟩)
            go_ret
            exact ⟨by rw [unhide HF2]; rfl, (by repeat' (first | (with_reducible exact up_refl _) | (with_reducible assumption) | (with_reducible refine up_alloc ?_ _) | (with_reducible refine up_drewN ?_ _) | (with_reducible refine up_drew ?_) | (with_reducible refine up_set ?_ (by first | (simp; done) | (simp; omega) | omega) _) | (refine up_trans ?_ (by with_reducible assumption))))⟩
          · have HT2 := hide (show okYs (ys.take (j + 1)) = true from unhide HT rfl)
            clear HFa HT
            have hw2 : IntKind.i64.wrap ((j : Int) + 1) = (j : Int) + 1 := IntWalk.i64_in _ ⟨by omega, by omega⟩
            go_wp2_with (go_at_call 61; (with_reducible refine (unhide HI _).mono ?_); rintro e w1 ⟨rfl, hb⟩)
            go_roundw
            case rel => exact ⟨j + 1, by omega, by first | rfl | trivial | go_num, (by repeat' (first | (with_reducible exact up_refl _) | (with_reducible assumption) | (with_reducible refine up_alloc ?_ _) | (with_reducible refine up_drewN ?_ _) | (with_reducible refine up_drew ?_) | (with_reducible refine up_set ?_ (by first | (simp; done) | (simp; omega) | omega) _) | (refine up_trans ?_ (by with_reducible assumption)))), unhide HT2⟩
            case measure => simp [intOf]; omega
        · obtain rfl : j = m := by omega
          have HYs := hide (show okYs ys = true by have t := unhide HO; rwa [List.take_of_length_le (by rw [unhide HM]; omega)] at t)
          have HQ2 := hide (show (okPs ps && okYs ys) = true by rw [unhide HOk, unhide HYs]; rfl)
          have c0 := (B2 0 _ rfl).1
          clear HO HY HB
          cases q0
          · have HF2 := hide (unhide hE2 (.inl rfl))
            clear hE2 hE0
            go_wp2_with (go_at_call 62; (with_reducible refine (unhide HNm _).mono ?_); rintro e w1 ⟨rfl, hb⟩)
            go_ret
            exact ⟨by rw [unhide HF2]; rfl, up_trans V2 hb⟩
          cases q3
          · have HF2 := hide (unhide hE2 (.inr (.inr (.inr rfl))))
            clear hE2 hE0 HF
            go_wp2_with (first | (go_at_call 62; (with_reducible refine (unhide HNm _).mono ?_); rintro e w1 ⟨rfl, hb⟩) | (go_at_call 63; (with_reducible refine (unhide HW _).mono ?_); rintro e w2 ⟨rfl, rfl⟩))
            go_ret
            exact ⟨by rw [unhide HF2]; rfl, up_trans V2 hb⟩
          cases q1
          · have HF2 := hide (unhide hE2 (.inr (.inl rfl)))
            clear hE2 hE0
            go_wp2_with (first | (go_at_call 62; (with_reducible refine (unhide HNm _).mono ?_); rintro e w1 ⟨rfl, hb⟩; have k3 := (bx_up B2 hb 3 _ rfl).1) | (go_at_call 63; (with_reducible refine (unhide HW _).mono ?_); rintro e w2 ⟨rfl, rfl⟩) | (go_at_call 63; (with_reducible refine (unhide HF _).mono ?_); rintro e w2 ⟨rfl, rfl⟩))
            go_ret
            exact ⟨by rw [unhide HF2]; rfl, up_trans V2 hb⟩
          · have HF2 := hide (unhide hE0 rfl rfl (unhide HQ2) rfl)
            clear hE2 hE0
            go_wp2_with (first | (go_at_call 62; (with_reducible refine (unhide HNm _).mono ?_); rintro e w1 ⟨rfl, hb⟩; have k3 := (bx_up B2 hb 3 _ rfl).1) | (go_at_call 63; (with_reducible refine (unhide HW _).mono ?_); rintro e w2 ⟨rfl, rfl⟩) | (go_at_call 63; (with_reducible refine (unhide HF _).mono ?_); rintro e w2 ⟨rfl, rfl⟩))
            go_ret
            exact ⟨by rw [unhide HF2]; rfl, up_trans V2 hb⟩
set_option maxRecDepth 100000 in
theorem r_MassL (s : ByteArray) (A : Option Addr) (ps : List Pce) (capA : Nat) (B : Option Addr) (ys : List Eye) (capB : Nat) (f : Int) (w : World) (hA : Pcs w A ps) (hB : Eyes w B ys) (hn : ps.length ≤ 9223372036854775807) (hm : ys.length ≤ 9223372036854775807) :
    Calls Tryz.prog 11 #[loV s A ps.length capA B ys.length capB f] w fun e w' => e = .returned (.tuple #[.int .i64 (loM s ps ys f), .int .i64 (loE s ps ys f)]) ∧ Up w w' := by
  have HC := hide (fun W (hW : Up w W) => r_CheckL s A ps capA B ys capB f W (pcs_up hA hW) (eyes_up hB hW) hn hm)
  have HM := hide (fun W (hW : Up w W) (he : loE s ps ys f = 0) => r_mass2 A ps capA W (pcs_up hA hW) (loE_ok he).2.2.2.1 (loE_ok he).1.2.1)
  unfold loM
  clear hA hB
  generalize loE s ps ys f = E at *
  generalize mas ps = S at *
  generalize ps.length = n at *
  generalize ys.length = m at *
  go_enter Tryz.func11, Tryz.ntmps11
  go_upto_region 1 with fail
  refine at_wp (fun W0 hW0 => ?_)
  have U0 : Up w W0 := by rw [hW0]; exact (by repeat' (first | (with_reducible exact up_refl _) | (with_reducible assumption) | (with_reducible refine up_alloc ?_ _) | (with_reducible refine up_drewN ?_ _) | (with_reducible refine up_drew ?_) | (with_reducible refine up_set ?_ (by first | (simp; done) | (simp; omega) | omega) _) | (refine up_trans ?_ (by with_reducible assumption))))
  have B0 : Bx W0 w.heap.size [.string s, .slice A n capA, .slice B m capB, .int .i64 f] := by rw [hW0]; exact bx_new w _ 25
  clear hW0
  have c0 := (B0 0 _ rfl).1
  have c1 := (B0 1 _ rfl).1
  have c2 := (B0 2 _ rfl).1
  have c3 := (B0 3 _ rfl).1
  by_cases he : E = 0
  · subst he
    have HM2 := hide (fun W hW => unhide HM W hW rfl)
    clear HM
    go_wp2_with (first | (go_at_call 17; (with_reducible refine (unhide HC _ U0).mono ?_); rintro e w1 ⟨rfl, hb⟩; have k1 := (bx_up B0 hb 1 _ rfl).1; have U1 := up_trans U0 hb) | (go_at_call 52; (with_reducible refine (unhide HM2 _ U1).mono ?_); rintro e w2 ⟨rfl, hb2⟩))
    go_returns
    exact ⟨rfl, up_trans U1 hb2⟩
  · have t : (E == 0) = false := by simp [he]
    have HH := hide he
    clear he
    have HC2 := hide (fun W hW => unhide HC W hW)
    go_wp2_with (go_at_call 17; (with_reducible refine (unhide HC _ (by first | exact U2 | exact U1 | exact U0)).mono ?_); rintro e w1 ⟨rfl, hb⟩; first | (have U2 := up_trans U1 hb) | (have U1 := up_trans U0 hb; have B1 := bx_up B0 hb; have k0 := (B1 0 _ rfl).1; have k1 := (B1 1 _ rfl).1; have k2 := (B1 2 _ rfl).1; have k3 := (B1 3 _ rfl).1))
    go_returns
    exact ⟨by first | rfl | (rw [if_neg (unhide HH)]; rfl), by first | exact U2 | exact U1⟩
end Go.Proofs.YtdehnokcjnbjoaaGreat
