/- The height of a platform on the ground: the document's own answer. -/
import Derived.Test.YtgjcpgmnflpdkaaRefBeyond
namespace Go.Proofs.Ytgjcpgmnflpdkaa
open Go.RowKit Go.Proofs.Gn
theorem r_dv {p D l : Int} (hD : 1 ≤ D ∧ D ≤ 2849934139195392) (hp : ov p D = false) (hl : -983040 ≤ l ∧ l ≤ 983040) :
    (l < 0 → ∀ W : World, Calls Try.prog 91 #[.int .i64 (-l), .int .i64 (-p), .int .i64 D] W fun e w' => e = .returned (.int .i64 (p * l / D)) ∧ W = w') ∧
    (0 ≤ l → ∀ W : World, Calls Try.prog 91 #[.int .i64 l, .int .i64 p, .int .i64 D] W fun e w' => e = .returned (.int .i64 (p * l / D)) ∧ W = w') := by
  have b := ov_no hp
  refine ⟨fun h W => ?_, fun h W => ?_⟩
  · have t := r_Down (-l) (-p) D W (by omega) (by omega) (by omega) (by omega)
    have e : -l * -p = p * l := by grind
    rw [e] at t; exact t
  · have t := r_Down l p D W (by omega) (by omega) (by omega) (by omega)
    rw [Int.mul_comm l p] at t; exact t
theorem lv_bd {ps : List Gs.Sup} {gs : List Int} (hb : gsB gs = true) (l : gs.length = ps.length) (hn : ps.length ≤ 48) (g f : Int) (hf : 0 ≤ f ∧ f ≤ 196608) : -983040 ≤ f + gk g ps gs ps.length ∧ f + gk g ps gs ps.length ≤ 983040 := by
  have := gk_bd (ps := ps) (gs := gs) (k := ps.length) (by rw [List.take_of_length_le (by omega)]; exact hb) (by omega) (by omega) g
  omega
/-- The height is that of the bed. -/
def heV (ps : List Gs.Sup) (gs : List Int) (f0 f1 f2 X Y : Int) : Int := hoS ps X Y (f0 + gk 0 ps gs ps.length) (f1 + gk 1 ps gs ps.length) (f2 + gk 2 ps gs ps.length)
theorem flB_bd {f0 f1 f2 : Int} (h : flB f0 f1 f2 = true) : (0 ≤ f0 ∧ f0 ≤ 196608) ∧ (0 ≤ f1 ∧ f1 ≤ 196608) ∧ (0 ≤ f2 ∧ f2 ≤ 196608) := by
  unfold flB at h
  rw [Bool.and_eq_true, Bool.and_eq_true, win_iff, win_iff, win_iff] at h
  exact h
theorem hoB_no {ps : List Gs.Sup} {X Y : Int} (h : hoB ps X Y = false) : ov (pa0 ps X Y) (paD ps) = false ∧ ov (pa1 ps X Y) (paD ps) = false ∧ ov (pa2 ps X Y) (paD ps) = false := by
  unfold hoB at h
  rw [Bool.or_eq_false_iff, Bool.or_eq_false_iff] at h
  exact h
set_option maxRecDepth 100000 in
set_option maxHeartbeats 40000000 in
theorem r_height (A : Option Addr) (ps : List Gs.Sup) (cap : Nat) (B : Option Addr) (gs : List Int) (capg : Nat) (f0 f1 f2 X Y : Int) (hz : atE ps X Y = 0) (ho : hoB ps X Y = false) (hf : flB f0 f1 f2 = true) (hb : gsB gs = true) (hl : gs.length = ps.length) (w : World) (h : Sups w A ps) (hg : Ints w B gs) :
    Calls Try.prog 78 #[.slice A ps.length cap, .agg #[.int .i64 f0, .int .i64 f1, .int .i64 f2], .slice B gs.length capg, pt X Y] w fun e w' => e = .returned (.int .i64 (heV ps gs f0 f1 f2 X Y)) ∧ Up w w' := by
  have HP := hide (fun (W : World) (hW : Up w W) => r_parts A ps cap X Y hz W (sups_up h hW))
  have hd := paD_bd (atE_ok hz).1
  have hok := chE_ok (atE_ok hz).1
  obtain ⟨n0, n1, n2⟩ := hoB_no ho
  obtain ⟨w0, w1, w2⟩ := flB_bd hf
  have lb0 := lv_bd hb hl hok.2.1 0 f0 w0
  have lb1 := lv_bd hb hl hok.2.1 1 f1 w1
  have lb2 := lv_bd hb hl hok.2.1 2 f2 w2
  have D0 := hide (r_dv hd n0 lb0)
  have D1 := hide (r_dv hd n1 lb1)
  have D2 := hide (r_dv hd n2 lb2)
  obtain ⟨db0, db1⟩ := dv_bd hd.1 (ov_no n0) lb0
  obtain ⟨db2, db3⟩ := dv_bd hd.1 (ov_no n1) lb1
  obtain ⟨db4, db5⟩ := dv_bd hd.1 (ov_no n2) lb2
  have hpb := pa_bd hz
  obtain ⟨_, ⟨pb0, pb1⟩, ⟨pb2, pb3⟩, pb4, pb5⟩ := hpb
  unfold heV hoS
  rcases h with hx | ⟨ba, off, rfl, hc⟩
  · rw [hx] at hok; exact absurd hok.2.2.1 (by simp)
  rcases hg with hx | ⟨bg, offg, rfl, hcg⟩
  · rw [hx] at hl; have := hok.2.2.1; rw [← hl] at this; exact absurd this (by simp)
  have HC := hide hc
  have HG := hide hcg
  have HB := hide hb
  have hlen := hok.2.1
  clear hc hcg hok hz ho hb hf n0 n1 n2 hd
  obtain ⟨n, hN⟩ : ∃ n, ps.length = n := ⟨_, rfl⟩
  have HM := hide (hl.trans hN)
  have HN := hide hN
  rw [hl]
  rw [hN] at HP hlen D0 D1 D2 lb0 lb1 lb2 db0 db1 db2 db3 db4 db5 ⊢
  clear hN hl
  generalize pa0 ps X Y = p0 at *
  generalize pa1 ps X Y = p1 at *
  generalize pa2 ps X Y = p2 at *
  generalize paD ps = D at *
  obtain ⟨L0, hL0⟩ : ∃ x, f0 + gk 0 ps gs n = x := ⟨_, rfl⟩
  obtain ⟨L1, hL1⟩ : ∃ x, f1 + gk 1 ps gs n = x := ⟨_, rfl⟩
  obtain ⟨L2, hL2⟩ : ∃ x, f2 + gk 2 ps gs n = x := ⟨_, rfl⟩
  rw [hL0] at D0 lb0 db0 db1 ⊢
  rw [hL1] at D1 lb1 db2 db3 ⊢
  rw [hL2] at D2 lb2 db4 db5 ⊢
  have HL0 := hide hL0
  have HL1 := hide hL1
  have HL2 := hide hL2
  clear hL0 hL1 hL2
  generalize p0 * L0 / D = q0 at *
  generalize p1 * L1 / D = q1 at *
  generalize p2 * L2 / D = q2 at *
  obtain ⟨lb01, lb02⟩ := lb0
  obtain ⟨lb11, lb12⟩ := lb1
  obtain ⟨lb21, lb22⟩ := lb2
  obtain ⟨w01, w02⟩ := w0
  obtain ⟨w11, w12⟩ := w1
  obtain ⟨w21, w22⟩ := w2
  go_enter Try.func78, Try.ntmps78
  go_upto_region 1 with fail
  refine at_wp (fun W0 hW0 => ?_)
  have U0 : Up w W0 := by rw [hW0]; exact (by repeat' (first | (with_reducible exact up_refl _) | (with_reducible assumption) | (with_reducible refine up_alloc ?_ _) | (with_reducible refine up_drewN ?_ _) | (with_reducible refine up_drew ?_) | (with_reducible refine up_set ?_ (by first | (simp; done) | (simp; omega) | omega) _) | (refine up_trans ?_ (by with_reducible assumption))))
  have F0 : Bx W0 w.heap.size [.int .i64 f0, .int .i64 f1, .int .i64 f2] := by rw [hW0]; exact bx_alloc (bx_new w _ 30) _
  have P0 : Bx W0 (w.heap.size + 1) [.int .i64 X, .int .i64 Y] := by
    rw [hW0]
    have t := bx_new (w.alloc (.cells #[.int .i64 f0, .int .i64 f1, .int .i64 f2] 30)) [.int .i64 X, .int .i64 Y] 29
    rwa [sz1] at t
  clear hW0
  obtain ⟨x0, x1⟩ := bx2 P0
  go_upto_region 2 with (go_at_call 55; (with_reducible refine (unhide HP _ (by repeat' (first | (with_reducible exact up_refl _) | (with_reducible assumption) | (with_reducible refine up_alloc ?_ _) | (with_reducible refine up_drewN ?_ _) | (with_reducible refine up_drew ?_) | (with_reducible refine up_set ?_ (by first | (simp; done) | (simp; omega) | omega) _) | (refine up_trans ?_ (by with_reducible assumption))))).mono ?_); rintro e w1 ⟨rfl, hb1⟩)
  refine at_wp (fun W1 hW1 => ?_)
  have O1 : Bx W1 w1.heap.size [.int .i64 p0, .int .i64 p1, .int .i64 p2] := by rw [hW1]; exact bx_new w1 _ 30
  have F1 : Bx W1 w.heap.size [.int .i64 f0, .int .i64 f1, .int .i64 f2] := by rw [hW1]; exact bx_alloc (bx_up F0 hb1) _
  have U1 : Up w W1 := by rw [hW1]; exact up_alloc (up_trans U0 hb1) _
  clear hW1 hb1 U0 F0 P0 x0 x1 HP
  obtain ⟨o0, o1, o2⟩ := bx3 O1
  obtain ⟨y0, y1, y2⟩ := bx3 F1
  go_wp2_with fail
  go_loopw [11, 12, 13, 14] (fun s11 s12 s13 s14 wr => W1 = wr ∧ ((s12 = .int .i64 0 ∧ s11 = .int .i64 0) ∨ (s12 = .int .i64 1 ∧ s11 = .int .i64 q0) ∨ (s12 = .int .i64 2 ∧ s11 = .int .i64 (q0 + q1)) ∨ (s12 = .int .i64 3 ∧ s11 = .int .i64 (q0 + q1 + q2)))) (fun _ s12 _ _ _ => 3 - (intOf s12).toNat)
  case atStart => exact ⟨rfl, .inl ⟨rfl, rfl⟩⟩
  case round =>
    obtain ⟨rfl, hrel⟩ := hrel
    rcases hrel with ⟨rfl, rfl⟩ | ⟨rfl, rfl⟩ | ⟨rfl, rfl⟩ | ⟨rfl, rfl⟩
    · go_wp2_with fail
      go_loopw [13, 14] (fun s13 s14 wi => ∃ i : Nat, i ≤ n ∧ s14 = .int .i64 i ∧ s13 = .int .i64 (f0 + gk 0 ps gs i) ∧ W1 = wi) (fun _ s14 _ => n - (intOf s14).toNat)
      case atStart => exact ⟨0, by omega, rfl, by rw [gk_zero, Int.add_zero], rfl⟩
      case round =>
        obtain ⟨i, hi, rfl, rfl, rfl⟩ := hrel
        by_cases hlt : i < n
        · have hl : i < ps.length := by rw [unhide HN]; exact hlt
          have hl2 : i < gs.length := by rw [unhide HM]; exact hlt
          obtain ⟨k0, k1, k2, k3, k4, k5⟩ := supAt_up (unhide HC i hl) U1
          have kg := up_cell U1 (unhide HG i hl2)
          have s0 := gk_succ 0 (ps := ps) (gs := gs) hl hl2
          have yb := gsB_at (unhide HB) hl2
          have gb := gk_bd (ps := ps) (gs := gs) (k := i) (by
            have hb := unhide HB
            exact List.all_eq_true.2 fun x hx => List.all_eq_true.1 hb x (List.mem_of_mem_take hx)) (Nat.le_of_lt hl) (Nat.le_of_lt hl2) 0
          obtain ⟨y, hy⟩ : ∃ y, gs[i] = y := ⟨_, rfl⟩
          obtain ⟨g, hg⟩ : ∃ x, ps[i].g = x := ⟨_, rfl⟩
          rw [hy] at kg s0 yb
          rw [hg] at k2 s0
          clear hy hg k0 k1 k3 k4 k5
          have S0 := hide s0
          clear s0
          obtain ⟨M, hM⟩ : ∃ x, gk 0 ps gs i = x := ⟨_, rfl⟩
          rw [hM] at gb S0 ⊢
          clear hM
          obtain ⟨yb1, yb2⟩ := yb
          obtain ⟨gb1, gb2⟩ := gb
          have i0 : (0 : Int) ≤ (i : Int) := by omega
          have i1 : (i : Int) < (n : Int) := by omega
          by_cases cg : g = 0
          · subst cg
            go_wp2_with fail
            go_roundw
            case rel =>
              refine ⟨i + 1, by omega, by go_num, ?_, (by first | rfl | trivial)⟩
              have t := unhide S0
              simp at t
              rw [t, Int.add_assoc]
            case measure => simp [intOf]; omega
          · have cg2 : (g == 0) = false := by simp; exact cg
            go_wp2_with fail
            go_roundw
            case rel =>
              refine ⟨i + 1, by omega, by go_num, ?_, (by first | rfl | trivial)⟩
              have t := unhide S0
              rw [if_neg cg, Int.add_zero] at t
              rw [t]
            case measure => simp [intOf]; omega
        · obtain rfl : i = n := by omega
          rw [unhide HL0]
          obtain ⟨Dn, Dp⟩ := unhide D0
          by_cases cs : L0 < 0
          · have H := hide (Dn cs)
            clear Dn Dp D0 D1 D2
            go_wp2_with (go_at_call 91; (with_reducible refine (unhide H _).mono ?_); rintro e w5 ⟨rfl, rfl⟩)
            go_roundw
            case rel => exact ⟨(by first | rfl | trivial), .inr (.inl ⟨rfl, rfl⟩)⟩
            case measure => simp [intOf]
          · have H := hide (Dp (by omega))
            clear Dn Dp D0 D1 D2
            go_wp2_with (go_at_call 91; (with_reducible refine (unhide H _).mono ?_); rintro e w5 ⟨rfl, rfl⟩)
            go_roundw
            case rel => exact ⟨(by first | rfl | trivial), .inr (.inl ⟨rfl, rfl⟩)⟩
            case measure => simp [intOf]
    · go_wp2_with fail
      go_loopw [13, 14] (fun s13 s14 wi => ∃ i : Nat, i ≤ n ∧ s14 = .int .i64 i ∧ s13 = .int .i64 (f1 + gk 1 ps gs i) ∧ W1 = wi) (fun _ s14 _ => n - (intOf s14).toNat)
      case atStart => exact ⟨0, by omega, rfl, by rw [gk_zero, Int.add_zero], rfl⟩
      case round =>
        obtain ⟨i, hi, rfl, rfl, rfl⟩ := hrel
        by_cases hlt : i < n
        · have hl : i < ps.length := by rw [unhide HN]; exact hlt
          have hl2 : i < gs.length := by rw [unhide HM]; exact hlt
          obtain ⟨k0, k1, k2, k3, k4, k5⟩ := supAt_up (unhide HC i hl) U1
          have kg := up_cell U1 (unhide HG i hl2)
          have s0 := gk_succ 1 (ps := ps) (gs := gs) hl hl2
          have yb := gsB_at (unhide HB) hl2
          have gb := gk_bd (ps := ps) (gs := gs) (k := i) (by
            have hb := unhide HB
            exact List.all_eq_true.2 fun x hx => List.all_eq_true.1 hb x (List.mem_of_mem_take hx)) (Nat.le_of_lt hl) (Nat.le_of_lt hl2) 1
          obtain ⟨y, hy⟩ : ∃ y, gs[i] = y := ⟨_, rfl⟩
          obtain ⟨g, hg⟩ : ∃ x, ps[i].g = x := ⟨_, rfl⟩
          rw [hy] at kg s0 yb
          rw [hg] at k2 s0
          clear hy hg k0 k1 k3 k4 k5
          have S0 := hide s0
          clear s0
          obtain ⟨M, hM⟩ : ∃ x, gk 1 ps gs i = x := ⟨_, rfl⟩
          rw [hM] at gb S0 ⊢
          clear hM
          obtain ⟨yb1, yb2⟩ := yb
          obtain ⟨gb1, gb2⟩ := gb
          have i0 : (0 : Int) ≤ (i : Int) := by omega
          have i1 : (i : Int) < (n : Int) := by omega
          by_cases cg : g = 1
          · subst cg
            go_wp2_with fail
            go_roundw
            case rel =>
              refine ⟨i + 1, by omega, by go_num, ?_, (by first | rfl | trivial)⟩
              have t := unhide S0
              simp at t
              rw [t, Int.add_assoc]
            case measure => simp [intOf]; omega
          · have cg2 : (g == 1) = false := by simp; exact cg
            go_wp2_with fail
            go_roundw
            case rel =>
              refine ⟨i + 1, by omega, by go_num, ?_, (by first | rfl | trivial)⟩
              have t := unhide S0
              rw [if_neg cg, Int.add_zero] at t
              rw [t]
            case measure => simp [intOf]; omega
        · obtain rfl : i = n := by omega
          rw [unhide HL1]
          obtain ⟨Dn, Dp⟩ := unhide D1
          by_cases cs : L1 < 0
          · have H := hide (Dn cs)
            clear Dn Dp D0 D1 D2
            go_wp2_with (go_at_call 91; (with_reducible refine (unhide H _).mono ?_); rintro e w5 ⟨rfl, rfl⟩)
            go_roundw
            case rel => exact ⟨(by first | rfl | trivial), .inr (.inr (.inl ⟨rfl, rfl⟩))⟩
            case measure => simp [intOf]
          · have H := hide (Dp (by omega))
            clear Dn Dp D0 D1 D2
            go_wp2_with (go_at_call 91; (with_reducible refine (unhide H _).mono ?_); rintro e w5 ⟨rfl, rfl⟩)
            go_roundw
            case rel => exact ⟨(by first | rfl | trivial), .inr (.inr (.inl ⟨rfl, rfl⟩))⟩
            case measure => simp [intOf]
    · go_wp2_with fail
      go_loopw [13, 14] (fun s13 s14 wi => ∃ i : Nat, i ≤ n ∧ s14 = .int .i64 i ∧ s13 = .int .i64 (f2 + gk 2 ps gs i) ∧ W1 = wi) (fun _ s14 _ => n - (intOf s14).toNat)
      case atStart => exact ⟨0, by omega, rfl, by rw [gk_zero, Int.add_zero], rfl⟩
      case round =>
        obtain ⟨i, hi, rfl, rfl, rfl⟩ := hrel
        by_cases hlt : i < n
        · have hl : i < ps.length := by rw [unhide HN]; exact hlt
          have hl2 : i < gs.length := by rw [unhide HM]; exact hlt
          obtain ⟨k0, k1, k2, k3, k4, k5⟩ := supAt_up (unhide HC i hl) U1
          have kg := up_cell U1 (unhide HG i hl2)
          have s0 := gk_succ 2 (ps := ps) (gs := gs) hl hl2
          have yb := gsB_at (unhide HB) hl2
          have gb := gk_bd (ps := ps) (gs := gs) (k := i) (by
            have hb := unhide HB
            exact List.all_eq_true.2 fun x hx => List.all_eq_true.1 hb x (List.mem_of_mem_take hx)) (Nat.le_of_lt hl) (Nat.le_of_lt hl2) 2
          obtain ⟨y, hy⟩ : ∃ y, gs[i] = y := ⟨_, rfl⟩
          obtain ⟨g, hg⟩ : ∃ x, ps[i].g = x := ⟨_, rfl⟩
          rw [hy] at kg s0 yb
          rw [hg] at k2 s0
          clear hy hg k0 k1 k3 k4 k5
          have S0 := hide s0
          clear s0
          obtain ⟨M, hM⟩ : ∃ x, gk 2 ps gs i = x := ⟨_, rfl⟩
          rw [hM] at gb S0 ⊢
          clear hM
          obtain ⟨yb1, yb2⟩ := yb
          obtain ⟨gb1, gb2⟩ := gb
          have i0 : (0 : Int) ≤ (i : Int) := by omega
          have i1 : (i : Int) < (n : Int) := by omega
          by_cases cg : g = 2
          · subst cg
            go_wp2_with fail
            go_roundw
            case rel =>
              refine ⟨i + 1, by omega, by go_num, ?_, (by first | rfl | trivial)⟩
              have t := unhide S0
              simp at t
              rw [t, Int.add_assoc]
            case measure => simp [intOf]; omega
          · have cg2 : (g == 2) = false := by simp; exact cg
            go_wp2_with fail
            go_roundw
            case rel =>
              refine ⟨i + 1, by omega, by go_num, ?_, (by first | rfl | trivial)⟩
              have t := unhide S0
              rw [if_neg cg, Int.add_zero] at t
              rw [t]
            case measure => simp [intOf]; omega
        · obtain rfl : i = n := by omega
          rw [unhide HL2]
          obtain ⟨Dn, Dp⟩ := unhide D2
          by_cases cs : L2 < 0
          · have H := hide (Dn cs)
            clear Dn Dp D0 D1 D2
            go_wp2_with (go_at_call 91; (with_reducible refine (unhide H _).mono ?_); rintro e w5 ⟨rfl, rfl⟩)
            go_roundw
            case rel => exact ⟨(by first | rfl | trivial), .inr (.inr (.inr ⟨rfl, rfl⟩))⟩
            case measure => simp [intOf]
          · have H := hide (Dp (by omega))
            clear Dn Dp D0 D1 D2
            go_wp2_with (go_at_call 91; (with_reducible refine (unhide H _).mono ?_); rintro e w5 ⟨rfl, rfl⟩)
            go_roundw
            case rel => exact ⟨(by first | rfl | trivial), .inr (.inr (.inr ⟨rfl, rfl⟩))⟩
            case measure => simp [intOf]
    · go_wp2_with fail
      go_ret
      exact ⟨rfl, (by repeat' (first | (with_reducible exact up_refl _) | (with_reducible assumption) | (with_reducible refine up_alloc ?_ _) | (with_reducible refine up_drewN ?_ _) | (with_reducible refine up_drew ?_) | (with_reducible refine up_set ?_ (by first | (simp; done) | (simp; omega) | omega) _) | (refine up_trans ?_ (by with_reducible assumption))))⟩
end Go.Proofs.Ytgjcpgmnflpdkaa
