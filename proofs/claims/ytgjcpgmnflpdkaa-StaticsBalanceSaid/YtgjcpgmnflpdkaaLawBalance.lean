/- StaticsBalance: the law's function returns true. -/
import Derived.Test.YtgjcpgmnflpdkaaKnown
namespace Go.Proofs.Ytgjcpgmnflpdkaa
open Go.RowKit Go.Proofs.Gn
theorem wrap3 (a b c : Int) : IntKind.i64.wrap (IntKind.i64.wrap (IntKind.i64.wrap a + IntKind.i64.wrap b) + IntKind.i64.wrap c) = IntKind.i64.wrap (a + b + c) := by
  simp only [IntKind.wrap_i64]; omega
theorem wrap_wrap (a : Int) : IntKind.i64.wrap (IntKind.i64.wrap a) = IntKind.i64.wrap a := by
  simp only [IntKind.wrap_i64]; omega
theorem bal_facts {ps : List Gs.Sup} {X Y : Int} (h : atE ps X Y = 0) : 0 < paD ps ∧ paD ps ≤ 11399736556781568 ∧ pa0 ps X Y * Gs.cN 0 ps + pa1 ps X Y * Gs.cN 1 ps + pa2 ps X Y * Gs.cN 2 ps = paD ps ∧ pa0 ps X Y * Gs.cX 0 ps + pa1 ps X Y * Gs.cX 1 ps + pa2 ps X Y * Gs.cX 2 ps = paD ps * X ∧ pa0 ps X Y * Gs.cY 0 ps + pa1 ps X Y * Gs.cY 1 ps + pa2 ps X Y * Gs.cY 2 ps = paD ps * Y := by
  obtain ⟨o1, o2, o3, o4⟩ := chE_ok (atE_ok h).1
  obtain ⟨s1, s2, s3, s4⟩ := pa_sum o4 X Y
  exact ⟨s1, (pa_bd h).1, s2, s3, s4⟩
theorem bal_bad {ps : List Gs.Sup} {X Y : Int} (h : chE ps = 0) (h2 : ¬ atE ps X Y = 0) : atE ps X Y = 3 := by
  unfold atE at *
  rw [if_pos h] at *
  unfold ptE at *
  split
  · rename_i h3; rw [if_pos h3] at h2; exact absurd rfl h2
  · rfl
theorem at_ch {ps : List Gs.Sup} {X Y : Int} (h : ¬ chE ps = 0) : atE ps X Y = chE ps := by unfold atE; rw [if_neg h]
set_option maxRecDepth 100000 in
set_option maxHeartbeats 40000000 in
theorem l_Balance (A : Option Addr) (ps : List Gs.Sup) (cap : Nat) (X Y : Int) (w : World) (h : Sups w A ps) (hn : ps.length ≤ 9223372036854775807) :
    Calls Try.prog 4 #[.slice A ps.length cap, pt X Y] w fun e w' => e = .returned (.bool true) ∧ Below w.heap.size w w' := by
  have hS := hide (fun (W : World) (hW : Up w W) => p_Sums A ps cap hn W (sups_up h hW))
  have hP := hide (fun (W : World) (hW : Up w W) => p_Parts A ps cap X Y hn W (sups_up h hW))
  have hF := hide (fun e => bal_facts (ps := ps) (X := X) (Y := Y) e)
  have hA := hide (fun e => atE_ok (ps := ps) (X := X) (Y := Y) e)
  have hB := hide (fun e f => bal_bad (ps := ps) (X := X) (Y := Y) e f)
  have hD := hide (fun e => at_ch (ps := ps) (X := X) (Y := Y) e)
  clear h
  unfold suV at hS
  unfold paV at hP
  obtain ⟨n, hN⟩ : ∃ n, ps.length = n := ⟨_, rfl⟩
  rw [hN] at hS hP hn ⊢
  clear hN
  generalize Gs.cN 0 ps = n0 at *
  generalize Gs.cX 0 ps = x0 at *
  generalize Gs.cY 0 ps = y0 at *
  generalize Gs.cN 1 ps = n1 at *
  generalize Gs.cX 1 ps = x1 at *
  generalize Gs.cY 1 ps = y1 at *
  generalize Gs.cN 2 ps = n2 at *
  generalize Gs.cX 2 ps = x2 at *
  generalize Gs.cY 2 ps = y2 at *
  generalize pa0 ps X Y = l0 at *
  generalize pa1 ps X Y = l1 at *
  generalize pa2 ps X Y = l2 at *
  generalize paD ps = D at *
  generalize chE ps = E at *
  generalize atE ps X Y = F at *
  by_cases cl : 48 < n
  · go_enter Try.func4, Try.ntmps4
    go_wp2_with (go_at_call 15; refine (l_known _).mono ?_; rintro e w2 ⟨rfl, hb2⟩)
    go_ret
    exact ⟨rfl, (by repeat' (first | (with_reducible exact up_refl _) | (with_reducible assumption) | (with_reducible refine up_alloc ?_ _) | (with_reducible refine up_drewN ?_ _) | (with_reducible refine up_drew ?_) | (with_reducible refine up_set ?_ (by first | (simp; done) | (simp; omega) | omega) _) | (refine up_trans ?_ (by with_reducible assumption))))⟩
  by_cases cE : E = 0
  · subst cE
    simp only [if_pos] at hS
    by_cases cF : F = 0
    · subst cF
      simp only [if_pos] at hP
      obtain ⟨D1, D2, g0, g1, g2⟩ := unhide hF rfl
      obtain ⟨p00, h00⟩ : ∃ p, IntKind.i64.wrap (l0 * n0) = p := ⟨_, rfl⟩
      obtain ⟨p10, h10⟩ : ∃ p, IntKind.i64.wrap (l1 * n1) = p := ⟨_, rfl⟩
      obtain ⟨p20, h20⟩ : ∃ p, IntKind.i64.wrap (l2 * n2) = p := ⟨_, rfl⟩
      have i0 : IntKind.i64.wrap p00 = p00 := by rw [← h00]; exact wrap_wrap _
      obtain ⟨t0, ht0⟩ : ∃ p, IntKind.i64.wrap (p00 + p10) = p := ⟨_, rfl⟩
      obtain ⟨r0, hr0⟩ : ∃ p, IntKind.i64.wrap (D) = p := ⟨_, rfl⟩
      have j0 : IntKind.i64.wrap (t0 + p20) = r0 := by rw [← ht0, ← h00, ← h10, ← h20, wrap3, g0, hr0]
      obtain ⟨p01, h01⟩ : ∃ p, IntKind.i64.wrap (l0 * x0) = p := ⟨_, rfl⟩
      obtain ⟨p11, h11⟩ : ∃ p, IntKind.i64.wrap (l1 * x1) = p := ⟨_, rfl⟩
      obtain ⟨p21, h21⟩ : ∃ p, IntKind.i64.wrap (l2 * x2) = p := ⟨_, rfl⟩
      have i1 : IntKind.i64.wrap p01 = p01 := by rw [← h01]; exact wrap_wrap _
      obtain ⟨t1, ht1⟩ : ∃ p, IntKind.i64.wrap (p01 + p11) = p := ⟨_, rfl⟩
      obtain ⟨r1, hr1⟩ : ∃ p, IntKind.i64.wrap (D * X) = p := ⟨_, rfl⟩
      have j1 : IntKind.i64.wrap (t1 + p21) = r1 := by rw [← ht1, ← h01, ← h11, ← h21, wrap3, g1, hr1]
      obtain ⟨p02, h02⟩ : ∃ p, IntKind.i64.wrap (l0 * y0) = p := ⟨_, rfl⟩
      obtain ⟨p12, h12⟩ : ∃ p, IntKind.i64.wrap (l1 * y1) = p := ⟨_, rfl⟩
      obtain ⟨p22, h22⟩ : ∃ p, IntKind.i64.wrap (l2 * y2) = p := ⟨_, rfl⟩
      have i2 : IntKind.i64.wrap p02 = p02 := by rw [← h02]; exact wrap_wrap _
      obtain ⟨t2, ht2⟩ : ∃ p, IntKind.i64.wrap (p02 + p12) = p := ⟨_, rfl⟩
      obtain ⟨r2, hr2⟩ : ∃ p, IntKind.i64.wrap (D * Y) = p := ⟨_, rfl⟩
      have j2 : IntKind.i64.wrap (t2 + p22) = r2 := by rw [← ht2, ← h02, ← h12, ← h22, wrap3, g2, hr2]
      have hD0 : r0 = D := by rw [← hr0]; exact IntWalk.i64_in _ ⟨by omega, by omega⟩
      subst hD0
      have hq := fun W => eq3_same r0 r1 r2 W
      clear hF hA hB hD g0 g1 g2
      go_enter Try.func4, Try.ntmps4
      go_wp2_with (first | (go_at_call 16; (with_reducible refine (unhide hS _ (by repeat' (first | (with_reducible exact up_refl _) | (with_reducible assumption) | (with_reducible refine up_alloc ?_ _) | (with_reducible refine up_drewN ?_ _) | (with_reducible refine up_drew ?_) | (with_reducible refine up_set ?_ (by first | (simp; done) | (simp; omega) | omega) _) | (refine up_trans ?_ (by with_reducible assumption))))).mono ?_); rintro e w1 ⟨rfl, hb1⟩; have k0_0 : w1.cell? ⟨w.heap.size, 0, none⟩ = some (.int .i64 X) := up_cell hb1 (by first | (with_reducible assumption) | (refine alloc_cell _ ?_; with_reducible assumption) | go_cell); have k0_1 : w1.cell? ⟨w.heap.size, 1, none⟩ = some (.int .i64 Y) := up_cell hb1 (by first | (with_reducible assumption) | (refine alloc_cell _ ?_; with_reducible assumption) | go_cell); have k2 := fun o => alloc_cell o k0_0; have k3 := fun o => alloc_cell o k0_1) | (go_at_call 17; (with_reducible refine (unhide hP _ (by repeat' (first | (with_reducible exact up_refl _) | (with_reducible assumption) | (with_reducible refine up_alloc ?_ _) | (with_reducible refine up_drewN ?_ _) | (with_reducible refine up_drew ?_) | (with_reducible refine up_set ?_ (by first | (simp; done) | (simp; omega) | omega) _) | (refine up_trans ?_ (by with_reducible assumption))))).mono ?_); rintro e w2 ⟨rfl, hb2⟩))
      obtain ⟨Wb, hWb⟩ : ∃ Wb : World, Wb = w2.alloc (.cells #[.int .i64 l0, .int .i64 l1, .int .i64 l2] 30) := ⟨_, rfl⟩
      rw [← hWb]
      have NB : Bx Wb w2.heap.size [.int .i64 l0, .int .i64 l1, .int .i64 l2] := by rw [hWb]; exact bx_new w2 _ 30
      have ub : Up w2 Wb := by rw [hWb]; exact (by repeat' (first | (with_reducible exact up_refl _) | (with_reducible assumption) | (with_reducible refine up_alloc ?_ _) | (with_reducible refine up_drewN ?_ _) | (with_reducible refine up_drew ?_) | (with_reducible refine up_set ?_ (by first | (simp; done) | (simp; omega) | omega) _) | (refine up_trans ?_ (by with_reducible assumption))))
      have eb : Wb.heap.size = w2.heap.size + 1 := by rw [hWb]; exact sz1 _ _
      have SB : Bx Wb w1.heap.size [.int .i64 n0, .int .i64 x0, .int .i64 y0, .int .i64 n1, .int .i64 x1, .int .i64 y1, .int .i64 n2, .int .i64 x2, .int .i64 y2] := bx_up (bx_up (bx_new w1 _ 31) hb2) ub
      have PB : Bx Wb w.heap.size [.int .i64 X, .int .i64 Y] := bx_up (bx_up (bx_alloc (bx_up (bx_new w _ 29) hb1) _) hb2) ub
      have UB : Up w Wb := (by repeat' (first | (with_reducible exact up_refl _) | (with_reducible assumption) | (with_reducible refine up_alloc ?_ _) | (with_reducible refine up_drewN ?_ _) | (with_reducible refine up_drew ?_) | (with_reducible refine up_set ?_ (by first | (simp; done) | (simp; omega) | omega) _) | (refine up_trans ?_ (by with_reducible assumption))))
      clear hWb ub hb1 hb2 hS hP k0_0 k0_1 k2 k3
      refine at_wp (fun W0 hW0 => ?_)
      have B0 : Bx W0 (w2.heap.size + 1) [.int .i64 0, .int .i64 0, .int .i64 0] := by
        rw [hW0]
        have t := bx_new Wb [.int .i64 0, .int .i64 0, .int .i64 0] 30
        rwa [eb] at t
      have U0 : Up Wb W0 := by rw [hW0]; exact (by repeat' (first | (with_reducible exact up_refl _) | (with_reducible assumption) | (with_reducible refine up_alloc ?_ _) | (with_reducible refine up_drewN ?_ _) | (with_reducible refine up_drew ?_) | (with_reducible refine up_set ?_ (by first | (simp; done) | (simp; omega) | omega) _) | (refine up_trans ?_ (by with_reducible assumption))))
      clear hW0
      refine wp_loop_rounds 4 ?_
      rw [rounds_succ]
      go_wp2_with fail
      go_loopw [12] (fun s12 wr => ((s12 = .int .i64 0 ∧ Bx wr (w2.heap.size + 1) [.int .i64 0, .int .i64 0, .int .i64 0]) ∨ (s12 = .int .i64 1 ∧ Bx wr (w2.heap.size + 1) [.int .i64 p00, .int .i64 0, .int .i64 0]) ∨ (s12 = .int .i64 2 ∧ Bx wr (w2.heap.size + 1) [.int .i64 p00, .int .i64 p01, .int .i64 0]) ∨ (s12 = .int .i64 3 ∧ Bx wr (w2.heap.size + 1) [.int .i64 p00, .int .i64 p01, .int .i64 p02])) ∧ Up Wb wr) (fun s12 _ => 3 - (intOf s12).toNat)
      case atStart => exact ⟨.inl ⟨rfl, B0⟩, U0⟩
      case round =>
        clear B0 U0
        obtain ⟨hrel, hu⟩ := hrel
        rcases hrel with ⟨rfl, hB⟩ | ⟨rfl, hB⟩ | ⟨rfl, hB⟩ | ⟨rfl, hB⟩
        · as_aux_lemma =>
            obtain ⟨a0, a1, a2⟩ := bx3 hB
            obtain ⟨b0, b1, b2⟩ := bxf3 hB
            obtain ⟨c0, c1, c2⟩ := bx3 (bx_up NB hu)
            obtain ⟨s0, s1, s2, s3, s4, s5, s6, s7, s8⟩ := bx9 (bx_up SB hu)
            go_wp2_with fail
            go_region
            go_wp2_with fail
            go_roundw
            case rel => exact ⟨.inr (.inl ⟨by go_num, bx_set (bx_drew hB) 0 _⟩), up_set (up_drew hu) (by rw [eb]; exact Nat.le_refl _) _⟩
            case measure => simp [intOf]
        · as_aux_lemma =>
            obtain ⟨a0, a1, a2⟩ := bx3 hB
            obtain ⟨b0, b1, b2⟩ := bxf3 hB
            obtain ⟨c0, c1, c2⟩ := bx3 (bx_up NB hu)
            obtain ⟨s0, s1, s2, s3, s4, s5, s6, s7, s8⟩ := bx9 (bx_up SB hu)
            go_wp2_with fail
            go_region
            go_wp2_with fail
            go_roundw
            case rel => exact ⟨.inr (.inr (.inl ⟨by go_num, bx_set (bx_drew hB) 1 _⟩)), up_set (up_drew hu) (by rw [eb]; exact Nat.le_refl _) _⟩
            case measure => simp [intOf]
        · as_aux_lemma =>
            obtain ⟨a0, a1, a2⟩ := bx3 hB
            obtain ⟨b0, b1, b2⟩ := bxf3 hB
            obtain ⟨c0, c1, c2⟩ := bx3 (bx_up NB hu)
            obtain ⟨s0, s1, s2, s3, s4, s5, s6, s7, s8⟩ := bx9 (bx_up SB hu)
            go_wp2_with fail
            go_region
            go_wp2_with fail
            go_roundw
            case rel => exact ⟨.inr (.inr (.inr ⟨by go_num, bx_set (bx_drew hB) 2 _⟩)), up_set (up_drew hu) (by rw [eb]; exact Nat.le_refl _) _⟩
            case measure => simp [intOf]
        · obtain ⟨V1, hV1⟩ : ∃ x : World, x = wr := ⟨_, rfl⟩
          subst hV1
          have B1 := hB
          have U1 := hu
          clear hB hu
          go_wp2_with fail
          rw [rounds_succ]
          go_wp2_with fail
          go_loopw [12] (fun s12 wr => ((s12 = .int .i64 0 ∧ Bx wr (w2.heap.size + 1) [.int .i64 p00, .int .i64 p01, .int .i64 p02]) ∨ (s12 = .int .i64 1 ∧ Bx wr (w2.heap.size + 1) [.int .i64 t0, .int .i64 p01, .int .i64 p02]) ∨ (s12 = .int .i64 2 ∧ Bx wr (w2.heap.size + 1) [.int .i64 t0, .int .i64 t1, .int .i64 p02]) ∨ (s12 = .int .i64 3 ∧ Bx wr (w2.heap.size + 1) [.int .i64 t0, .int .i64 t1, .int .i64 t2])) ∧ Up Wb wr) (fun s12 _ => 3 - (intOf s12).toNat)
          case atStart => exact ⟨.inl ⟨rfl, B1⟩, U1⟩
          case round =>
            clear B1 U1
            obtain ⟨hrel, hu⟩ := hrel
            rcases hrel with ⟨rfl, hB⟩ | ⟨rfl, hB⟩ | ⟨rfl, hB⟩ | ⟨rfl, hB⟩
            · as_aux_lemma =>
                obtain ⟨a0, a1, a2⟩ := bx3 hB
                obtain ⟨b0, b1, b2⟩ := bxf3 hB
                obtain ⟨c0, c1, c2⟩ := bx3 (bx_up NB hu)
                obtain ⟨s0, s1, s2, s3, s4, s5, s6, s7, s8⟩ := bx9 (bx_up SB hu)
                go_wp2_with fail
                go_region
                go_wp2_with fail
                go_roundw
                case rel => exact ⟨.inr (.inl ⟨by go_num, bx_set (bx_drew hB) 0 _⟩), up_set (up_drew hu) (by rw [eb]; exact Nat.le_refl _) _⟩
                case measure => simp [intOf]
            · as_aux_lemma =>
                obtain ⟨a0, a1, a2⟩ := bx3 hB
                obtain ⟨b0, b1, b2⟩ := bxf3 hB
                obtain ⟨c0, c1, c2⟩ := bx3 (bx_up NB hu)
                obtain ⟨s0, s1, s2, s3, s4, s5, s6, s7, s8⟩ := bx9 (bx_up SB hu)
                go_wp2_with fail
                go_region
                go_wp2_with fail
                go_roundw
                case rel => exact ⟨.inr (.inr (.inl ⟨by go_num, bx_set (bx_drew hB) 1 _⟩)), up_set (up_drew hu) (by rw [eb]; exact Nat.le_refl _) _⟩
                case measure => simp [intOf]
            · as_aux_lemma =>
                obtain ⟨a0, a1, a2⟩ := bx3 hB
                obtain ⟨b0, b1, b2⟩ := bxf3 hB
                obtain ⟨c0, c1, c2⟩ := bx3 (bx_up NB hu)
                obtain ⟨s0, s1, s2, s3, s4, s5, s6, s7, s8⟩ := bx9 (bx_up SB hu)
                go_wp2_with fail
                go_region
                go_wp2_with fail
                go_roundw
                case rel => exact ⟨.inr (.inr (.inr ⟨by go_num, bx_set (bx_drew hB) 2 _⟩)), up_set (up_drew hu) (by rw [eb]; exact Nat.le_refl _) _⟩
                case measure => simp [intOf]
            · obtain ⟨V2, hV2⟩ : ∃ x : World, x = wr := ⟨_, rfl⟩
              subst hV2
              have B2 := hB
              have U2 := hu
              clear hB hu
              go_wp2_with fail
              rw [rounds_succ]
              go_wp2_with fail
              go_loopw [12] (fun s12 wr => ((s12 = .int .i64 0 ∧ Bx wr (w2.heap.size + 1) [.int .i64 t0, .int .i64 t1, .int .i64 t2]) ∨ (s12 = .int .i64 1 ∧ Bx wr (w2.heap.size + 1) [.int .i64 r0, .int .i64 t1, .int .i64 t2]) ∨ (s12 = .int .i64 2 ∧ Bx wr (w2.heap.size + 1) [.int .i64 r0, .int .i64 r1, .int .i64 t2]) ∨ (s12 = .int .i64 3 ∧ Bx wr (w2.heap.size + 1) [.int .i64 r0, .int .i64 r1, .int .i64 r2])) ∧ Up Wb wr) (fun s12 _ => 3 - (intOf s12).toNat)
              case atStart => exact ⟨.inl ⟨rfl, B2⟩, U2⟩
              case round =>
                clear B2 U2
                obtain ⟨hrel, hu⟩ := hrel
                rcases hrel with ⟨rfl, hB⟩ | ⟨rfl, hB⟩ | ⟨rfl, hB⟩ | ⟨rfl, hB⟩
                · as_aux_lemma =>
                    obtain ⟨a0, a1, a2⟩ := bx3 hB
                    obtain ⟨b0, b1, b2⟩ := bxf3 hB
                    obtain ⟨c0, c1, c2⟩ := bx3 (bx_up NB hu)
                    obtain ⟨s0, s1, s2, s3, s4, s5, s6, s7, s8⟩ := bx9 (bx_up SB hu)
                    go_wp2_with fail
                    go_region
                    go_wp2_with fail
                    go_roundw
                    case rel => exact ⟨.inr (.inl ⟨by go_num, bx_set (bx_drew hB) 0 _⟩), up_set (up_drew hu) (by rw [eb]; exact Nat.le_refl _) _⟩
                    case measure => simp [intOf]
                · as_aux_lemma =>
                    obtain ⟨a0, a1, a2⟩ := bx3 hB
                    obtain ⟨b0, b1, b2⟩ := bxf3 hB
                    obtain ⟨c0, c1, c2⟩ := bx3 (bx_up NB hu)
                    obtain ⟨s0, s1, s2, s3, s4, s5, s6, s7, s8⟩ := bx9 (bx_up SB hu)
                    go_wp2_with fail
                    go_region
                    go_wp2_with fail
                    go_roundw
                    case rel => exact ⟨.inr (.inr (.inl ⟨by go_num, bx_set (bx_drew hB) 1 _⟩)), up_set (up_drew hu) (by rw [eb]; exact Nat.le_refl _) _⟩
                    case measure => simp [intOf]
                · as_aux_lemma =>
                    obtain ⟨a0, a1, a2⟩ := bx3 hB
                    obtain ⟨b0, b1, b2⟩ := bxf3 hB
                    obtain ⟨c0, c1, c2⟩ := bx3 (bx_up NB hu)
                    obtain ⟨s0, s1, s2, s3, s4, s5, s6, s7, s8⟩ := bx9 (bx_up SB hu)
                    go_wp2_with fail
                    go_region
                    go_wp2_with fail
                    go_roundw
                    case rel => exact ⟨.inr (.inr (.inr ⟨by go_num, bx_set (bx_drew hB) 2 _⟩)), up_set (up_drew hu) (by rw [eb]; exact Nat.le_refl _) _⟩
                    case measure => simp [intOf]
                · obtain ⟨V3, hV3⟩ : ∃ x : World, x = wr := ⟨_, rfl⟩
                  subst hV3
                  have B3 := hB
                  have U3 := hu
                  clear hB hu
                  go_wp2_with fail
                  rw [rounds_succ]
                  obtain ⟨t0, t1, t2⟩ := bx3 B3
                  obtain ⟨v0, v1⟩ := bx2 (bx_up PB U3)
                  go_wp2_with (go_at_call 15; refine (l_known _).mono ?_; rintro e w5 ⟨rfl, hb5⟩)
                  go_ret
                  exact ⟨rfl, (by repeat' (first | (with_reducible exact up_refl _) | (with_reducible assumption) | (with_reducible refine up_alloc ?_ _) | (with_reducible refine up_drewN ?_ _) | (with_reducible refine up_drew ?_) | (with_reducible refine up_set ?_ (by first | (simp; done) | (simp; omega) | omega) _) | (refine up_trans ?_ (by with_reducible assumption))))⟩
    · have e3 := unhide hB rfl cF
      subst e3
      simp only [if_neg cF] at hP
      go_enter Try.func4, Try.ntmps4
      go_wp2_with (first | (go_at_call 16; (with_reducible refine (unhide hS _ (by repeat' (first | (with_reducible exact up_refl _) | (with_reducible assumption) | (with_reducible refine up_alloc ?_ _) | (with_reducible refine up_drewN ?_ _) | (with_reducible refine up_drew ?_) | (with_reducible refine up_set ?_ (by first | (simp; done) | (simp; omega) | omega) _) | (refine up_trans ?_ (by with_reducible assumption))))).mono ?_); rintro e w1 ⟨rfl, hb1⟩; have k0_0 : w1.cell? ⟨w.heap.size, 0, none⟩ = some (.int .i64 X) := up_cell hb1 (by first | (with_reducible assumption) | (refine alloc_cell _ ?_; with_reducible assumption) | go_cell); have k0_1 : w1.cell? ⟨w.heap.size, 1, none⟩ = some (.int .i64 Y) := up_cell hb1 (by first | (with_reducible assumption) | (refine alloc_cell _ ?_; with_reducible assumption) | go_cell); have k2 := fun o => alloc_cell o k0_0; have k3 := fun o => alloc_cell o k0_1) | (go_at_call 17; (with_reducible refine (unhide hP _ (by repeat' (first | (with_reducible exact up_refl _) | (with_reducible assumption) | (with_reducible refine up_alloc ?_ _) | (with_reducible refine up_drewN ?_ _) | (with_reducible refine up_drew ?_) | (with_reducible refine up_set ?_ (by first | (simp; done) | (simp; omega) | omega) _) | (refine up_trans ?_ (by with_reducible assumption))))).mono ?_); rintro e w2 ⟨rfl, hb2⟩) | (go_at_call 15; refine (l_known _).mono ?_; rintro e w5 ⟨rfl, hb5⟩))
      go_ret
      exact ⟨rfl, (by repeat' (first | (with_reducible exact up_refl _) | (with_reducible assumption) | (with_reducible refine up_alloc ?_ _) | (with_reducible refine up_drewN ?_ _) | (with_reducible refine up_drew ?_) | (with_reducible refine up_set ?_ (by first | (simp; done) | (simp; omega) | omega) _) | (refine up_trans ?_ (by with_reducible assumption))))⟩
  · have e3 := unhide hD cE
    subst e3
    have c2 : (F == 0) = false := by simp; exact cE
    simp only [if_neg cE] at hP hS
    go_enter Try.func4, Try.ntmps4
    go_wp2_with (first | (go_at_call 16; (with_reducible refine (unhide hS _ (by repeat' (first | (with_reducible exact up_refl _) | (with_reducible assumption) | (with_reducible refine up_alloc ?_ _) | (with_reducible refine up_drewN ?_ _) | (with_reducible refine up_drew ?_) | (with_reducible refine up_set ?_ (by first | (simp; done) | (simp; omega) | omega) _) | (refine up_trans ?_ (by with_reducible assumption))))).mono ?_); rintro e w1 ⟨rfl, hb1⟩; have k0_0 : w1.cell? ⟨w.heap.size, 0, none⟩ = some (.int .i64 X) := up_cell hb1 (by first | (with_reducible assumption) | (refine alloc_cell _ ?_; with_reducible assumption) | go_cell); have k0_1 : w1.cell? ⟨w.heap.size, 1, none⟩ = some (.int .i64 Y) := up_cell hb1 (by first | (with_reducible assumption) | (refine alloc_cell _ ?_; with_reducible assumption) | go_cell); have k2 := fun o => alloc_cell o k0_0; have k3 := fun o => alloc_cell o k0_1) | (go_at_call 17; (with_reducible refine (unhide hP _ (by repeat' (first | (with_reducible exact up_refl _) | (with_reducible assumption) | (with_reducible refine up_alloc ?_ _) | (with_reducible refine up_drewN ?_ _) | (with_reducible refine up_drew ?_) | (with_reducible refine up_set ?_ (by first | (simp; done) | (simp; omega) | omega) _) | (refine up_trans ?_ (by with_reducible assumption))))).mono ?_); rintro e w2 ⟨rfl, hb2⟩) | (go_at_call 15; refine (l_known _).mono ?_; rintro e w5 ⟨rfl, hb5⟩))
    go_ret
    exact ⟨rfl, (by repeat' (first | (with_reducible exact up_refl _) | (with_reducible assumption) | (with_reducible refine up_alloc ?_ _) | (with_reducible refine up_drewN ?_ _) | (with_reducible refine up_drew ?_) | (with_reducible refine up_set ?_ (by first | (simp; done) | (simp; omega) | omega) _) | (refine up_trans ?_ (by with_reducible assumption))))⟩
end Go.Proofs.Ytgjcpgmnflpdkaa
