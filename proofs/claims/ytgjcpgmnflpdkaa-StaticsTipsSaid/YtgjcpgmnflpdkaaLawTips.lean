/- StaticsTips: the law's function returns true. -/
import Derived.Test.YtgjcpgmnflpdkaaKnown
import Derived.Test.YtgjcpgmnflpdkaaUpQ
namespace Go.Proofs.Ytgjcpgmnflpdkaa
open Go.RowKit Go.Proofs.Gn
theorem p_side {a0 a1 a2 b0 b1 b2 c0 c1 c2 V : Int} (ha : Gs.Row a0 a1 a2) (hb : Gs.Row b0 b1 b2) (hc : Gs.Row c0 c1 c2) (hV : Gs.dt a0 a1 a2 b0 b1 b2 c0 c1 c2 = V) (w : World) :
    Calls Try.prog 19 #[.agg #[.int .i64 a0, .int .i64 a1, .int .i64 a2], .agg #[.int .i64 b0, .int .i64 b1, .int .i64 b2], .agg #[.int .i64 c0, .int .i64 c1, .int .i64 c2]] w fun e w' => e = .returned (.int .i64 V) ∧ Up w w' := by
  obtain ⟨⟨m1, m2⟩, ⟨m3, m4⟩, ⟨m5, m6⟩, ⟨m7, m8⟩, ⟨m9, m10⟩, ⟨m11, m12⟩, ⟨m13, m14⟩, ⟨m15, m16⟩, ⟨m17, m18⟩⟩ := dt_parts ha hb hc
  have e : a1 * (b0 * c2 - b2 * c0) = -(a1 * (b2 * c0 - b0 * c2)) := by rw [← Int.mul_neg]; congr 1; omega
  unfold Gs.dt at hV
  have hv : a0 * (b1 * c2 - b2 * c1) - a1 * (b0 * c2 - b2 * c0) + a2 * (b0 * c1 - b1 * c0) = V := by rw [← hV, e]; omega
  have n1 : -3799912185597056 ≤ a1 * (b0 * c2 - b2 * c0) := by omega
  have n2 : a1 * (b0 * c2 - b2 * c0) ≤ 3799912185597056 := by omega
  have HV := hide hv
  clear ha hb hc hV e hv
  go_enter Try.func19, Try.ntmps19
  go_wp2_with fail
  go_ret
  exact ⟨ret_int (unhide HV), (by repeat' (first | (with_reducible exact up_refl _) | (with_reducible assumption) | (with_reducible refine up_alloc ?_ _) | (with_reducible refine up_drewN ?_ _) | (with_reducible refine up_drew ?_) | (with_reducible refine up_set ?_ (by first | (simp; done) | (simp; omega) | omega) _) | (refine up_trans ?_ (by with_reducible assumption))))⟩
theorem bal_bad {ps : List Gs.Sup} {X Y : Int} (h : chE ps = 0) (h2 : ¬ atE ps X Y = 0) : atE ps X Y = 3 := by
  unfold atE at *
  rw [if_pos h] at *
  unfold ptE at *
  split
  · rename_i h3; rw [if_pos h3] at h2; exact absurd rfl h2
  · rfl
theorem at_ch {ps : List Gs.Sup} {X Y : Int} (h : ¬ chE ps = 0) : atE ps X Y = chE ps := by unfold atE; rw [if_neg h]
theorem bey {D q : Int} (h : D ≠ 0) : pv D q < 0 ↔ (0 < D ∧ q < 0) ∨ (D < 0 ∧ 0 < q) := by
  by_cases hp : 0 < D
  · rw [pv_pos hp]; omega
  · rw [pv_neg (by omega)]; omega
theorem tip_rows {ps : List Gs.Sup} {X Y : Int} (h : atE ps X Y = 0) : (Gs.Row (Gs.cN 0 ps) (Gs.cX 0 ps) (Gs.cY 0 ps) ∧ Gs.Row (Gs.cN 1 ps) (Gs.cX 1 ps) (Gs.cY 1 ps) ∧ Gs.Row (Gs.cN 2 ps) (Gs.cX 2 ps) (Gs.cY 2 ps) ∧ Gs.Row 1 X Y) ∧ Gs.wh ps ≠ 0 := by
  obtain ⟨h1, h2⟩ := atE_ok h
  obtain ⟨o1, o2, o3, o4⟩ := chE_ok h1
  obtain ⟨a, b⟩ := ptE_ok h2
  exact ⟨⟨Gs.row_of o1 o2 0 (.inl rfl), Gs.row_of o1 o2 1 (.inr (.inl rfl)), Gs.row_of o1 o2 2 (.inr (.inr rfl)), row_pt a b⟩, o4⟩
/-- What is known of the group that is returned. -/
theorem tip_yes {ps : List Gs.Sup} {X Y : Int} (h : atE ps X Y = 0) (hl : 0 ≤ lf ps X Y) : tiE ps X Y = 0 ∧ tiV ps X Y = lf ps X Y ∧ (0 ≤ lf ps X Y ∧ lf ps X Y ≤ 2) ∧ (pa0 ps X Y < 0 → lf ps X Y ≤ 0) ∧ (¬ pa0 ps X Y < 0 → lf ps X Y ≠ 0) ∧ (pa1 ps X Y < 0 → lf ps X Y ≤ 1) ∧ (¬ pa1 ps X Y < 0 → lf ps X Y ≠ 1) ∧ (pa2 ps X Y < 0 → lf ps X Y ≤ 2) ∧ (¬ pa2 ps X Y < 0 → lf ps X Y ≠ 2) := by
  unfold tiE tiV
  rw [if_pos h, if_pos h, if_pos hl, if_pos hl]
  unfold lf at hl ⊢
  unfold lif at hl ⊢
  refine ⟨rfl, rfl, ?_⟩
  by_cases c0 : pa0 ps X Y < 0
  · rw [if_pos c0]; omega
  · rw [if_neg c0] at hl ⊢
    by_cases c1 : pa1 ps X Y < 0
    · rw [if_pos c1]; omega
    · rw [if_neg c1] at hl ⊢
      by_cases c2 : pa2 ps X Y < 0
      · rw [if_pos c2]; omega
      · rw [if_neg c2] at hl; omega
theorem tip_no {ps : List Gs.Sup} {X Y : Int} (h : atE ps X Y = 0) (hl : ¬ 0 ≤ lf ps X Y) : tiE ps X Y = 5 ∧ tiV ps X Y = 0 ∧ ¬ pa0 ps X Y < 0 ∧ ¬ pa1 ps X Y < 0 ∧ ¬ pa2 ps X Y < 0 := by
  unfold tiE tiV
  rw [if_pos h, if_pos h, if_neg hl, if_neg hl]
  have := lif_none hl
  omega
theorem bx_two (w : World) (v1 v2 : List Value) (t1 t2 : TypeId) : Bx ((w.alloc (.cells v1.toArray t1)).alloc (.cells v2.toArray t2)) w.heap.size v1 ∧ Bx ((w.alloc (.cells v1.toArray t1)).alloc (.cells v2.toArray t2)) (w.heap.size + 1) v2 := by
  refine ⟨bx_alloc (bx_new w _ _) _, ?_⟩
  have h := bx_new (w.alloc (.cells v1.toArray t1)) v2 t2
  rwa [sz1] at h
set_option maxRecDepth 100000 in
set_option maxHeartbeats 40000000 in
theorem l_Tips (A : Option Addr) (ps : List Gs.Sup) (cap : Nat) (X Y : Int) (w : World) (h : Sups w A ps) (hn : ps.length ≤ 9223372036854775807) :
    Calls Try.prog 5 #[.slice A ps.length cap, pt X Y] w fun e w' => e = .returned (.bool true) ∧ Below w.heap.size w w' := by
  have hS := hide (fun (W : World) (hW : Up w W) => p_Sums A ps cap hn W (sups_up h hW))
  have hT := hide (fun (W : World) (hW : Up w W) => p_Tips A ps cap X Y hn W (sups_up h hW))
  have hA := hide (fun e => atE_ok (ps := ps) (X := X) (Y := Y) e)
  have hB := hide (fun e f => bal_bad (ps := ps) (X := X) (Y := Y) e f)
  have hD := hide (fun e => at_ch (ps := ps) (X := X) (Y := Y) e)
  have hE := hide (fun (e : ¬ atE ps X Y = 0) => (⟨if_neg e, if_neg e⟩ : tiE ps X Y = atE ps X Y ∧ tiV ps X Y = 0))
  have hR := hide (fun e => tip_rows (ps := ps) (X := X) (Y := Y) e)
  have hY := hide (fun e l => tip_yes (ps := ps) (X := X) (Y := Y) e l)
  have hN := hide (fun e l => tip_no (ps := ps) (X := X) (Y := Y) e l)
  have hQ := hide ((⟨by unfold Gs.dt Gs.wh Gs.dt; grind, by unfold Gs.dt Gs.wh Gs.dt; grind, by unfold Gs.wh; rfl, by unfold Gs.dt Gs.q0 Gs.dt; grind, by unfold Gs.dt Gs.q1 Gs.dt; grind, by unfold Gs.q2; rfl⟩ :
    Gs.dt (Gs.cN 1 ps) (Gs.cX 1 ps) (Gs.cY 1 ps) (Gs.cN 2 ps) (Gs.cX 2 ps) (Gs.cY 2 ps) (Gs.cN 0 ps) (Gs.cX 0 ps) (Gs.cY 0 ps) = Gs.wh ps ∧ Gs.dt (Gs.cN 2 ps) (Gs.cX 2 ps) (Gs.cY 2 ps) (Gs.cN 0 ps) (Gs.cX 0 ps) (Gs.cY 0 ps) (Gs.cN 1 ps) (Gs.cX 1 ps) (Gs.cY 1 ps) = Gs.wh ps ∧ Gs.dt (Gs.cN 0 ps) (Gs.cX 0 ps) (Gs.cY 0 ps) (Gs.cN 1 ps) (Gs.cX 1 ps) (Gs.cY 1 ps) (Gs.cN 2 ps) (Gs.cX 2 ps) (Gs.cY 2 ps) = Gs.wh ps ∧
    Gs.dt (Gs.cN 1 ps) (Gs.cX 1 ps) (Gs.cY 1 ps) (Gs.cN 2 ps) (Gs.cX 2 ps) (Gs.cY 2 ps) 1 X Y = Gs.q0 ps X Y ∧ Gs.dt (Gs.cN 2 ps) (Gs.cX 2 ps) (Gs.cY 2 ps) (Gs.cN 0 ps) (Gs.cX 0 ps) (Gs.cY 0 ps) 1 X Y = Gs.q1 ps X Y ∧ Gs.dt (Gs.cN 0 ps) (Gs.cX 0 ps) (Gs.cY 0 ps) (Gs.cN 1 ps) (Gs.cX 1 ps) (Gs.cY 1 ps) 1 X Y = Gs.q2 ps X Y))
  clear h
  unfold suV at hS
  unfold pa0 pa1 pa2 at hY hN
  obtain ⟨n, hNn⟩ : ∃ n, ps.length = n := ⟨_, rfl⟩
  rw [hNn] at hS hT hn ⊢
  clear hNn
  generalize Gs.cN 0 ps = n0 at *
  generalize Gs.cX 0 ps = x0 at *
  generalize Gs.cY 0 ps = y0 at *
  generalize Gs.cN 1 ps = n1 at *
  generalize Gs.cX 1 ps = x1 at *
  generalize Gs.cY 1 ps = y1 at *
  generalize Gs.cN 2 ps = n2 at *
  generalize Gs.cX 2 ps = x2 at *
  generalize Gs.cY 2 ps = y2 at *
  generalize Gs.wh ps = D at *
  generalize Gs.q0 ps X Y = Q0 at *
  generalize Gs.q1 ps X Y = Q1 at *
  generalize Gs.q2 ps X Y = Q2 at *
  generalize tiE ps X Y = T at *
  generalize tiV ps X Y = G at *
  generalize lf ps X Y = L at *
  generalize chE ps = E at *
  generalize atE ps X Y = F at *
  by_cases cl : 48 < n
  · go_enter Try.func5, Try.ntmps5
    go_wp2_with (go_at_call 15; refine (l_known _).mono ?_; rintro e w2 ⟨rfl, hb2⟩)
    go_ret
    exact ⟨rfl, (by repeat' (first | (with_reducible exact up_refl _) | (with_reducible assumption) | (with_reducible refine up_alloc ?_ _) | (with_reducible refine up_drewN ?_ _) | (with_reducible refine up_drew ?_) | (with_reducible refine up_set ?_ (by first | (simp; done) | (simp; omega) | omega) _) | (refine up_trans ?_ (by with_reducible assumption))))⟩
  by_cases cE : E = 0
  · subst cE
    simp only [if_pos] at hS
    by_cases cF : F = 0
    · subst cF
      obtain ⟨⟨R0, R1, R2, RP⟩, D0⟩ := unhide hR rfl
      obtain ⟨i0, i1, i2, j0, j1, j2⟩ := unhide hQ
      have hO0 := hide (fun W => p_side R1 R2 R0 i0 W)
      have hO1 := hide (fun W => p_side R2 R0 R1 i1 W)
      have hO2 := hide (fun W => p_side R0 R1 R2 i2 W)
      have hP0 := hide (fun W => p_side R1 R2 RP j0 W)
      have hP1 := hide (fun W => p_side R2 R0 RP j1 W)
      have hP2 := hide (fun W => p_side R0 R1 RP j2 W)
      have z0 := hide (bey (q := Q0) D0)
      have z1 := hide (bey (q := Q1) D0)
      have z2 := hide (bey (q := Q2) D0)
      clear R0 R1 R2 RP i0 i1 i2 j0 j1 j2 hR hQ hE hA hB hD
      have fin : ∃ fT : Bool, Hid (((fT = true → T = 0 ∧ (0 ≤ G ∧ G ≤ 2) ∧ (pv D Q0 < 0 → G ≤ 0) ∧ (¬ pv D Q0 < 0 → G ≠ 0) ∧ (pv D Q1 < 0 → G ≤ 1) ∧ (¬ pv D Q1 < 0 → G ≠ 1) ∧ (pv D Q2 < 0 → G ≤ 2) ∧ (¬ pv D Q2 < 0 → G ≠ 2)) ∧ (fT = false → T = 5 ∧ G = 0 ∧ ¬ pv D Q0 < 0 ∧ ¬ pv D Q1 < 0 ∧ ¬ pv D Q2 < 0))) := by
        by_cases hl : 0 ≤ L
        · obtain ⟨t1, t2, t3⟩ := unhide hY rfl hl
          subst t2
          exact ⟨true, hide ⟨fun _ => ⟨t1, t3⟩, fun hx => (by cases hx)⟩⟩
        · exact ⟨false, hide ⟨fun hx => (by cases hx), fun _ => unhide hN rfl hl⟩⟩
      obtain ⟨fT, hf⟩ := fin
      clear hY hN
      have D1 : D < 0 ∨ 0 < D := by omega
      clear D0
      have tt : T = 0 ∨ T = 5 := by
        cases fT
        · exact .inr ((unhide hf).2 rfl).1
        · exact .inl ((unhide hf).1 rfl).1
      have t3 : (T == 3) = false := by simp; omega
      have t4 : ¬ T = 3 := by omega
      clear tt
      go_enter Try.func5, Try.ntmps5
      go_upto_region 7 with (first | (go_at_call 16; (with_reducible refine (unhide hS _ (by repeat' (first | (with_reducible exact up_refl _) | (with_reducible assumption) | (with_reducible refine up_alloc ?_ _) | (with_reducible refine up_drewN ?_ _) | (with_reducible refine up_drew ?_) | (with_reducible refine up_set ?_ (by first | (simp; done) | (simp; omega) | omega) _) | (refine up_trans ?_ (by with_reducible assumption))))).mono ?_); rintro e w1 ⟨rfl, hb1⟩; have k0_0 : w1.cell? ⟨w.heap.size, 0, none⟩ = some (.int .i64 X) := up_cell hb1 (by first | (with_reducible assumption) | (refine alloc_cell _ ?_; with_reducible assumption) | go_cell); have k0_1 : w1.cell? ⟨w.heap.size, 1, none⟩ = some (.int .i64 Y) := up_cell hb1 (by first | (with_reducible assumption) | (refine alloc_cell _ ?_; with_reducible assumption) | go_cell); have k2 := fun o => alloc_cell o k0_0; have k3 := fun o => alloc_cell o k0_1) | (go_at_call 18; (with_reducible refine (unhide hT _ (by repeat' (first | (with_reducible exact up_refl _) | (with_reducible assumption) | (with_reducible refine up_alloc ?_ _) | (with_reducible refine up_drewN ?_ _) | (with_reducible refine up_drew ?_) | (with_reducible refine up_set ?_ (by first | (simp; done) | (simp; omega) | omega) _) | (refine up_trans ?_ (by with_reducible assumption))))).mono ?_); rintro e w2 ⟨rfl, hb2⟩))
      have SB : Bx w2 w1.heap.size [.int .i64 n0, .int .i64 x0, .int .i64 y0, .int .i64 n1, .int .i64 x1, .int .i64 y1, .int .i64 n2, .int .i64 x2, .int .i64 y2] := bx_up (bx_new w1 _ 31) hb2
      have PB : Bx w2 w.heap.size [.int .i64 X, .int .i64 Y] := bx_up (bx_alloc (bx_up (bx_new w _ 29) hb1) _) hb2
      have UB : Up w w2 := (by repeat' (first | (with_reducible exact up_refl _) | (with_reducible assumption) | (with_reducible refine up_alloc ?_ _) | (with_reducible refine up_drewN ?_ _) | (with_reducible refine up_drew ?_) | (with_reducible refine up_set ?_ (by first | (simp; done) | (simp; omega) | omega) _) | (refine up_trans ?_ (by with_reducible assumption))))
      clear hb1 hb2 hS hT k0_0 k0_1 k2 k3
      go_cut [59] (fun s wx => s = .bool false ∧ Up w2 wx)
      case first => as_aux_lemma =>
        cases fT
        · obtain ⟨t1, t2, _⟩ := (unhide hf).2 rfl
          subst t1 t2
          go_wp2_with fail
          go_meet
          exact ⟨rfl, (by repeat' (first | (with_reducible exact up_refl _) | (with_reducible assumption) | (with_reducible refine up_alloc ?_ _) | (with_reducible refine up_drewN ?_ _) | (with_reducible refine up_drew ?_) | (with_reducible refine up_set ?_ (by first | (simp; done) | (simp; omega) | omega) _) | (refine up_trans ?_ (by with_reducible assumption))))⟩
        · obtain ⟨t1, ⟨t2, t3⟩, _⟩ := (unhide hf).1 rfl
          subst t1
          go_wp2_with fail
          go_meet
          exact ⟨by simp; omega, (by repeat' (first | (with_reducible exact up_refl _) | (with_reducible assumption) | (with_reducible refine up_alloc ?_ _) | (with_reducible refine up_drewN ?_ _) | (with_reducible refine up_drew ?_) | (with_reducible refine up_set ?_ (by first | (simp; done) | (simp; omega) | omega) _) | (refine up_trans ?_ (by with_reducible assumption))))⟩
      case rest =>
      obtain ⟨rfl, hu0⟩ := hcut
      replace SB := bx_up SB hu0
      replace PB := bx_up PB hu0
      replace UB := up_trans UB hu0
      clear hu0
      obtain ⟨wo, rfl⟩ : ∃ x : World, x = wc := ⟨_, rfl⟩
      go_wp2_with fail
      go_loopw [9] (fun s9 wr => (s9 = .int .i64 0 ∨ s9 = .int .i64 1 ∨ s9 = .int .i64 2 ∨ s9 = .int .i64 3) ∧ Up wo wr) (fun s9 _ => 3 - (intOf s9).toNat)
      case atStart => exact ⟨.inl rfl, up_refl _⟩
      case round =>
        obtain ⟨hrel, hu⟩ := hrel
        rcases hrel with rfl | rfl | rfl | rfl
        · go_upto_region 12 with fail
          obtain ⟨s0, s1, s2, s3, s4, s5, s6, s7, s8⟩ := bx9 (bx_up SB hu)
          go_cut [10, 11] (fun sa sb wx => ∃ ga gb : Nat, sa = .pointer (some ⟨ga, 0, none⟩) ∧ sb = .pointer (some ⟨gb, 0, none⟩) ∧ Bx wx ga [.int .i64 n1, .int .i64 x1, .int .i64 y1] ∧ Bx wx gb [.int .i64 n2, .int .i64 x2, .int .i64 y2] ∧ Up wr wx)
          case first => as_aux_lemma =>
            have hmk : ∀ wx' : World, Up wr wx' → wx'.cell? ⟨w1.heap.size, 3, none⟩ = some (.int .i64 n1) ∧ wx'.cell? ⟨w1.heap.size, 4, none⟩ = some (.int .i64 x1) ∧ wx'.cell? ⟨w1.heap.size, 5, none⟩ = some (.int .i64 y1) ∧ wx'.cell? ⟨w1.heap.size, 6, none⟩ = some (.int .i64 n2) ∧ wx'.cell? ⟨w1.heap.size, 7, none⟩ = some (.int .i64 x2) ∧ wx'.cell? ⟨w1.heap.size, 8, none⟩ = some (.int .i64 y2) ∧ Up wr wx' := fun wx' hq => by
              obtain ⟨z0, z1, z2, z3, z4, z5, z6, z7, z8⟩ := bx9 (bx_up SB (up_trans hu hq))
              exact ⟨z3, z4, z5, z6, z7, z8, hq⟩
            have HM := hide hmk
            have t1 := Nat.le_refl wr.heap.size
            have i1 : IntKind.i64.wrap 1 = 1 := IntWalk.i64_in _ ⟨by omega, by omega⟩
            have i2 : IntKind.i64.wrap 2 = 2 := IntWalk.i64_in _ ⟨by omega, by omega⟩
            have i3 : IntKind.i64.wrap 3 = 3 := IntWalk.i64_in _ ⟨by omega, by omega⟩
            have i4 : IntKind.i64.wrap 4 = 4 := IntWalk.i64_in _ ⟨by omega, by omega⟩
            clear hmk s0 s1 s2 s3 s4 s5 s6 s7 s8 SB PB UB hu hO0 hO1 hO2 hP0 hP1 hP2 z0 z1 z2 hf D1
            go_region_held3 (fun wx' => wx'.cell? ⟨w1.heap.size, 3, none⟩ = some (.int .i64 n1) ∧ wx'.cell? ⟨w1.heap.size, 4, none⟩ = some (.int .i64 x1) ∧ wx'.cell? ⟨w1.heap.size, 5, none⟩ = some (.int .i64 y1) ∧ wx'.cell? ⟨w1.heap.size, 6, none⟩ = some (.int .i64 n2) ∧ wx'.cell? ⟨w1.heap.size, 7, none⟩ = some (.int .i64 x2) ∧ wx'.cell? ⟨w1.heap.size, 8, none⟩ = some (.int .i64 y2) ∧ Up wr wx') ((go_split_ands; exact unhide HM _ (by repeat' (first | (with_reducible exact up_refl _) | (with_reducible assumption) | (with_reducible refine up_alloc ?_ _) | (with_reducible refine up_drewN ?_ _) | (with_reducible refine up_drew ?_) | (with_reducible refine up_set ?_ (by first | (simp; done) | (simp; omega) | omega) _) | (refine up_trans ?_ (by with_reducible assumption)))))) (fail)
            all_goals go_wp2_with fail
            all_goals go_meet
            all_goals first
              | (refine ⟨wr.heap.size, wr.heap.size + 1, by with_reducible rfl, by with_reducible rfl, ?_, ?_, (by repeat' (first | (with_reducible exact up_refl _) | (with_reducible assumption) | (with_reducible refine up_alloc ?_ _) | (with_reducible refine up_drewN ?_ _) | (with_reducible refine up_drew ?_) | (with_reducible refine up_set ?_ (by first | (simp; done) | (simp; omega) | omega) _) | (refine up_trans ?_ (by with_reducible assumption))))⟩ <;> first | exact (bx_two wr _ _ _ _).1 | exact (bx_two wr _ _ _ _).2)
              | (refine ⟨wr.heap.size + 1, wr.heap.size, by with_reducible rfl, by with_reducible rfl, ?_, ?_, (by repeat' (first | (with_reducible exact up_refl _) | (with_reducible assumption) | (with_reducible refine up_alloc ?_ _) | (with_reducible refine up_drewN ?_ _) | (with_reducible refine up_drew ?_) | (with_reducible refine up_set ?_ (by first | (simp; done) | (simp; omega) | omega) _) | (refine up_trans ?_ (by with_reducible assumption))))⟩ <;> first | exact (bx_two wr _ _ _ _).1 | exact (bx_two wr _ _ _ _).2)
          case rest =>
            obtain ⟨ga, gb, rfl, rfl, hga, hgb, hu2⟩ := hcut
            obtain ⟨wd, rfl⟩ : ∃ x : World, x = wc := ⟨_, rfl⟩
            clear s0 s1 s2 s3 s4 s5 s6 s7 s8
            have hu3 := up_trans hu hu2
            have sb := bx_up SB hu3
            have pb := bx_up PB hu3
            go_upto_region 13 with fail
            go_cut [12, 13] (fun sa sb wx => sa = .int .i64 D ∧ sb = .int .i64 Q0 ∧ Up wd wx)
            case first => as_aux_lemma =>
              have m0 : ∀ p : UpW wd, p.v.cell? ⟨ga, 0, none⟩ = some (.int .i64 n1) := fun p => (bx3 (bx_up hga p.up)).1
              have m1 : ∀ p : UpW wd, p.v.cell? ⟨ga, 1, none⟩ = some (.int .i64 x1) := fun p => (bx3 (bx_up hga p.up)).2.1
              have m2 : ∀ p : UpW wd, p.v.cell? ⟨ga, 2, none⟩ = some (.int .i64 y1) := fun p => (bx3 (bx_up hga p.up)).2.2
              have m3 : ∀ p : UpW wd, p.v.cell? ⟨gb, 0, none⟩ = some (.int .i64 n2) := fun p => (bx3 (bx_up hgb p.up)).1
              have m4 : ∀ p : UpW wd, p.v.cell? ⟨gb, 1, none⟩ = some (.int .i64 x2) := fun p => (bx3 (bx_up hgb p.up)).2.1
              have m5 : ∀ p : UpW wd, p.v.cell? ⟨gb, 2, none⟩ = some (.int .i64 y2) := fun p => (bx3 (bx_up hgb p.up)).2.2
              have m6 : ∀ p : UpW wd, p.v.cell? ⟨w1.heap.size, 0, none⟩ = some (.int .i64 n0) := fun p => (bx_up sb p.up 0 _ rfl).1
              have m7 : ∀ p : UpW wd, p.v.cell? ⟨w1.heap.size, 1, none⟩ = some (.int .i64 x0) := fun p => (bx_up sb p.up 1 _ rfl).1
              have m8 : ∀ p : UpW wd, p.v.cell? ⟨w1.heap.size, 2, none⟩ = some (.int .i64 y0) := fun p => (bx_up sb p.up 2 _ rfl).1
              have m9 : ∀ p : UpW wd, p.v.cell? ⟨w.heap.size, 0, none⟩ = some (.int .i64 X) := fun p => (bx2 (bx_up pb p.up)).1
              have m10 : ∀ p : UpW wd, p.v.cell? ⟨w.heap.size, 1, none⟩ = some (.int .i64 Y) := fun p => (bx2 (bx_up pb p.up)).2
              clear hga hgb sb pb SB PB
              refine wp_upq (by kernel_rfl) (by kernel_rfl) ?_; (repeat (go_big_quiet_step ((first | (go_at_call 19; with_reducible exact upq (unhide hO0 _)) | (go_at_call 19; with_reducible exact upq (unhide hP0 _)))))); refine wpQuiet_nil ?_; intro _ hw'; obtain ⟨pq, hw''⟩ := hw'; subst hw''; have hpq := pq.up
              go_wp2_with fail
              go_meet
              exact ⟨rfl, rfl, hpq⟩
            case rest =>
              obtain ⟨rfl, rfl, hu4⟩ := hcut
              have hu5 := up_trans hu3 hu4
              obtain ⟨we, rfl⟩ : ∃ x : World, x = wc := ⟨_, rfl⟩
              clear hO0 hO1 hO2 hP0 hP1 hP2 SB PB UB hga hgb sb pb hu hu2 hu3 hu4
              have yk := unhide z0
              clear z0 z1 z2
              obtain ⟨bb, hbb⟩ : ∃ b, decide (pv D Q0 < 0) = b := ⟨_, rfl⟩
              go_upto_region 14 with fail
              go_cut [14] (fun s wx => s = .bool bb ∧ wx = we)
              case first => as_aux_lemma =>
                clear hf hu5
                rcases D1 with d1 | d1
                · rcases Int.lt_trichotomy Q0 0 with q | q | q
                  · obtain rfl : bb = false := by rw [← hbb]; exact decide_eq_false (by omega)
                    clear yk hbb
                    go_wp2_with fail
                    go_meet
                    exact ⟨by first | rfl | (simp; omega), rfl⟩
                  · obtain rfl : bb = false := by rw [← hbb]; exact decide_eq_false (by omega)
                    clear yk hbb
                    subst q
                    go_wp2_with fail
                    go_meet
                    exact ⟨by first | rfl | (simp; omega), rfl⟩
                  · obtain rfl : bb = true := by rw [← hbb]; exact decide_eq_true (by omega)
                    clear yk hbb
                    go_wp2_with fail
                    go_meet
                    exact ⟨by first | rfl | (simp; omega), rfl⟩
                · rcases Int.lt_trichotomy Q0 0 with q | q | q
                  · obtain rfl : bb = true := by rw [← hbb]; exact decide_eq_true (by omega)
                    clear yk hbb
                    go_wp2_with fail
                    go_meet
                    exact ⟨by first | rfl | (simp; omega), rfl⟩
                  · obtain rfl : bb = false := by rw [← hbb]; exact decide_eq_false (by omega)
                    clear yk hbb
                    subst q
                    go_wp2_with fail
                    go_meet
                    exact ⟨by first | rfl | (simp; omega), rfl⟩
                  · obtain rfl : bb = false := by rw [← hbb]; exact decide_eq_false (by omega)
                    clear yk hbb
                    go_wp2_with fail
                    go_meet
                    exact ⟨by first | rfl | (simp; omega), rfl⟩
              case rest =>
                obtain ⟨rfl, rfl⟩ := hcut
                have dz : (D == 0) = false := by simp; omega
                have dz2 : ¬ D = 0 := by omega
                go_upto_region 15 with fail
                go_cut [135] (fun s wx => s = .bool false ∧ wx = wc)
                case first => as_aux_lemma =>
                  clear yk D1 hu5
                  cases fT
                  · obtain ⟨t1, t2, u0, u1, u2⟩ := (unhide hf).2 rfl
                    obtain rfl : bb = false := by rw [← hbb]; exact decide_eq_false (by omega)
                    subst t1 t2
                    clear u0 u1 u2 hf hbb
                    go_wp2_with fail
                    go_meet
                    exact ⟨rfl, rfl⟩
                  · obtain ⟨t1, t2, u0, v0, u1, v1, u2, v2⟩ := (unhide hf).1 rfl
                    subst t1
                    cases bb
                    · have g1 := v0 (by have := of_decide_eq_false hbb; omega)
                      clear u0 v0 u1 v1 u2 v2 hf hbb
                      have g3 : ((0 : Int) == G) = false := by simp; omega
                      have g4 : ¬ (0 : Int) = G := by omega
                      by_cases lt : (0 : Int) < G
                      · go_wp2_with fail
                        go_meet
                        exact ⟨rfl, rfl⟩
                      · go_wp2_with fail
                        go_meet
                        exact ⟨rfl, rfl⟩
                    · have g1 := u0 (of_decide_eq_true hbb)
                      clear u0 v0 u1 v1 u2 v2 hf hbb
                      have g5 : ¬ (0 : Int) < G := by omega
                      by_cases eq : G = (0 : Int)
                      · subst eq
                        go_wp2_with fail
                        go_meet
                        exact ⟨rfl, rfl⟩
                      · have g3 : ((0 : Int) == G) = false := by simp; omega
                        have g4 : ¬ (0 : Int) = G := by omega
                        go_wp2_with fail
                        go_meet
                        exact ⟨rfl, rfl⟩
                case rest =>
                  obtain ⟨rfl, rfl⟩ := hcut
                  clear hf yk hbb
                  go_wp2_with fail
                  go_roundw
                  case rel => exact ⟨.inr (.inl (by first | rfl | go_num)), hu5⟩
                  case measure => simp [intOf]
        · go_upto_region 12 with fail
          obtain ⟨s0, s1, s2, s3, s4, s5, s6, s7, s8⟩ := bx9 (bx_up SB hu)
          go_cut [10, 11] (fun sa sb wx => ∃ ga gb : Nat, sa = .pointer (some ⟨ga, 0, none⟩) ∧ sb = .pointer (some ⟨gb, 0, none⟩) ∧ Bx wx ga [.int .i64 n2, .int .i64 x2, .int .i64 y2] ∧ Bx wx gb [.int .i64 n0, .int .i64 x0, .int .i64 y0] ∧ Up wr wx)
          case first => as_aux_lemma =>
            have hmk : ∀ wx' : World, Up wr wx' → wx'.cell? ⟨w1.heap.size, 6, none⟩ = some (.int .i64 n2) ∧ wx'.cell? ⟨w1.heap.size, 7, none⟩ = some (.int .i64 x2) ∧ wx'.cell? ⟨w1.heap.size, 8, none⟩ = some (.int .i64 y2) ∧ wx'.cell? ⟨w1.heap.size, 0, none⟩ = some (.int .i64 n0) ∧ wx'.cell? ⟨w1.heap.size, 1, none⟩ = some (.int .i64 x0) ∧ wx'.cell? ⟨w1.heap.size, 2, none⟩ = some (.int .i64 y0) ∧ Up wr wx' := fun wx' hq => by
              obtain ⟨z0, z1, z2, z3, z4, z5, z6, z7, z8⟩ := bx9 (bx_up SB (up_trans hu hq))
              exact ⟨z6, z7, z8, z0, z1, z2, hq⟩
            have HM := hide hmk
            have t1 := Nat.le_refl wr.heap.size
            have i1 : IntKind.i64.wrap 1 = 1 := IntWalk.i64_in _ ⟨by omega, by omega⟩
            have i2 : IntKind.i64.wrap 2 = 2 := IntWalk.i64_in _ ⟨by omega, by omega⟩
            have i3 : IntKind.i64.wrap 3 = 3 := IntWalk.i64_in _ ⟨by omega, by omega⟩
            have i4 : IntKind.i64.wrap 4 = 4 := IntWalk.i64_in _ ⟨by omega, by omega⟩
            clear hmk s0 s1 s2 s3 s4 s5 s6 s7 s8 SB PB UB hu hO0 hO1 hO2 hP0 hP1 hP2 z0 z1 z2 hf D1
            go_region_held3 (fun wx' => wx'.cell? ⟨w1.heap.size, 6, none⟩ = some (.int .i64 n2) ∧ wx'.cell? ⟨w1.heap.size, 7, none⟩ = some (.int .i64 x2) ∧ wx'.cell? ⟨w1.heap.size, 8, none⟩ = some (.int .i64 y2) ∧ wx'.cell? ⟨w1.heap.size, 0, none⟩ = some (.int .i64 n0) ∧ wx'.cell? ⟨w1.heap.size, 1, none⟩ = some (.int .i64 x0) ∧ wx'.cell? ⟨w1.heap.size, 2, none⟩ = some (.int .i64 y0) ∧ Up wr wx') ((go_split_ands; exact unhide HM _ (by repeat' (first | (with_reducible exact up_refl _) | (with_reducible assumption) | (with_reducible refine up_alloc ?_ _) | (with_reducible refine up_drewN ?_ _) | (with_reducible refine up_drew ?_) | (with_reducible refine up_set ?_ (by first | (simp; done) | (simp; omega) | omega) _) | (refine up_trans ?_ (by with_reducible assumption)))))) (fail)
            all_goals go_wp2_with fail
            all_goals go_meet
            all_goals first
              | (refine ⟨wr.heap.size, wr.heap.size + 1, by with_reducible rfl, by with_reducible rfl, ?_, ?_, (by repeat' (first | (with_reducible exact up_refl _) | (with_reducible assumption) | (with_reducible refine up_alloc ?_ _) | (with_reducible refine up_drewN ?_ _) | (with_reducible refine up_drew ?_) | (with_reducible refine up_set ?_ (by first | (simp; done) | (simp; omega) | omega) _) | (refine up_trans ?_ (by with_reducible assumption))))⟩ <;> first | exact (bx_two wr _ _ _ _).1 | exact (bx_two wr _ _ _ _).2)
              | (refine ⟨wr.heap.size + 1, wr.heap.size, by with_reducible rfl, by with_reducible rfl, ?_, ?_, (by repeat' (first | (with_reducible exact up_refl _) | (with_reducible assumption) | (with_reducible refine up_alloc ?_ _) | (with_reducible refine up_drewN ?_ _) | (with_reducible refine up_drew ?_) | (with_reducible refine up_set ?_ (by first | (simp; done) | (simp; omega) | omega) _) | (refine up_trans ?_ (by with_reducible assumption))))⟩ <;> first | exact (bx_two wr _ _ _ _).1 | exact (bx_two wr _ _ _ _).2)
          case rest =>
            obtain ⟨ga, gb, rfl, rfl, hga, hgb, hu2⟩ := hcut
            obtain ⟨wd, rfl⟩ : ∃ x : World, x = wc := ⟨_, rfl⟩
            clear s0 s1 s2 s3 s4 s5 s6 s7 s8
            have hu3 := up_trans hu hu2
            have sb := bx_up SB hu3
            have pb := bx_up PB hu3
            go_upto_region 13 with fail
            go_cut [12, 13] (fun sa sb wx => sa = .int .i64 D ∧ sb = .int .i64 Q1 ∧ Up wd wx)
            case first => as_aux_lemma =>
              have m0 : ∀ p : UpW wd, p.v.cell? ⟨ga, 0, none⟩ = some (.int .i64 n2) := fun p => (bx3 (bx_up hga p.up)).1
              have m1 : ∀ p : UpW wd, p.v.cell? ⟨ga, 1, none⟩ = some (.int .i64 x2) := fun p => (bx3 (bx_up hga p.up)).2.1
              have m2 : ∀ p : UpW wd, p.v.cell? ⟨ga, 2, none⟩ = some (.int .i64 y2) := fun p => (bx3 (bx_up hga p.up)).2.2
              have m3 : ∀ p : UpW wd, p.v.cell? ⟨gb, 0, none⟩ = some (.int .i64 n0) := fun p => (bx3 (bx_up hgb p.up)).1
              have m4 : ∀ p : UpW wd, p.v.cell? ⟨gb, 1, none⟩ = some (.int .i64 x0) := fun p => (bx3 (bx_up hgb p.up)).2.1
              have m5 : ∀ p : UpW wd, p.v.cell? ⟨gb, 2, none⟩ = some (.int .i64 y0) := fun p => (bx3 (bx_up hgb p.up)).2.2
              have m6 : ∀ p : UpW wd, p.v.cell? ⟨w1.heap.size, 3, none⟩ = some (.int .i64 n1) := fun p => (bx_up sb p.up 3 _ rfl).1
              have m7 : ∀ p : UpW wd, p.v.cell? ⟨w1.heap.size, 4, none⟩ = some (.int .i64 x1) := fun p => (bx_up sb p.up 4 _ rfl).1
              have m8 : ∀ p : UpW wd, p.v.cell? ⟨w1.heap.size, 5, none⟩ = some (.int .i64 y1) := fun p => (bx_up sb p.up 5 _ rfl).1
              have m9 : ∀ p : UpW wd, p.v.cell? ⟨w.heap.size, 0, none⟩ = some (.int .i64 X) := fun p => (bx2 (bx_up pb p.up)).1
              have m10 : ∀ p : UpW wd, p.v.cell? ⟨w.heap.size, 1, none⟩ = some (.int .i64 Y) := fun p => (bx2 (bx_up pb p.up)).2
              clear hga hgb sb pb SB PB
              refine wp_upq (by kernel_rfl) (by kernel_rfl) ?_; (repeat (go_big_quiet_step ((first | (go_at_call 19; with_reducible exact upq (unhide hO1 _)) | (go_at_call 19; with_reducible exact upq (unhide hP1 _)))))); refine wpQuiet_nil ?_; intro _ hw'; obtain ⟨pq, hw''⟩ := hw'; subst hw''; have hpq := pq.up
              go_wp2_with fail
              go_meet
              exact ⟨rfl, rfl, hpq⟩
            case rest =>
              obtain ⟨rfl, rfl, hu4⟩ := hcut
              have hu5 := up_trans hu3 hu4
              obtain ⟨we, rfl⟩ : ∃ x : World, x = wc := ⟨_, rfl⟩
              clear hO0 hO1 hO2 hP0 hP1 hP2 SB PB UB hga hgb sb pb hu hu2 hu3 hu4
              have yk := unhide z1
              clear z0 z1 z2
              obtain ⟨bb, hbb⟩ : ∃ b, decide (pv D Q1 < 0) = b := ⟨_, rfl⟩
              go_upto_region 14 with fail
              go_cut [14] (fun s wx => s = .bool bb ∧ wx = we)
              case first => as_aux_lemma =>
                clear hf hu5
                rcases D1 with d1 | d1
                · rcases Int.lt_trichotomy Q1 0 with q | q | q
                  · obtain rfl : bb = false := by rw [← hbb]; exact decide_eq_false (by omega)
                    clear yk hbb
                    go_wp2_with fail
                    go_meet
                    exact ⟨by first | rfl | (simp; omega), rfl⟩
                  · obtain rfl : bb = false := by rw [← hbb]; exact decide_eq_false (by omega)
                    clear yk hbb
                    subst q
                    go_wp2_with fail
                    go_meet
                    exact ⟨by first | rfl | (simp; omega), rfl⟩
                  · obtain rfl : bb = true := by rw [← hbb]; exact decide_eq_true (by omega)
                    clear yk hbb
                    go_wp2_with fail
                    go_meet
                    exact ⟨by first | rfl | (simp; omega), rfl⟩
                · rcases Int.lt_trichotomy Q1 0 with q | q | q
                  · obtain rfl : bb = true := by rw [← hbb]; exact decide_eq_true (by omega)
                    clear yk hbb
                    go_wp2_with fail
                    go_meet
                    exact ⟨by first | rfl | (simp; omega), rfl⟩
                  · obtain rfl : bb = false := by rw [← hbb]; exact decide_eq_false (by omega)
                    clear yk hbb
                    subst q
                    go_wp2_with fail
                    go_meet
                    exact ⟨by first | rfl | (simp; omega), rfl⟩
                  · obtain rfl : bb = false := by rw [← hbb]; exact decide_eq_false (by omega)
                    clear yk hbb
                    go_wp2_with fail
                    go_meet
                    exact ⟨by first | rfl | (simp; omega), rfl⟩
              case rest =>
                obtain ⟨rfl, rfl⟩ := hcut
                have dz : (D == 0) = false := by simp; omega
                have dz2 : ¬ D = 0 := by omega
                go_upto_region 15 with fail
                go_cut [135] (fun s wx => s = .bool false ∧ wx = wc)
                case first => as_aux_lemma =>
                  clear yk D1 hu5
                  cases fT
                  · obtain ⟨t1, t2, u0, u1, u2⟩ := (unhide hf).2 rfl
                    obtain rfl : bb = false := by rw [← hbb]; exact decide_eq_false (by omega)
                    subst t1 t2
                    clear u0 u1 u2 hf hbb
                    go_wp2_with fail
                    go_meet
                    exact ⟨rfl, rfl⟩
                  · obtain ⟨t1, t2, u0, v0, u1, v1, u2, v2⟩ := (unhide hf).1 rfl
                    subst t1
                    cases bb
                    · have g1 := v1 (by have := of_decide_eq_false hbb; omega)
                      clear u0 v0 u1 v1 u2 v2 hf hbb
                      have g3 : ((1 : Int) == G) = false := by simp; omega
                      have g4 : ¬ (1 : Int) = G := by omega
                      by_cases lt : (1 : Int) < G
                      · go_wp2_with fail
                        go_meet
                        exact ⟨rfl, rfl⟩
                      · go_wp2_with fail
                        go_meet
                        exact ⟨rfl, rfl⟩
                    · have g1 := u1 (of_decide_eq_true hbb)
                      clear u0 v0 u1 v1 u2 v2 hf hbb
                      have g5 : ¬ (1 : Int) < G := by omega
                      by_cases eq : G = (1 : Int)
                      · subst eq
                        go_wp2_with fail
                        go_meet
                        exact ⟨rfl, rfl⟩
                      · have g3 : ((1 : Int) == G) = false := by simp; omega
                        have g4 : ¬ (1 : Int) = G := by omega
                        go_wp2_with fail
                        go_meet
                        exact ⟨rfl, rfl⟩
                case rest =>
                  obtain ⟨rfl, rfl⟩ := hcut
                  clear hf yk hbb
                  go_wp2_with fail
                  go_roundw
                  case rel => exact ⟨.inr (.inr (.inl (by first | rfl | go_num))), hu5⟩
                  case measure => simp [intOf]
        · go_upto_region 12 with fail
          obtain ⟨s0, s1, s2, s3, s4, s5, s6, s7, s8⟩ := bx9 (bx_up SB hu)
          go_cut [10, 11] (fun sa sb wx => ∃ ga gb : Nat, sa = .pointer (some ⟨ga, 0, none⟩) ∧ sb = .pointer (some ⟨gb, 0, none⟩) ∧ Bx wx ga [.int .i64 n0, .int .i64 x0, .int .i64 y0] ∧ Bx wx gb [.int .i64 n1, .int .i64 x1, .int .i64 y1] ∧ Up wr wx)
          case first => as_aux_lemma =>
            have hmk : ∀ wx' : World, Up wr wx' → wx'.cell? ⟨w1.heap.size, 0, none⟩ = some (.int .i64 n0) ∧ wx'.cell? ⟨w1.heap.size, 1, none⟩ = some (.int .i64 x0) ∧ wx'.cell? ⟨w1.heap.size, 2, none⟩ = some (.int .i64 y0) ∧ wx'.cell? ⟨w1.heap.size, 3, none⟩ = some (.int .i64 n1) ∧ wx'.cell? ⟨w1.heap.size, 4, none⟩ = some (.int .i64 x1) ∧ wx'.cell? ⟨w1.heap.size, 5, none⟩ = some (.int .i64 y1) ∧ Up wr wx' := fun wx' hq => by
              obtain ⟨z0, z1, z2, z3, z4, z5, z6, z7, z8⟩ := bx9 (bx_up SB (up_trans hu hq))
              exact ⟨z0, z1, z2, z3, z4, z5, hq⟩
            have HM := hide hmk
            have t1 := Nat.le_refl wr.heap.size
            have i1 : IntKind.i64.wrap 1 = 1 := IntWalk.i64_in _ ⟨by omega, by omega⟩
            have i2 : IntKind.i64.wrap 2 = 2 := IntWalk.i64_in _ ⟨by omega, by omega⟩
            have i3 : IntKind.i64.wrap 3 = 3 := IntWalk.i64_in _ ⟨by omega, by omega⟩
            have i4 : IntKind.i64.wrap 4 = 4 := IntWalk.i64_in _ ⟨by omega, by omega⟩
            clear hmk s0 s1 s2 s3 s4 s5 s6 s7 s8 SB PB UB hu hO0 hO1 hO2 hP0 hP1 hP2 z0 z1 z2 hf D1
            go_region_held3 (fun wx' => wx'.cell? ⟨w1.heap.size, 0, none⟩ = some (.int .i64 n0) ∧ wx'.cell? ⟨w1.heap.size, 1, none⟩ = some (.int .i64 x0) ∧ wx'.cell? ⟨w1.heap.size, 2, none⟩ = some (.int .i64 y0) ∧ wx'.cell? ⟨w1.heap.size, 3, none⟩ = some (.int .i64 n1) ∧ wx'.cell? ⟨w1.heap.size, 4, none⟩ = some (.int .i64 x1) ∧ wx'.cell? ⟨w1.heap.size, 5, none⟩ = some (.int .i64 y1) ∧ Up wr wx') ((go_split_ands; exact unhide HM _ (by repeat' (first | (with_reducible exact up_refl _) | (with_reducible assumption) | (with_reducible refine up_alloc ?_ _) | (with_reducible refine up_drewN ?_ _) | (with_reducible refine up_drew ?_) | (with_reducible refine up_set ?_ (by first | (simp; done) | (simp; omega) | omega) _) | (refine up_trans ?_ (by with_reducible assumption)))))) (fail)
            all_goals go_wp2_with fail
            all_goals go_meet
            all_goals first
              | (refine ⟨wr.heap.size, wr.heap.size + 1, by with_reducible rfl, by with_reducible rfl, ?_, ?_, (by repeat' (first | (with_reducible exact up_refl _) | (with_reducible assumption) | (with_reducible refine up_alloc ?_ _) | (with_reducible refine up_drewN ?_ _) | (with_reducible refine up_drew ?_) | (with_reducible refine up_set ?_ (by first | (simp; done) | (simp; omega) | omega) _) | (refine up_trans ?_ (by with_reducible assumption))))⟩ <;> first | exact (bx_two wr _ _ _ _).1 | exact (bx_two wr _ _ _ _).2)
              | (refine ⟨wr.heap.size + 1, wr.heap.size, by with_reducible rfl, by with_reducible rfl, ?_, ?_, (by repeat' (first | (with_reducible exact up_refl _) | (with_reducible assumption) | (with_reducible refine up_alloc ?_ _) | (with_reducible refine up_drewN ?_ _) | (with_reducible refine up_drew ?_) | (with_reducible refine up_set ?_ (by first | (simp; done) | (simp; omega) | omega) _) | (refine up_trans ?_ (by with_reducible assumption))))⟩ <;> first | exact (bx_two wr _ _ _ _).1 | exact (bx_two wr _ _ _ _).2)
          case rest =>
            obtain ⟨ga, gb, rfl, rfl, hga, hgb, hu2⟩ := hcut
            obtain ⟨wd, rfl⟩ : ∃ x : World, x = wc := ⟨_, rfl⟩
            clear s0 s1 s2 s3 s4 s5 s6 s7 s8
            have hu3 := up_trans hu hu2
            have sb := bx_up SB hu3
            have pb := bx_up PB hu3
            go_upto_region 13 with fail
            go_cut [12, 13] (fun sa sb wx => sa = .int .i64 D ∧ sb = .int .i64 Q2 ∧ Up wd wx)
            case first => as_aux_lemma =>
              have m0 : ∀ p : UpW wd, p.v.cell? ⟨ga, 0, none⟩ = some (.int .i64 n0) := fun p => (bx3 (bx_up hga p.up)).1
              have m1 : ∀ p : UpW wd, p.v.cell? ⟨ga, 1, none⟩ = some (.int .i64 x0) := fun p => (bx3 (bx_up hga p.up)).2.1
              have m2 : ∀ p : UpW wd, p.v.cell? ⟨ga, 2, none⟩ = some (.int .i64 y0) := fun p => (bx3 (bx_up hga p.up)).2.2
              have m3 : ∀ p : UpW wd, p.v.cell? ⟨gb, 0, none⟩ = some (.int .i64 n1) := fun p => (bx3 (bx_up hgb p.up)).1
              have m4 : ∀ p : UpW wd, p.v.cell? ⟨gb, 1, none⟩ = some (.int .i64 x1) := fun p => (bx3 (bx_up hgb p.up)).2.1
              have m5 : ∀ p : UpW wd, p.v.cell? ⟨gb, 2, none⟩ = some (.int .i64 y1) := fun p => (bx3 (bx_up hgb p.up)).2.2
              have m6 : ∀ p : UpW wd, p.v.cell? ⟨w1.heap.size, 6, none⟩ = some (.int .i64 n2) := fun p => (bx_up sb p.up 6 _ rfl).1
              have m7 : ∀ p : UpW wd, p.v.cell? ⟨w1.heap.size, 7, none⟩ = some (.int .i64 x2) := fun p => (bx_up sb p.up 7 _ rfl).1
              have m8 : ∀ p : UpW wd, p.v.cell? ⟨w1.heap.size, 8, none⟩ = some (.int .i64 y2) := fun p => (bx_up sb p.up 8 _ rfl).1
              have m9 : ∀ p : UpW wd, p.v.cell? ⟨w.heap.size, 0, none⟩ = some (.int .i64 X) := fun p => (bx2 (bx_up pb p.up)).1
              have m10 : ∀ p : UpW wd, p.v.cell? ⟨w.heap.size, 1, none⟩ = some (.int .i64 Y) := fun p => (bx2 (bx_up pb p.up)).2
              clear hga hgb sb pb SB PB
              refine wp_upq (by kernel_rfl) (by kernel_rfl) ?_; (repeat (go_big_quiet_step ((first | (go_at_call 19; with_reducible exact upq (unhide hO2 _)) | (go_at_call 19; with_reducible exact upq (unhide hP2 _)))))); refine wpQuiet_nil ?_; intro _ hw'; obtain ⟨pq, hw''⟩ := hw'; subst hw''; have hpq := pq.up
              go_wp2_with fail
              go_meet
              exact ⟨rfl, rfl, hpq⟩
            case rest =>
              obtain ⟨rfl, rfl, hu4⟩ := hcut
              have hu5 := up_trans hu3 hu4
              obtain ⟨we, rfl⟩ : ∃ x : World, x = wc := ⟨_, rfl⟩
              clear hO0 hO1 hO2 hP0 hP1 hP2 SB PB UB hga hgb sb pb hu hu2 hu3 hu4
              have yk := unhide z2
              clear z0 z1 z2
              obtain ⟨bb, hbb⟩ : ∃ b, decide (pv D Q2 < 0) = b := ⟨_, rfl⟩
              go_upto_region 14 with fail
              go_cut [14] (fun s wx => s = .bool bb ∧ wx = we)
              case first => as_aux_lemma =>
                clear hf hu5
                rcases D1 with d1 | d1
                · rcases Int.lt_trichotomy Q2 0 with q | q | q
                  · obtain rfl : bb = false := by rw [← hbb]; exact decide_eq_false (by omega)
                    clear yk hbb
                    go_wp2_with fail
                    go_meet
                    exact ⟨by first | rfl | (simp; omega), rfl⟩
                  · obtain rfl : bb = false := by rw [← hbb]; exact decide_eq_false (by omega)
                    clear yk hbb
                    subst q
                    go_wp2_with fail
                    go_meet
                    exact ⟨by first | rfl | (simp; omega), rfl⟩
                  · obtain rfl : bb = true := by rw [← hbb]; exact decide_eq_true (by omega)
                    clear yk hbb
                    go_wp2_with fail
                    go_meet
                    exact ⟨by first | rfl | (simp; omega), rfl⟩
                · rcases Int.lt_trichotomy Q2 0 with q | q | q
                  · obtain rfl : bb = true := by rw [← hbb]; exact decide_eq_true (by omega)
                    clear yk hbb
                    go_wp2_with fail
                    go_meet
                    exact ⟨by first | rfl | (simp; omega), rfl⟩
                  · obtain rfl : bb = false := by rw [← hbb]; exact decide_eq_false (by omega)
                    clear yk hbb
                    subst q
                    go_wp2_with fail
                    go_meet
                    exact ⟨by first | rfl | (simp; omega), rfl⟩
                  · obtain rfl : bb = false := by rw [← hbb]; exact decide_eq_false (by omega)
                    clear yk hbb
                    go_wp2_with fail
                    go_meet
                    exact ⟨by first | rfl | (simp; omega), rfl⟩
              case rest =>
                obtain ⟨rfl, rfl⟩ := hcut
                have dz : (D == 0) = false := by simp; omega
                have dz2 : ¬ D = 0 := by omega
                go_upto_region 15 with fail
                go_cut [135] (fun s wx => s = .bool false ∧ wx = wc)
                case first => as_aux_lemma =>
                  clear yk D1 hu5
                  cases fT
                  · obtain ⟨t1, t2, u0, u1, u2⟩ := (unhide hf).2 rfl
                    obtain rfl : bb = false := by rw [← hbb]; exact decide_eq_false (by omega)
                    subst t1 t2
                    clear u0 u1 u2 hf hbb
                    go_wp2_with fail
                    go_meet
                    exact ⟨rfl, rfl⟩
                  · obtain ⟨t1, t2, u0, v0, u1, v1, u2, v2⟩ := (unhide hf).1 rfl
                    subst t1
                    cases bb
                    · have g1 := v2 (by have := of_decide_eq_false hbb; omega)
                      clear u0 v0 u1 v1 u2 v2 hf hbb
                      have g3 : ((2 : Int) == G) = false := by simp; omega
                      have g4 : ¬ (2 : Int) = G := by omega
                      by_cases lt : (2 : Int) < G
                      · go_wp2_with fail
                        go_meet
                        exact ⟨rfl, rfl⟩
                      · go_wp2_with fail
                        go_meet
                        exact ⟨rfl, rfl⟩
                    · have g1 := u2 (of_decide_eq_true hbb)
                      clear u0 v0 u1 v1 u2 v2 hf hbb
                      have g5 : ¬ (2 : Int) < G := by omega
                      by_cases eq : G = (2 : Int)
                      · subst eq
                        go_wp2_with fail
                        go_meet
                        exact ⟨rfl, rfl⟩
                      · have g3 : ((2 : Int) == G) = false := by simp; omega
                        have g4 : ¬ (2 : Int) = G := by omega
                        go_wp2_with fail
                        go_meet
                        exact ⟨rfl, rfl⟩
                case rest =>
                  obtain ⟨rfl, rfl⟩ := hcut
                  clear hf yk hbb
                  go_wp2_with fail
                  go_roundw
                  case rel => exact ⟨.inr (.inr (.inr (by first | rfl | go_num))), hu5⟩
                  case measure => simp [intOf]
        · go_wp2_with (go_at_call 15; refine (l_known _).mono ?_; rintro e w5 ⟨rfl, hb5⟩)
          go_ret
          exact ⟨rfl, (by repeat' (first | (with_reducible exact up_refl _) | (with_reducible assumption) | (with_reducible refine up_alloc ?_ _) | (with_reducible refine up_drewN ?_ _) | (with_reducible refine up_drew ?_) | (with_reducible refine up_set ?_ (by first | (simp; done) | (simp; omega) | omega) _) | (refine up_trans ?_ (by with_reducible assumption))))⟩
    · have e3 := unhide hB rfl cF
      obtain ⟨e4, e5⟩ := unhide hE cF
      rw [e4, e5, e3] at hT
      go_enter Try.func5, Try.ntmps5
      go_wp2_with (first | (go_at_call 16; (with_reducible refine (unhide hS _ (by repeat' (first | (with_reducible exact up_refl _) | (with_reducible assumption) | (with_reducible refine up_alloc ?_ _) | (with_reducible refine up_drewN ?_ _) | (with_reducible refine up_drew ?_) | (with_reducible refine up_set ?_ (by first | (simp; done) | (simp; omega) | omega) _) | (refine up_trans ?_ (by with_reducible assumption))))).mono ?_); rintro e w1 ⟨rfl, hb1⟩; have k0_0 : w1.cell? ⟨w.heap.size, 0, none⟩ = some (.int .i64 X) := up_cell hb1 (by first | (with_reducible assumption) | (refine alloc_cell _ ?_; with_reducible assumption) | go_cell); have k0_1 : w1.cell? ⟨w.heap.size, 1, none⟩ = some (.int .i64 Y) := up_cell hb1 (by first | (with_reducible assumption) | (refine alloc_cell _ ?_; with_reducible assumption) | go_cell); have k2 := fun o => alloc_cell o k0_0; have k3 := fun o => alloc_cell o k0_1) | (go_at_call 18; (with_reducible refine (unhide hT _ (by repeat' (first | (with_reducible exact up_refl _) | (with_reducible assumption) | (with_reducible refine up_alloc ?_ _) | (with_reducible refine up_drewN ?_ _) | (with_reducible refine up_drew ?_) | (with_reducible refine up_set ?_ (by first | (simp; done) | (simp; omega) | omega) _) | (refine up_trans ?_ (by with_reducible assumption))))).mono ?_); rintro e w2 ⟨rfl, hb2⟩) | (go_at_call 15; refine (l_known _).mono ?_; rintro e w5 ⟨rfl, hb5⟩))
      go_ret
      exact ⟨rfl, (by repeat' (first | (with_reducible exact up_refl _) | (with_reducible assumption) | (with_reducible refine up_alloc ?_ _) | (with_reducible refine up_drewN ?_ _) | (with_reducible refine up_drew ?_) | (with_reducible refine up_set ?_ (by first | (simp; done) | (simp; omega) | omega) _) | (refine up_trans ?_ (by with_reducible assumption))))⟩
  · have e3 := unhide hD cE
    have cF : ¬ F = 0 := by rw [e3]; exact cE
    obtain ⟨e4, e5⟩ := unhide hE cF
    rw [e4, e5, e3] at hT
    have c2 : (E == 0) = false := by simp; exact cE
    simp only [if_neg cE] at hS
    go_enter Try.func5, Try.ntmps5
    go_wp2_with (first | (go_at_call 16; (with_reducible refine (unhide hS _ (by repeat' (first | (with_reducible exact up_refl _) | (with_reducible assumption) | (with_reducible refine up_alloc ?_ _) | (with_reducible refine up_drewN ?_ _) | (with_reducible refine up_drew ?_) | (with_reducible refine up_set ?_ (by first | (simp; done) | (simp; omega) | omega) _) | (refine up_trans ?_ (by with_reducible assumption))))).mono ?_); rintro e w1 ⟨rfl, hb1⟩; have k0_0 : w1.cell? ⟨w.heap.size, 0, none⟩ = some (.int .i64 X) := up_cell hb1 (by first | (with_reducible assumption) | (refine alloc_cell _ ?_; with_reducible assumption) | go_cell); have k0_1 : w1.cell? ⟨w.heap.size, 1, none⟩ = some (.int .i64 Y) := up_cell hb1 (by first | (with_reducible assumption) | (refine alloc_cell _ ?_; with_reducible assumption) | go_cell); have k2 := fun o => alloc_cell o k0_0; have k3 := fun o => alloc_cell o k0_1) | (go_at_call 18; (with_reducible refine (unhide hT _ (by repeat' (first | (with_reducible exact up_refl _) | (with_reducible assumption) | (with_reducible refine up_alloc ?_ _) | (with_reducible refine up_drewN ?_ _) | (with_reducible refine up_drew ?_) | (with_reducible refine up_set ?_ (by first | (simp; done) | (simp; omega) | omega) _) | (refine up_trans ?_ (by with_reducible assumption))))).mono ?_); rintro e w2 ⟨rfl, hb2⟩) | (go_at_call 15; refine (l_known _).mono ?_; rintro e w5 ⟨rfl, hb5⟩))
    go_ret
    exact ⟨rfl, (by repeat' (first | (with_reducible exact up_refl _) | (with_reducible assumption) | (with_reducible refine up_alloc ?_ _) | (with_reducible refine up_drewN ?_ _) | (with_reducible refine up_drew ?_) | (with_reducible refine up_set ?_ (by first | (simp; done) | (simp; omega) | omega) _) | (refine up_trans ?_ (by with_reducible assumption))))⟩
end Go.Proofs.Ytgjcpgmnflpdkaa
