/- The next corner of a hull of a load. -/
import Derived.Test.YtdehnokcjnbjoaaGreatLdB
import Derived.Test.YtdehnokcjnbjoaaGreatSl
namespace Go.Proofs.YtdehnokcjnbjoaaGreat
open Go.RowKit Go.Proofs.Gn
attribute [local go_sem] Oper.semAt_some
set_option linter.unusedVariables false
theorem i64_small {x : Int} (h : -1000000000 ≤ x ∧ x ≤ 1000000000) : IntKind.i64.wrap x = x := IntWalk.i64_in _ ⟨by omega, by omega⟩
theorem nxS_if (a w p : Int × Int) : ∃ TT : Bool, (TT = true ↔ (w.1 * (p.2 - a.2) - w.2 * (p.1 - a.1) < 0 ∨ (w.1 * (p.2 - a.2) - w.2 * (p.1 - a.1) = 0 ∧ w.1 * w.1 + w.2 * w.2 < (p.1 - a.1) * (p.1 - a.1) + (p.2 - a.2) * (p.2 - a.2)))) ∧ (TT = true → nxS a w p = (p.1 - a.1, p.2 - a.2)) ∧ (TT = false → nxS a w p = w) := by
  refine ⟨decide (w.1 * (p.2 - a.2) - w.2 * (p.1 - a.1) < 0 ∨ (w.1 * (p.2 - a.2) - w.2 * (p.1 - a.1) = 0 ∧ w.1 * w.1 + w.2 * w.2 < (p.1 - a.1) * (p.1 - a.1) + (p.2 - a.2) * (p.2 - a.2))), by simp, fun h => ?_, fun h => ?_⟩
  · have h := of_decide_eq_true h
    unfold nxS
    rcases h with h | ⟨h, h'⟩
    · rw [if_pos h]
    · rw [if_neg (by omega), if_pos h, if_pos h']
  · have h := of_decide_eq_false h
    unfold nxS
    rw [if_neg (fun x => h (.inl x))]
    split
    · rename_i h1
      rw [if_neg (fun x => h (.inr ⟨h1, x⟩))]
    · rfl
set_option maxRecDepth 100000 in
set_option maxHeartbeats 16000000 in
theorem p_next (A : Option Addr) (l : List (Int × Int)) (cap : Nat) (a : Int × Int) (w : World) (h : Pts w A l) (hl : ∀ p ∈ l, Nr 4000 p) (ha : Nr 4000 a) (hn : l.length ≤ 100) :
    Calls Tryz.prog 151 #[.slice A l.length cap, pt a.1 a.2] w fun e w' => e = .returned (pt (nxF l a).1 (nxF l a).2) ∧ Up w w' := by
  have HP := hide h
  have HL := hide hl
  have HA := hide ha
  have HI := hide (fun x p => nxS_if a x p)
  have HD := hide (fun x k (hk : k < l.length) => nxW_drop (a := a) (w := x) hk)
  have HN := hide (fun x p (h1 : Nr 4000 p) (h2 : Nr 8000 x) => nxS_nr (a := a) ha h1 h2)
  have HW := hide (nxW_nr ha (l := l) (w := (0, 0)) hl (by unfold Nr; decide))
  have HM := hide (fun x y p q W e1 e2 => p_minusL x y p q W e1 e2)
  have HC := hide (fun x y p q W e1 e2 e3 => p_crossL x y p q W e1 e2 e3)
  have HO := hide (fun x y p q W e1 e2 e3 => p_dotL x y p q W e1 e2 e3)
  have HU := hide (fun x y p q W e1 e2 => p_plusL x y p q W e1 e2)
  unfold nxF
  obtain ⟨a1, a2⟩ := a
  obtain ⟨v, hv⟩ : ∃ v, nxW (a1, a2) (0, 0) l = v := ⟨_, rfl⟩
  rw [hv] at HW ⊢
  have HV := hide hv
  obtain ⟨v1, v2⟩ := v
  obtain ⟨n, hnn⟩ : ∃ n, l.length = n := ⟨_, rfl⟩
  have HNn := hide hnn
  rw [hnn] at hn ⊢
  dsimp only at HI HD HN HW HV ⊢
  clear h hl ha hv hnn
  go_enter Tryz.func151, Tryz.ntmps151
  go_upto_region 2 with fail
  refine at_wpC (fun W0 hW0 => ?_)
  have U0 : Up w W0 := by rw [hW0]; exact (by repeat' (first | (with_reducible exact up_refl _) | (with_reducible assumption) | (with_reducible refine up_alloc ?_ _) | (with_reducible refine up_drewN ?_ _) | (with_reducible refine up_drew ?_) | (with_reducible refine up_set ?_ (by first | (simp; done) | (simp; omega) | omega) _) | (refine up_trans ?_ (by with_reducible assumption))))
  obtain ⟨bA, bR, bW⟩ : Bx W0 w.heap.size [.int .i64 a1, .int .i64 a2] ∧ Bx W0 (w.heap.size + 1) [.int .i64 0, .int .i64 0] ∧ Bx W0 (w.heap.size + 1 + 1) [.int .i64 0, .int .i64 0] := by
    rw [hW0]
    exact bxl3 w _ _ _ _
  clear hW0
  go_upto_region 3 with fail
  go_loopw [12] (fun s12 wr => ∃ (k : Nat) (x y : Int), k ≤ n ∧ s12 = .int .i64 k ∧ Nr 8000 (x, y) ∧ nxW (a1, a2) (x, y) (l.drop k) = (v1, v2) ∧ Bx wr w.heap.size [.int .i64 a1, .int .i64 a2] ∧ Bx wr (w.heap.size + 1) [.int .i64 0, .int .i64 0] ∧ Bx wr (w.heap.size + 1 + 1) [.int .i64 x, .int .i64 y] ∧ Up w wr) (fun s12 _ => n - (intOf s12).toNat)
  case atStart => exact ⟨0, 0, 0, by omega, rfl, by unfold Nr; decide, by rw [List.drop_zero]; exact unhide HV, bA, bR, bW, U0⟩
  case round =>
    clear bA bR bW U0
    obtain ⟨k, x, y, hk, rfl, hxy, hrest, bA, bR, bW, hu⟩ := hrel
    by_cases hlt : k < n
    · have hl : k < l.length := by rw [unhide HNn]; exact hlt
      obtain ⟨b, off, rfl, hc⟩ := (unhide HP).resolve_left (by intro e; rw [e] at hl; simp at hl)
      obtain ⟨c0, c1⟩ := hc k hl
      have hpn := unhide HL l[k] (List.getElem_mem hl)
      rw [unhide HD (x, y) k hl] at hrest
      obtain ⟨TT, t1, t2, t3⟩ := unhide HI (x, y) l[k]
      have hs := unhide HN (x, y) l[k] hpn hxy
      generalize l[k] = p at *
      obtain ⟨p1, p2⟩ := p
      have han := unhide HA
      unfold Nr at hpn han hxy
      dsimp only at hpn han hxy t1 t2 t3 c0 c1
      have o1 : IntKind.i64.wrap (p1 - a1) = p1 - a1 := i64_small (by omega)
      have o2 : IntKind.i64.wrap (p2 - a2) = p2 - a2 := i64_small (by omega)
      have q1 : -8000 ≤ p1 - a1 ∧ p1 - a1 ≤ 8000 := by omega
      have q2 : -8000 ≤ p2 - a2 ∧ p2 - a2 ≤ 8000 := by omega
      have M1 := hide (fun W => unhide HM p1 p2 a1 a2 W o1 o2)
      clear o1 o2 hpn han
      generalize p1 - a1 = ox at *
      generalize p2 - a2 = oy at *
      have e1 := mul_nr hxy.1 q2 (by omega)
      have e2 := mul_nr hxy.2 q1 (by omega)
      have e3 := mul_nr q1 q1 (by omega)
      have e4 := mul_nr q2 q2 (by omega)
      have e5 := mul_nr hxy.1 hxy.1 (by omega)
      have e6 := mul_nr hxy.2 hxy.2 (by omega)
      have M2 := hide (fun W => unhide HC x y ox oy W (i64_small (by omega)) (i64_small (by omega)) (i64_small (by omega)))
      have M3 := hide (fun W => unhide HO ox oy ox oy W (i64_small (by omega)) (i64_small (by omega)) (i64_small (by omega)))
      have M4 := hide (fun W => unhide HO x y x y W (i64_small (by omega)) (i64_small (by omega)) (i64_small (by omega)))
      clear e1 e2 e3 e4 e5 e6 q1 q2 hc
      generalize x * oy - y * ox = T at *
      generalize ox * ox + oy * oy = D1 at *
      generalize x * x + y * y = D2 at *
      have HT1 := hide t1
      have HT2 := hide t2
      have HT3 := hide t3
      have HRest := hide hrest
      have HSn := hide hs
      clear t1 t2 t3 hrest hs hxy
      have c0' := up_cell hu c0
      have c1' := up_cell hu c1
      have i0 : (0 : Int) ≤ (k : Int) := by omega
      have i1 : (k : Int) < (n : Int) := by omega
      have i3 : (k : Int).toNat = k := by omega
      have hwk : IntKind.i64.wrap ((k : Int) + 1) = (k : Int) + 1 := IntWalk.i64_in _ ⟨by omega, by omega⟩
      clear c0 c1
      go_upto_region 5 with fail
      refine at_wpC (fun W4 hW4 => ?_)
      have u4 : Up wr W4 := by rw [hW4]; exact (by repeat' (first | (with_reducible exact up_refl _) | (with_reducible assumption) | (with_reducible refine up_alloc ?_ _) | (with_reducible refine up_drewN ?_ _) | (with_reducible refine up_drew ?_) | (with_reducible refine up_set ?_ (by first | (simp; done) | (simp; omega) | omega) _) | (refine up_trans ?_ (by with_reducible assumption))))
      have b7 : Bx W4 wr.heap.size [.int .i64 p1, .int .i64 p2] := by rw [hW4]; exact bx_new wr _ _
      obtain ⟨g7, hg⟩ : ∃ g, wr.heap.size = g := ⟨_, rfl⟩
      rw [hg] at b7 ⊢
      have bA4 := bx_up bA u4
      have bR4 := bx_up bR u4
      have bW4 := bx_up bW u4
      have U4 := up_trans hu u4
      clear hW4 hg bA bR bW hu c0' c1' u4
      obtain ⟨y0, y1⟩ := bx2 b7
      obtain ⟨z0, z1⟩ := bx2 bA4
      go_upto_region 6 with (go_at_call 144; (with_reducible refine (unhide M1 _).mono ?_); rintro e w5 ⟨rfl, u5⟩)
      refine at_wpC (fun W5 hW5 => ?_)
      have u45 : Up W4 W5 := by rw [hW5]; exact (by repeat' (first | (with_reducible exact up_refl _) | (with_reducible assumption) | (with_reducible refine up_alloc ?_ _) | (with_reducible refine up_drewN ?_ _) | (with_reducible refine up_drew ?_) | (with_reducible refine up_set ?_ (by first | (simp; done) | (simp; omega) | omega) _) | (refine up_trans ?_ (by with_reducible assumption))))
      have b8 : Bx W5 w5.heap.size [.int .i64 ox, .int .i64 oy] := by rw [hW5]; exact bx_new w5 _ _
      have hg8 : w.heap.size + 3 ≤ w5.heap.size := by
        have q := bx_lt bW4 (by simp)
        have := u5.size
        omega
      obtain ⟨g8, hg⟩ : ∃ g, w5.heap.size = g := ⟨_, rfl⟩
      rw [hg] at b8 hg8 ⊢
      have bA5 := bx_up bA4 u45
      have bR5 := bx_up bR4 u45
      have bW5 := bx_up bW4 u45
      have U5 := up_trans U4 u45
      clear hW5 hg u5 bA4 bR4 bW4 U4 y0 y1 z0 z1 b7 u45
      obtain ⟨y0, y1⟩ := bx2 bW5
      obtain ⟨z0, z1⟩ := bx2 b8
      go_upto_region 7 with (go_at_call 145; (with_reducible refine (unhide M2 _).mono ?_); rintro e w6 ⟨rfl, u6⟩)
      have bA6 := bx_up bA5 u6
      have bR6 := bx_up bR5 u6
      have bW6 := bx_up bW5 u6
      have b86 := bx_up b8 u6
      have U6 := up_trans U5 u6
      clear y0 y1 z0 z1 bA5 bR5 bW5 b8 U5 u6
      go_cut [36] (fun s wx => s = .bool TT ∧ Up w6 wx)
      case first =>
        have n0 : ∀ r : UpW w6, r.v.cell? ⟨w.heap.size + 1 + 1, 0, none⟩ = some (.int .i64 x) := fun r => (bx_up bW6 r.up 0 _ rfl).1
        have n1 : ∀ r : UpW w6, r.v.cell? ⟨w.heap.size + 1 + 1, 1, none⟩ = some (.int .i64 y) := fun r => (bx_up bW6 r.up 1 _ rfl).1
        have n2 : ∀ r : UpW w6, r.v.cell? ⟨g8, 0, none⟩ = some (.int .i64 ox) := fun r => (bx_up b86 r.up 0 _ rfl).1
        have n3 : ∀ r : UpW w6, r.v.cell? ⟨g8, 1, none⟩ = some (.int .i64 oy) := fun r => (bx_up b86 r.up 1 _ rfl).1
        have ht := unhide HT1
        by_cases hT : T < 0
        · obtain rfl : TT = true := ht.2 (.inl hT)
          have d1 : decide (T < 0) = true := decide_eq_true hT
          clear ht
          refine wp_upq (by kernel_rfl) (by kernel_rfl) ?_; (repeat (go_big_quiet_step (fail))); refine wpQuiet_nil ?_; intro _ hw'; obtain ⟨pq, hw''⟩ := hw'; subst hw''; have hpq := pq.up
          go_wp2_with fail
          go_meet
          exact ⟨rfl, hpq⟩
        · have d1 : decide (T < 0) = false := decide_eq_false hT
          by_cases hT0 : T = 0
          · subst hT0
            by_cases hD : D2 < D1
            · obtain rfl : TT = true := ht.2 (.inr ⟨rfl, hD⟩)
              have d2 : decide (D2 < D1) = true := decide_eq_true hD
              clear ht
              refine wp_upq (by kernel_rfl) (by kernel_rfl) ?_; (repeat (go_big_quiet_step ((first | (go_at_call 131; with_reducible exact upq (unhide M3 _)) | (go_at_call 131; with_reducible exact upq (unhide M4 _)))))); refine wpQuiet_nil ?_; intro _ hw'; obtain ⟨pq, hw''⟩ := hw'; subst hw''; have hpq := pq.up
              go_wp2_with fail
              go_meet
              exact ⟨rfl, hpq⟩
            · obtain rfl : TT = false := by
                cases TT
                · rfl
                · rcases ht.1 rfl with q | ⟨_, q⟩
                  · exact absurd q hT
                  · exact absurd q hD
              have d2 : decide (D2 < D1) = false := decide_eq_false hD
              clear ht
              refine wp_upq (by kernel_rfl) (by kernel_rfl) ?_; (repeat (go_big_quiet_step ((first | (go_at_call 131; with_reducible exact upq (unhide M3 _)) | (go_at_call 131; with_reducible exact upq (unhide M4 _)))))); refine wpQuiet_nil ?_; intro _ hw'; obtain ⟨pq, hw''⟩ := hw'; subst hw''; have hpq := pq.up
              go_wp2_with fail
              go_meet
              exact ⟨rfl, hpq⟩
          · obtain rfl : TT = false := by
              cases TT
              · rfl
              · rcases ht.1 rfl with q | ⟨q, _⟩
                · exact absurd q hT
                · exact absurd q hT0
            have d2 : (T == 0) = false := by simp [hT0]
            clear ht
            refine wp_upq (by kernel_rfl) (by kernel_rfl) ?_; (repeat (go_big_quiet_step (fail))); refine wpQuiet_nil ?_; intro _ hw'; obtain ⟨pq, hw''⟩ := hw'; subst hw''; have hpq := pq.up
            go_wp2_with fail
            go_meet
            exact ⟨rfl, hpq⟩
      case rest =>
        obtain ⟨rfl, u7⟩ := hcut
        obtain ⟨W7, rfl⟩ : ∃ z : World, z = wc := ⟨_, rfl⟩
        have bA7 := bx_up bA6 u7
        have bR7 := bx_up bR6 u7
        have bW7 := bx_up bW6 u7
        have b87 := bx_up b86 u7
        have U7 := up_trans U6 u7
        clear bA6 bR6 bW6 b86 U6 u7 M1 M2 M3 M4
        cases TT
        · have e := unhide HT3 rfl
          have hr := unhide HRest
          have hs := unhide HSn
          rw [e] at hr hs
          have HR := hide hr
          have HS := hide hs
          clear e hr hs
          go_wp2_with fail
          go_roundw
          case rel => exact ⟨k + 1, x, y, by omega, by go_num, unhide HS, unhide HR, bA7, bR7, bW7, U7⟩
          case measure => simp [intOf]; omega
        · have e := unhide HT2 rfl
          have hr := unhide HRest
          have hs := unhide HSn
          rw [e] at hr hs
          have HR := hide hr
          have HS := hide hs
          clear e hr hs
          obtain ⟨y0, y1⟩ := bx2 b87
          obtain ⟨f0, f1⟩ := bxf2 bW7
          obtain ⟨g0, g1⟩ := bx2 bW7
          go_wp2_with fail
          have B9 := bx_set (bx_set bW7 0 (.int .i64 ox)) 1 (.int .i64 oy)
          have A9 := bx_far (bx_far bA7 (p := ⟨w.heap.size + 1 + 1, 0, none⟩) (by simp only; omega) (.int .i64 ox)) (p := ⟨w.heap.size + 1 + 1, 1, none⟩) (by simp only; omega) (.int .i64 oy)
          have R9 := bx_far (bx_far bR7 (p := ⟨w.heap.size + 1 + 1, 0, none⟩) (by simp only; omega) (.int .i64 ox)) (p := ⟨w.heap.size + 1 + 1, 1, none⟩) (by simp only; omega) (.int .i64 oy)
          have U9 := up_set (up_set U7 (p := ⟨w.heap.size + 1 + 1, 0, none⟩) (by simp only; omega) (.int .i64 ox)) (p := ⟨w.heap.size + 1 + 1, 1, none⟩) (by simp only; omega) (.int .i64 oy)
          go_roundw
          case rel => exact ⟨k + 1, ox, oy, by omega, by go_num, unhide HS, unhide HR, A9, R9, B9, U9⟩
          case measure => simp [intOf]; omega
    · obtain rfl : k = n := by omega
      rw [List.drop_eq_nil_of_le (by rw [unhide HNn]; exact Nat.le_refl _)] at hrest
      have hxe : x = v1 := congrArg Prod.fst (show (x, y) = (v1, v2) from hrest)
      have hye : y = v2 := congrArg Prod.snd (show (x, y) = (v1, v2) from hrest)
      subst hxe hye
      have han := unhide HA
      unfold Nr at han hxy
      dsimp only at han hxy
      have o1 : IntKind.i64.wrap (a1 + x) = a1 + x := i64_small (by omega)
      have o2 : IntKind.i64.wrap (a2 + y) = a2 + y := i64_small (by omega)
      have M1 := hide (fun W => unhide HU a1 a2 x y W o1 o2)
      clear o1 o2 han hxy hrest
      obtain ⟨y0, y1⟩ := bx2 bW
      obtain ⟨z0, z1⟩ := bx2 bA
      obtain ⟨r1, hr1⟩ : ∃ r, a1 + x = r := ⟨_, rfl⟩
      obtain ⟨r2, hr2⟩ : ∃ r, a2 + y = r := ⟨_, rfl⟩
      rw [hr1, hr2] at M1
      have HR1 := hide hr1
      have HR2 := hide hr2
      clear hr1 hr2
      have i1 : ¬ (k : Int) < (k : Int) := by omega
      go_wp2_with (go_at_call 123; (with_reducible refine (unhide M1 _).mono ?_); rintro e w8 ⟨rfl, u8⟩; have bR8 := bx_up bR u8; obtain ⟨h0, h1⟩ := bx2 bR8; obtain ⟨k0, k1⟩ := bxf2 bR8)
      have B9 := bx_set (bx_set bR8 0 (.int .i64 r1)) 1 (.int .i64 r2)
      have U9 := up_set (up_set (up_trans hu u8) (p := ⟨w.heap.size + 1, 0, none⟩) (by simp only; omega) (.int .i64 r1)) (p := ⟨w.heap.size + 1, 1, none⟩) (by simp only; omega) (.int .i64 r2)
      generalize (w8.setCell ⟨w.heap.size + 1, 0, none⟩ (.int .i64 r1)).setCell ⟨w.heap.size + 1, 1, none⟩ (.int .i64 r2) = W9 at B9 U9 ⊢
      have s0 := (B9 0 _ rfl).1
      have s1 := (B9 1 _ rfl).1
      refine bodyPost_ret (v := pt r1 r2) (by simp [results, Tryz.f151, go_sem, s0, s1]) rfl ?_
      exact ⟨by rw [unhide HR1, unhide HR2], U9⟩
end Go.Proofs.YtdehnokcjnbjoaaGreat
