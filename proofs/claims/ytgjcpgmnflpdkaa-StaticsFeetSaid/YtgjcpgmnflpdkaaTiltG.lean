/- How far a platform can be tilted, for all words. -/
import Derived.Test.YtgjcpgmnflpdkaaFeetB
import Derived.Test.YtgjcpgmnflpdkaaUpQ
namespace Go.Proofs.Ytgjcpgmnflpdkaa
open Go.RowKit Go.Proofs.Gn
/-- Step k is one too far. -/
def tlS (ps : List Gs.Sup) (h0 h1 h2 x y : Int) (k : Nat) : Bool := !(slB (k * x) (k * y) 1000) || decide (0 ≤ lf ps (ft h0 h2 (k * x) 0) (ft h1 h2 (k * y) 0))
/-- K is the first one that is too far. -/
def Fst (s : Nat → Bool) (K : Nat) : Prop := K ≤ 1001 ∧ (∀ j, j < K → s j = false) ∧ (K < 1001 → s K = true)
theorem fst_ex (s : Nat → Bool) : ∃ K, Fst s K := by
  have h : ∀ n, n ≤ 1001 → (∃ K, Fst s K) ∨ ∀ j, j < n → s j = false := by
    intro n
    induction n with
    | zero => exact fun _ => .inr (fun j hj => absurd hj (by omega))
    | succ n ih =>
      intro hn
      rcases ih (by omega) with h | h
      · exact .inl h
      · cases hs : s n
        · refine .inr (fun j hj => ?_)
          by_cases e : j = n
          · subst e; exact hs
          · exact h j (by omega)
        · exact .inl ⟨n, by omega, h, fun _ => hs⟩
  rcases h 1001 (by omega) with h | h
  · exact h
  · exact ⟨1001, by omega, h, fun hx => absurd hx (by omega)⟩
theorem fst_stop {s : Nat → Bool} {K k : Nat} (h : Fst s K) (hk : k ≤ K) (hl : k < 1001) (hs : s k = true) : k = K := by
  by_cases e : k < K
  · rw [h.2.1 k e] at hs; cases hs
  · omega
theorem fst_go {s : Nat → Bool} {K k : Nat} (h : Fst s K) (hk : k ≤ K) (hl : k < 1001) (hs : s k = false) : k < K := by
  by_cases e : k < K
  · exact e
  · obtain rfl : k = K := by omega
    rw [h.2.2 hl] at hs; cases hs
theorem tl_at {ps : List Gs.Sup} {h0 h1 h2 x y : Int} (hc : chE ps = 0) (hh : ceB h0 h1 h2 = true) (hs : slB x y 1000 = true) : lnB h0 h1 h2 x y 0 0 = true ∧ atE ps (ft h0 h2 x 0) (ft h1 h2 y 0) = 0 := by
  refine ⟨by unfold lnB; rw [hh, hs]; rfl, ?_⟩
  unfold ceB at hh
  unfold slB at hs
  simp only [Bool.and_eq_true, win_iff] at hh hs
  have p := Gs.mb (u := h2) (v := x + 0) (U := 131072) (V := 1000) (by omega) (by omega) (by omega) (by omega)
  have p2 := Gs.mb (u := h2) (v := y + 0) (U := 131072) (V := 1000) (by omega) (by omega) (by omega) (by omega)
  have q := ne_th (n := h2 * (x + 0)) (m := 131072) (by omega) (by omega)
  have q2 := ne_th (n := h2 * (y + 0)) (m := 131072) (by omega) (by omega)
  unfold atE
  rw [if_pos hc]
  unfold ptE ptB ft
  rw [if_pos (by rw [Bool.and_eq_true, win_iff, win_iff]; omega)]
set_option maxRecDepth 100000 in
set_option maxHeartbeats 40000000 in
theorem p_tiltG (ps : List Gs.Sup) (h0 h1 h2 x y : Int) (hc : chE ps = 0) (hh : ceB h0 h1 h2 = true) (hx : -10 ≤ x ∧ x ≤ 10) (hy : -10 ≤ y ∧ y ≤ 10) (K : Nat) (hK : Fst (tlS ps h0 h1 h2 x y) K) (w : World) :
    Calls Try.prog 72 #[n9 ps, .agg #[.int .i64 h0, .int .i64 h1, .int .i64 h2], pt x y] w fun e w' => e = .returned (.int .i64 ((K : Int) - 1)) ∧ Up w w' := by
  have HF := hide (fun (kx ky : Int) (hs : slB kx ky 1000 = true) (W : World) => p_foot (tl_at hc hh hs).1 W)
  have HP := hide (fun (kx ky : Int) (hs : slB kx ky 1000 = true) (W : World) => p_parts9 (tl_at hc hh hs).2 W)
  have HL := hide (fun (X Y : Int) (W : World) => p_lifted (pa0 ps X Y) (pa1 ps X Y) (pa2 ps X Y) W)
  have HI0 : ∀ (kx ky : Int) (W : World), Calls Try.prog 67 #[pt kx ky, .int .i64 1000] W fun e w' => e = .returned (.bool (slB kx ky 1000)) ∧ Up W w' := fun kx ky W => p_upTo kx ky 1000 (by omega) W
  have HI := hide HI0
  clear HI0
  have HK := hide hK
  have hK1 := hK.1
  clear hK hh
  obtain ⟨hx1, hx2⟩ := hx
  obtain ⟨hy1, hy2⟩ := hy
  unfold n9 m9 at *
  generalize Gs.cN 0 ps = a0 at *
  generalize Gs.cX 0 ps = a1 at *
  generalize Gs.cY 0 ps = a2 at *
  generalize Gs.cN 1 ps = b0 at *
  generalize Gs.cX 1 ps = b1 at *
  generalize Gs.cY 1 ps = b2 at *
  generalize Gs.cN 2 ps = c0 at *
  generalize Gs.cX 2 ps = c1 at *
  generalize Gs.cY 2 ps = c2 at *
  generalize paD ps = D at *
  go_enter Try.func72, Try.ntmps72
  go_wp2_with fail
  refine at_wp (fun W0 hW0 => ?_)
  have three := bx_three w [.int .i64 a0, .int .i64 a1, .int .i64 a2, .int .i64 b0, .int .i64 b1, .int .i64 b2, .int .i64 c0, .int .i64 c1, .int .i64 c2] [.int .i64 h0, .int .i64 h1, .int .i64 h2] [.int .i64 x, .int .i64 y] 31 30 46
  have R0 : Bx W0 w.heap.size [.int .i64 a0, .int .i64 a1, .int .i64 a2, .int .i64 b0, .int .i64 b1, .int .i64 b2, .int .i64 c0, .int .i64 c1, .int .i64 c2] := by rw [hW0]; exact three.1
  have C0 : Bx W0 (w.heap.size + 1) [.int .i64 h0, .int .i64 h1, .int .i64 h2] := by rw [hW0]; exact three.2.1
  have S0 : Bx W0 (w.heap.size + 1 + 1) [.int .i64 x, .int .i64 y] := by rw [hW0]; exact three.2.2
  have U0 : Up w W0 := by rw [hW0]; exact (by repeat' (first | (with_reducible exact up_refl _) | (with_reducible assumption) | (with_reducible refine up_alloc ?_ _) | (with_reducible refine up_drewN ?_ _) | (with_reducible refine up_drew ?_) | (with_reducible refine up_set ?_ (by first | (simp; done) | (simp; omega) | omega) _) | (refine up_trans ?_ (by with_reducible assumption))))
  clear hW0 three
  go_loopw [7, 12] (fun s7 s12 wr => ∃ k : Nat, k ≤ K ∧ s12 = .int .i64 k ∧ s7 = .int .i64 ((k : Int) - 1) ∧ Up W0 wr) (fun _ s12 _ => 1001 - (intOf s12).toNat)
  case atStart => exact ⟨0, by omega, rfl, rfl, up_refl _⟩
  case round =>
    obtain ⟨k, hk, rfl, rfl, hu⟩ := hrel
    by_cases hlt : k < 1001
    · have p1 := Gs.mb (u := (k : Int)) (v := x) (U := 1000) (V := 10) (by omega) (by omega) (by omega) (by omega)
      have p2 := Gs.mb (u := (k : Int)) (v := y) (U := 1000) (V := 10) (by omega) (by omega) (by omega) (by omega)
      have e0 : IntKind.i64.wrap (k : Int) = (k : Int) := IntWalk.i64_in _ ⟨by omega, by omega⟩
      have e1 : IntKind.i64.wrap ((k : Int) * x) = (k : Int) * x := IntWalk.i64_in _ ⟨by omega, by omega⟩
      have e2 : IntKind.i64.wrap ((k : Int) * y) = (k : Int) * y := IntWalk.i64_in _ ⟨by omega, by omega⟩
      have hS2 : tlS ps h0 h1 h2 x y k = (!(slB ((k : Int) * x) ((k : Int) * y) 1000) || decide (0 ≤ lif (pa0 ps (ft h0 h2 ((k : Int) * x) 0) (ft h1 h2 ((k : Int) * y) 0)) (pa1 ps (ft h0 h2 ((k : Int) * x) 0) (ft h1 h2 ((k : Int) * y) 0)) (pa2 ps (ft h0 h2 ((k : Int) * x) 0) (ft h1 h2 ((k : Int) * y) 0)))) := rfl
      clear p1 p2
      obtain ⟨kx, hkx⟩ : ∃ n, (k : Int) * x = n := ⟨_, rfl⟩
      obtain ⟨ky, hky⟩ : ∃ n, (k : Int) * y = n := ⟨_, rfl⟩
      rw [hkx, hky] at hS2
      have e3 : IntKind.i64.wrap ((k : Int) * x) = kx := by rw [e1]; exact hkx
      have e4 : IntKind.i64.wrap ((k : Int) * y) = ky := by rw [e2]; exact hky
      clear e1 e2 hkx hky
      have hI2 := hide (unhide HI kx ky)
      obtain ⟨x0, x1⟩ := bx2 (bx_up S0 hu)
      cases hs : slB kx ky 1000
      · rw [hs] at hI2
        have hst : tlS ps h0 h1 h2 x y k = true := by rw [hS2, hs]; rfl
        obtain rfl := fst_stop (unhide HK) hk hlt hst
        clear hS2 hst hs HF HP HL HI HK
        go_wp2_with (go_at_call 67; (with_reducible refine (unhide hI2 _).mono ?_); rintro e w1 ⟨rfl, hb1⟩)
        go_ret
        exact ⟨rfl, (by repeat' (first | (with_reducible exact up_refl _) | (with_reducible assumption) | (with_reducible refine up_alloc ?_ _) | (with_reducible refine up_drewN ?_ _) | (with_reducible refine up_drew ?_) | (with_reducible refine up_set ?_ (by first | (simp; done) | (simp; omega) | omega) _) | (refine up_trans ?_ (by with_reducible assumption))))⟩
      rw [hs] at hI2
      have hF2 := hide (fun W => unhide HF kx ky hs W)
      have hP2 := hide (fun W => unhide HP kx ky hs W)
      have hL2 := hide (unhide HL (ft h0 h2 kx 0) (ft h1 h2 ky 0))
      have hst : ∀ L : Int, lif (pa0 ps (ft h0 h2 kx 0) (ft h1 h2 ky 0)) (pa1 ps (ft h0 h2 kx 0) (ft h1 h2 ky 0)) (pa2 ps (ft h0 h2 kx 0) (ft h1 h2 ky 0)) = L → (0 ≤ L → k = K) ∧ (¬ 0 ≤ L → k < K) := by
        intro L hL
        rw [hs, hL] at hS2
        refine ⟨fun h => fst_stop (unhide HK) hk hlt (by rw [hS2]; simp [h]), fun h => fst_go (unhide HK) hk hlt (by rw [hS2]; simp; omega)⟩
      clear HF HP HL HI HK hS2 hs
      generalize pa0 ps (ft h0 h2 kx 0) (ft h1 h2 ky 0) = p0 at *
      generalize pa1 ps (ft h0 h2 kx 0) (ft h1 h2 ky 0) = p1 at *
      generalize pa2 ps (ft h0 h2 kx 0) (ft h1 h2 ky 0) = p2 at *
      generalize ft h0 h2 kx 0 = xx at *
      generalize ft h1 h2 ky 0 = yy at *
      obtain ⟨L, hL⟩ : ∃ L, lif p0 p1 p2 = L := ⟨_, rfl⟩
      obtain ⟨st1, st2⟩ := hst L hL
      rw [hL] at hL2
      clear hst hL
      have ST1 := hide st1
      have ST2 := hide st2
      clear st1 st2
      go_upto_region 7 with (go_at_call 67; (with_reducible refine (unhide hI2 _).mono ?_); rintro e w1 ⟨rfl, hb1⟩)
      have u1 : Up wr w1 := (by repeat' (first | (with_reducible exact up_refl _) | (with_reducible assumption) | (with_reducible refine up_alloc ?_ _) | (with_reducible refine up_drewN ?_ _) | (with_reducible refine up_drew ?_) | (with_reducible refine up_set ?_ (by first | (simp; done) | (simp; omega) | omega) _) | (refine up_trans ?_ (by with_reducible assumption))))
      have S1 : Bx w1 wr.heap.size [.int .i64 kx, .int .i64 ky] := bx_up (bx_new wr _ 46) hb1
      have R1 := bx_up R0 (up_trans hu u1)
      have C1 := bx_up C0 (up_trans hu u1)
      have ux := up_trans hu u1
      clear x0 x1 hb1 u1 hu hI2 e0 e3 e4
      have hmk : ∀ wx' : World, Up w1 wx' → wx'.cell? ⟨w.heap.size, 0, none⟩ = some (.int .i64 a0) ∧ wx'.cell? ⟨w.heap.size, 1, none⟩ = some (.int .i64 a1) ∧ wx'.cell? ⟨w.heap.size, 2, none⟩ = some (.int .i64 a2) ∧ wx'.cell? ⟨w.heap.size, 3, none⟩ = some (.int .i64 b0) ∧ wx'.cell? ⟨w.heap.size, 4, none⟩ = some (.int .i64 b1) ∧ wx'.cell? ⟨w.heap.size, 5, none⟩ = some (.int .i64 b2) ∧ wx'.cell? ⟨w.heap.size, 6, none⟩ = some (.int .i64 c0) ∧ wx'.cell? ⟨w.heap.size, 7, none⟩ = some (.int .i64 c1) ∧ wx'.cell? ⟨w.heap.size, 8, none⟩ = some (.int .i64 c2) ∧ wx'.cell? ⟨w.heap.size + 1, 0, none⟩ = some (.int .i64 h0) ∧ wx'.cell? ⟨w.heap.size + 1, 1, none⟩ = some (.int .i64 h1) ∧ wx'.cell? ⟨w.heap.size + 1, 2, none⟩ = some (.int .i64 h2) ∧ wx'.cell? ⟨wr.heap.size, 0, none⟩ = some (.int .i64 kx) ∧ wx'.cell? ⟨wr.heap.size, 1, none⟩ = some (.int .i64 ky) ∧ Up w1 wx' := fun wx' hq => by
        obtain ⟨z0, z1, z2, z3, z4, z5, z6, z7, z8⟩ := bx9 (bx_up R1 hq)
        obtain ⟨z9, z10, z11⟩ := bx3 (bx_up C1 hq)
        obtain ⟨z12, z13⟩ := bx2 (bx_up S1 hq)
        exact ⟨z0, z1, z2, z3, z4, z5, z6, z7, z8, z9, z10, z11, z12, z13, hq⟩
      have hF3 : ∀ W : World, Up w1 W → Calls Try.prog 63 #[.agg #[.int .i64 h0, .int .i64 h1, .int .i64 h2], pt kx ky, pt 0 0] W fun e w' => e = .returned (pt xx yy) ∧ Up W w' ∧ Up w1 w' := fun W hW => (unhide hF2 W).mono fun e w' ⟨a, b⟩ => ⟨a, b, up_trans hW b⟩
      have hP3 : ∀ W : World, Up w1 W → Calls Try.prog 49 #[.agg #[.int .i64 a0, .int .i64 a1, .int .i64 a2, .int .i64 b0, .int .i64 b1, .int .i64 b2, .int .i64 c0, .int .i64 c1, .int .i64 c2], pt xx yy] W fun e w' => e = .returned (.tuple #[.agg #[.int .i64 p0, .int .i64 p1, .int .i64 p2], .int .i64 D]) ∧ Up W w' ∧ Up w1 w' := fun W hW => (unhide hP2 W).mono fun e w' ⟨a, b⟩ => ⟨a, b, up_trans hW b⟩
      have hF4 := hide hF3
      have hP4 := hide hP3
      have HM := hide hmk
      clear hF2 hP2 hF3 hP3 hmk
      go_cut [10, 11] (fun sa sb wx' => ∃ g : Nat, sa = .pointer (some ⟨g, 0, none⟩) ∧ sb = .int .i64 D ∧ Bx wx' g [.int .i64 p0, .int .i64 p1, .int .i64 p2] ∧ Up w1 wx')
      case first =>
        have t1 := Nat.le_refl w1.heap.size
        clear ST1 ST2 hL2 R0 C0 S0 U0 S1 R1 C1 ux
        go_region_held3 (fun wx' => wx'.cell? ⟨w.heap.size, 0, none⟩ = some (.int .i64 a0) ∧ wx'.cell? ⟨w.heap.size, 1, none⟩ = some (.int .i64 a1) ∧ wx'.cell? ⟨w.heap.size, 2, none⟩ = some (.int .i64 a2) ∧ wx'.cell? ⟨w.heap.size, 3, none⟩ = some (.int .i64 b0) ∧ wx'.cell? ⟨w.heap.size, 4, none⟩ = some (.int .i64 b1) ∧ wx'.cell? ⟨w.heap.size, 5, none⟩ = some (.int .i64 b2) ∧ wx'.cell? ⟨w.heap.size, 6, none⟩ = some (.int .i64 c0) ∧ wx'.cell? ⟨w.heap.size, 7, none⟩ = some (.int .i64 c1) ∧ wx'.cell? ⟨w.heap.size, 8, none⟩ = some (.int .i64 c2) ∧ wx'.cell? ⟨w.heap.size + 1, 0, none⟩ = some (.int .i64 h0) ∧ wx'.cell? ⟨w.heap.size + 1, 1, none⟩ = some (.int .i64 h1) ∧ wx'.cell? ⟨w.heap.size + 1, 2, none⟩ = some (.int .i64 h2) ∧ wx'.cell? ⟨wr.heap.size, 0, none⟩ = some (.int .i64 kx) ∧ wx'.cell? ⟨wr.heap.size, 1, none⟩ = some (.int .i64 ky) ∧ Up w1 wx') ((go_split_ands; exact unhide HM _ (by repeat' (first | (with_reducible exact up_refl _) | (with_reducible assumption) | (with_reducible refine up_alloc ?_ _) | (with_reducible refine up_drewN ?_ _) | (with_reducible refine up_drew ?_) | (with_reducible refine up_set ?_ (by first | (simp; done) | (simp; omega) | omega) _) | (refine up_trans ?_ (by with_reducible assumption))))))
          (first
            | (go_at_call 63; (with_reducible refine (unhide hF4 _ (by go_split_ands; exact (by repeat' (first | (with_reducible exact up_refl _) | (with_reducible assumption) | (with_reducible refine up_alloc ?_ _) | (with_reducible refine up_drewN ?_ _) | (with_reducible refine up_drew ?_) | (with_reducible refine up_set ?_ (by first | (simp; done) | (simp; omega) | omega) _) | (refine up_trans ?_ (by with_reducible assumption)))))).mono ?_); rintro e w2 ⟨rfl, hb2, hv2⟩; have t2 := up_size hv2; have zb := bx_up (bx_new _ [.int .i64 0, .int .i64 0, .int .i64 0] 30) hb2)
            | (go_at_call 63; (with_reducible refine (unhide hF4 _ (by go_split_ands; exact (by repeat' (first | (with_reducible exact up_refl _) | (with_reducible assumption) | (with_reducible refine up_alloc ?_ _) | (with_reducible refine up_drewN ?_ _) | (with_reducible refine up_drew ?_) | (with_reducible refine up_set ?_ (by first | (simp; done) | (simp; omega) | omega) _) | (refine up_trans ?_ (by with_reducible assumption)))))).mono ?_); rintro e w2 ⟨rfl, hb2, hv2⟩; have t2 := up_size hv2; have zb := bx_up (bx_drew (bx_new _ [.int .i64 0, .int .i64 0, .int .i64 0] 30)) hb2)
            | (go_at_call 63; (with_reducible refine (unhide hF4 _ (by go_split_ands; exact (by repeat' (first | (with_reducible exact up_refl _) | (with_reducible assumption) | (with_reducible refine up_alloc ?_ _) | (with_reducible refine up_drewN ?_ _) | (with_reducible refine up_drew ?_) | (with_reducible refine up_set ?_ (by first | (simp; done) | (simp; omega) | omega) _) | (refine up_trans ?_ (by with_reducible assumption)))))).mono ?_); rintro e w2 ⟨rfl, hb2, hv2⟩; have t2 := up_size hv2)
            | (go_at_call 49; (with_reducible refine (unhide hP4 _ (by go_split_ands; exact (by repeat' (first | (with_reducible exact up_refl _) | (with_reducible assumption) | (with_reducible refine up_alloc ?_ _) | (with_reducible refine up_drewN ?_ _) | (with_reducible refine up_drew ?_) | (with_reducible refine up_set ?_ (by first | (simp; done) | (simp; omega) | omega) _) | (refine up_trans ?_ (by with_reducible assumption)))))).mono ?_); rintro e w3 ⟨rfl, hb3, hv3⟩; have t3 := up_size hv3; have zb2 := bx_up zb hb3; obtain ⟨z3, z4, z5⟩ := bx3 zb2; obtain ⟨f3, f4, f5⟩ := bxf3 zb2)
            | (go_at_call 49; (with_reducible refine (unhide hP4 _ (by go_split_ands; exact (by repeat' (first | (with_reducible exact up_refl _) | (with_reducible assumption) | (with_reducible refine up_alloc ?_ _) | (with_reducible refine up_drewN ?_ _) | (with_reducible refine up_drew ?_) | (with_reducible refine up_set ?_ (by first | (simp; done) | (simp; omega) | omega) _) | (refine up_trans ?_ (by with_reducible assumption)))))).mono ?_); rintro e w3 ⟨rfl, hb3, hv3⟩; have t3 := up_size hv3; have zb2 := bx_up (bx_new _ [.int .i64 0, .int .i64 0, .int .i64 0] 30) hb3; obtain ⟨z3, z4, z5⟩ := bx3 zb2; obtain ⟨f3, f4, f5⟩ := bxf3 zb2)
            | (go_at_call 49; (with_reducible refine (unhide hP4 _ (by go_split_ands; exact (by repeat' (first | (with_reducible exact up_refl _) | (with_reducible assumption) | (with_reducible refine up_alloc ?_ _) | (with_reducible refine up_drewN ?_ _) | (with_reducible refine up_drew ?_) | (with_reducible refine up_set ?_ (by first | (simp; done) | (simp; omega) | omega) _) | (refine up_trans ?_ (by with_reducible assumption)))))).mono ?_); rintro e w3 ⟨rfl, hb3, hv3⟩; have t3 := up_size hv3; have zb2 := bx_up (bx_drew (bx_new _ [.int .i64 0, .int .i64 0, .int .i64 0] 30)) hb3; obtain ⟨z3, z4, z5⟩ := bx3 zb2; obtain ⟨f3, f4, f5⟩ := bxf3 zb2)
            | (go_at_call 49; (with_reducible refine (unhide hP4 _ (by go_split_ands; exact (by repeat' (first | (with_reducible exact up_refl _) | (with_reducible assumption) | (with_reducible refine up_alloc ?_ _) | (with_reducible refine up_drewN ?_ _) | (with_reducible refine up_drew ?_) | (with_reducible refine up_set ?_ (by first | (simp; done) | (simp; omega) | omega) _) | (refine up_trans ?_ (by with_reducible assumption)))))).mono ?_); rintro e w3 ⟨rfl, hb3, hv3⟩; have t3 := up_size hv3))
        all_goals
          have u2 : Up w1 w2 := hv2
          have u3 : Up w1 w3 := hv3
          go_wp2_with fail
          go_meet
          first
            | (refine ⟨w3.heap.size, by with_reducible rfl, rfl, ?_, (by repeat' (first | (with_reducible exact up_refl _) | (with_reducible assumption) | (with_reducible refine up_alloc ?_ _) | (with_reducible refine up_drewN ?_ _) | (with_reducible refine up_drew ?_) | (with_reducible refine up_set ?_ (by first | (simp; done) | (simp; omega) | omega) _) | (refine up_trans ?_ (by with_reducible assumption))))⟩; exact bx_new w3 _ 30)
            | (refine ⟨w1.heap.size, by with_reducible rfl, rfl, ?_, (have t2 := Nat.le_refl w1.heap.size; (by repeat' (first | (with_reducible exact up_refl _) | (with_reducible assumption) | (with_reducible refine up_alloc ?_ _) | (with_reducible refine up_drewN ?_ _) | (with_reducible refine up_drew ?_) | (with_reducible refine up_set ?_ (by first | (simp; done) | (simp; omega) | omega) _) | (refine up_trans ?_ (by with_reducible assumption)))))⟩; exact bx_set3 zb2)
            | (refine ⟨w2.heap.size, by with_reducible rfl, rfl, ?_, (have t2 := up_size u2; (by repeat' (first | (with_reducible exact up_refl _) | (with_reducible assumption) | (with_reducible refine up_alloc ?_ _) | (with_reducible refine up_drewN ?_ _) | (with_reducible refine up_drew ?_) | (with_reducible refine up_set ?_ (by first | (simp; done) | (simp; omega) | omega) _) | (refine up_trans ?_ (by with_reducible assumption)))))⟩; exact bx_set3 zb2)
      case rest =>
        obtain ⟨g, rfl, rfl, hB, hu2⟩ := hcut
        have hu3 := up_trans ux hu2
        obtain ⟨o0, o1, o2⟩ := bx3 hB
        clear hF4 hP4 HM S1 R1 C1
        by_cases cL : 0 ≤ L
        · obtain rfl := unhide ST1 cL
          go_wp2_with (go_at_call 50; (with_reducible refine (unhide hL2 _).mono ?_); rintro e w4 ⟨rfl, hb4⟩)
          go_ret
          exact ⟨rfl, (by repeat' (first | (with_reducible exact up_refl _) | (with_reducible assumption) | (with_reducible refine up_alloc ?_ _) | (with_reducible refine up_drewN ?_ _) | (with_reducible refine up_drew ?_) | (with_reducible refine up_set ?_ (by first | (simp; done) | (simp; omega) | omega) _) | (refine up_trans ?_ (by with_reducible assumption))))⟩
        · have hkK := unhide ST2 (by omega)
          go_wp2_with (go_at_call 50; (with_reducible refine (unhide hL2 _).mono ?_); rintro e w4 ⟨rfl, hb4⟩)
          go_roundw
          case rel => exact ⟨k + 1, by omega, by go_num, by go_num, up_trans hu3 hb4⟩
          case measure => simp [intOf]; omega
    · obtain rfl : k = 1001 := by omega
      have hKe : K = 1001 := by omega
      subst hKe
      go_wp2_with fail
      go_ret
      exact ⟨ret_int (by omega), (by repeat' (first | (with_reducible exact up_refl _) | (with_reducible assumption) | (with_reducible refine up_alloc ?_ _) | (with_reducible refine up_drewN ?_ _) | (with_reducible refine up_drew ?_) | (with_reducible refine up_set ?_ (by first | (simp; done) | (simp; omega) | omega) _) | (refine up_trans ?_ (by with_reducible assumption))))⟩
end Go.Proofs.Ytgjcpgmnflpdkaa
