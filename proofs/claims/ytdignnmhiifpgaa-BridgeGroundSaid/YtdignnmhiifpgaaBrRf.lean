/- The document's own damage of a pavement, and what is left. -/
import Derived.Test.YtdignnmhiifpgaaBrRe
import Derived.Test.YtdignnmhiifpgaaBrRt
import Derived.Test.YtdignnmhiifpgaaBrPL
import Derived.Test.YtdignnmhiifpgaaBrMm
import Derived.Test.YtdignnmhiifpgaaBrAd
namespace Go.Proofs.Ytdignnmhiifpgaa
open Go.RowKit Go.Proofs.Gn
set_option linter.unusedVariables false
theorem lq_find {S lf n q : Int} (hS : 1 ≤ S) (hl : 1 ≤ lf) (hn : 0 ≤ n ∧ n ≤ 1000000) (h0 : 0 ≤ q) (h1 : q ≤ 1048576) (h2 : n + up6 (S * 1000 * q) lf ≤ 1000000) (h3 : ∀ r, q < r → r ≤ 1048576 → 1000000 < n + up6 (S * 1000 * r) lf) : q = lqF S lf n := by
  obtain ⟨a, b, c⟩ := lq_ok hS hl hn
  generalize lqF S lf n = z at *
  rcases Int.lt_trichotomy q z with h | h | h
  · have := h3 z h a.2; omega
  · exact h
  · rcases c with c | ⟨c1, c2⟩
    · omega
    · have : up6 (S * 1000 * (z + 1)) lf ≤ up6 (S * 1000 * q) lf := up6_le (Int.mul_le_mul_of_nonneg_left (by omega) (by omega)) hl
      omega
set_option maxRecDepth 100000 in
set_option maxHeartbeats 8000000 in
theorem r_Damage6 (p : Pav) (A : Option Addr) (ts : List (Int × Int)) (cap : Nat) (n : Int) (w : World) (hF : Frs w A ts) (hnt : ts.length ≤ 9223372036854775807) :
    Calls Try.prog 15 #[pvV p, .slice A ts.length cap, .int .i64 n] w fun e w' => e = .returned (.tuple #[.int .i64 (daV p ts n), .int .i64 (daE p ts n)]) ∧ Up w w' := by
  have H1 := hide (fun W => r_CheckPav p W)
  have H2 := hide (fun W (hU : Up w W) => r_CheckTrain6 A ts cap W (frs_up hF hU) hnt)
  have H4 := hide (fun W => r_w6 n 0 1048576 W)
  have H5 := hide (fun (hE : daE0 p ts = 0) W (hU : Up w W) => r_wear6 p A ts cap W (pvE_ok (orF_2 hE).1).1 (pvE_ok (orF_2 hE).1).2.2 (frs_up hF hU) (trOk_of (orF_2 hE).2).1)
  have H6 := hide (fun (hE : daE0 p ts = 0) => (⟨(pvE_ok (orF_2 hE).1).2.1, by have t := wsF_bd (p := p) (pvE_ok (orF_2 hE).1).1.1 (trOk_of (orF_2 hE).2).1 ts.length (Nat.le_refl _); rw [List.take_length] at t; exact t.1⟩ : (1 ≤ p.lf ∧ p.lf ≤ 1048576) ∧ 0 ≤ wsF p ts))
  have HD := hide (fun (q : Int) (W : World) (h1 : 1 ≤ p.lf ∧ p.lf ≤ 1048576) (h2 : 0 ≤ wsF p ts ∧ wsF p ts ≤ 1073741824) (h3 : 0 ≤ q ∧ q ≤ 1048576) => r_damage6 p (wsF p ts) q W h1 h2 h3)
  have HN := fun (h : win6 n 0 1048576 = true) => win6_yes h
  have h02 : pvE p = 0 ∨ pvE p = 2 := by unfold pvE; split <;> simp
  have hee : (pvE p ≠ 0 → daE0 p ts = pvE p) ∧ (pvE p = 0 → daE0 p ts = ctE ts) := ⟨fun h => by unfold daE0 orF; rw [if_neg h], fun h => by unfold daE0; rw [orF_0 h, orF_one]⟩
  have g3 : daE0 p ts = 0 → win6 n 0 1048576 = false → daV p ts n = 0 ∧ daE p ts n = 3 := fun a b => by
    have t : daE p ts n = 3 := by unfold daE; rw [if_pos a, b]; rfl
    exact ⟨by unfold daV; rw [t]; rfl, t⟩
  have g4 : daE0 p ts = 0 → win6 n 0 1048576 = true → wsF p ts ≤ 1073741824 → daV p ts n = up6 (wsF p ts * 1000 * n) p.lf ∧ daE p ts n = 0 := fun a b c => by
    have t : daE p ts n = 0 := by unfold daE; rw [if_pos a, if_pos b, if_pos c]
    exact ⟨by unfold daV; rw [if_pos t], t⟩
  have g5 : daE0 p ts = 0 → win6 n 0 1048576 = true → ¬ wsF p ts ≤ 1073741824 → daV p ts n = 0 ∧ daE p ts n = 4 := fun a b c => by
    have t : daE p ts n = 4 := by unfold daE; rw [if_pos a, if_pos b, if_neg c]
    exact ⟨by unfold daV; rw [t]; rfl, t⟩
  have g6 : daE0 p ts ≠ 0 → daV p ts n = 0 ∧ daE p ts n = daE0 p ts := fun a => by
    have t : daE p ts n = daE0 p ts := by unfold daE; rw [if_neg a]
    exact ⟨by unfold daV; rw [t, if_neg a], t⟩
  generalize daV p ts n = V at *
  generalize daE p ts n = X at *
  generalize daE0 p ts = E at *
  generalize wsF p ts = S at *
  generalize pvE p = E1 at *
  generalize ctE ts = E2 at *
  generalize win6 n 0 1048576 = r at *
  unfold pvV at *
  obtain ⟨ld, lf, pw⟩ := p
  dsimp only at *
  clear hF
  generalize ts.length = m at *
  by_cases hE1 : E1 = 0
  · by_cases hE2 : E2 = 0
    · have hE : E = 0 := (hee.2 hE1).trans hE2
      have H5' := hide (unhide H5 hE)
      obtain ⟨⟨b1, b2⟩, b3⟩ := unhide H6 hE
      subst hE hE1 hE2
      cases hr : r
      · rw [hr] at H4
        obtain ⟨rfl, rfl⟩ := g3 rfl hr
        clear g3 g4 g5 g6
        go_enter Try.func15, Try.ntmps15
        go_upto_region 1 with fail
        refine at_wpB (fun W hW => ?_)
        have hB : Bx W w.heap.size [.int .i64 ld, .int .i64 lf, .int .i64 pw] := by rw [hW]; exact bx_new w _ _
        have U : Up w W := by rw [hW]; exact (by repeat' (first | (with_reducible exact up_refl _) | (with_reducible assumption) | (with_reducible refine up_alloc ?_ _) | (with_reducible refine up_drewN ?_ _) | (with_reducible refine up_drew ?_) | (with_reducible refine up_set ?_ (by first | (simp; done) | (simp; omega) | omega) _) | (refine up_trans ?_ (by with_reducible assumption))))
        obtain ⟨c0, c1, c2⟩ := bx3 hB
        clear hW
        go_wp2_with (first | (go_at_call 19; (with_reducible refine (unhide H1 _).mono ?_); rintro e w1 ⟨rfl, hu1⟩; have s1 := bx_up hB hu1; obtain ⟨d0, d1, d2⟩ := bx3 s1; have U1 := up_trans U hu1) | (go_at_call 36; (with_reducible refine (unhide H2 _ U1).mono ?_); rintro e w2 ⟨rfl, hu2⟩; have s2 := bx_up s1 hu2; obtain ⟨f0, f1, f2⟩ := bx3 s2; have U2 := up_trans U1 hu2) | (go_at_call 35; (with_reducible refine (unhide H4 _).mono ?_); rintro e w9 ⟨rfl, rfl⟩))
        go_ret2
        exact ⟨rfl, U2⟩
      · rw [hr] at H4
        have hn := HN hr
        by_cases hS : S ≤ 1073741824
        · rw [if_pos hS, decide_eq_true hS] at H5'
          obtain ⟨rfl, rfl⟩ := g4 rfl hr hS
          have H7 := hide (fun W => unhide HD n W ⟨b1, b2⟩ ⟨b3, hS⟩ hn)
          clear g3 g4 g5 g6
          go_enter Try.func15, Try.ntmps15
          go_upto_region 1 with fail
          refine at_wpB (fun W hW => ?_)
          have hB : Bx W w.heap.size [.int .i64 ld, .int .i64 lf, .int .i64 pw] := by rw [hW]; exact bx_new w _ _
          have U : Up w W := by rw [hW]; exact (by repeat' (first | (with_reducible exact up_refl _) | (with_reducible assumption) | (with_reducible refine up_alloc ?_ _) | (with_reducible refine up_drewN ?_ _) | (with_reducible refine up_drew ?_) | (with_reducible refine up_set ?_ (by first | (simp; done) | (simp; omega) | omega) _) | (refine up_trans ?_ (by with_reducible assumption))))
          obtain ⟨c0, c1, c2⟩ := bx3 hB
          clear hW
          go_wp2_with (first | (go_at_call 19; (with_reducible refine (unhide H1 _).mono ?_); rintro e w1 ⟨rfl, hu1⟩; have s1 := bx_up hB hu1; obtain ⟨d0, d1, d2⟩ := bx3 s1; have U1 := up_trans U hu1) | (go_at_call 36; (with_reducible refine (unhide H2 _ U1).mono ?_); rintro e w2 ⟨rfl, hu2⟩; have s2 := bx_up s1 hu2; obtain ⟨f0, f1, f2⟩ := bx3 s2; have U2 := up_trans U1 hu2) | (go_at_call 35; (with_reducible refine (unhide H4 _).mono ?_); rintro e w9 ⟨rfl, rfl⟩) | (go_at_call 45; (with_reducible refine (unhide H5' _ U2).mono ?_); rintro e w4 ⟨rfl, hu4⟩; have s4 := bx_up s2 hu4; obtain ⟨k0, k1, k2⟩ := bx3 s4; have U4 := up_trans U2 hu4) | (go_at_call 46; (with_reducible refine (unhide H7 _).mono ?_); rintro e w5 ⟨rfl, hu5⟩; have U5 := up_trans U4 hu5))
          go_ret2
          exact ⟨rfl, U5⟩
        · rw [if_neg hS, decide_eq_false hS] at H5'
          obtain ⟨rfl, rfl⟩ := g5 rfl hr hS
          clear g3 g4 g5 g6
          go_enter Try.func15, Try.ntmps15
          go_upto_region 1 with fail
          refine at_wpB (fun W hW => ?_)
          have hB : Bx W w.heap.size [.int .i64 ld, .int .i64 lf, .int .i64 pw] := by rw [hW]; exact bx_new w _ _
          have U : Up w W := by rw [hW]; exact (by repeat' (first | (with_reducible exact up_refl _) | (with_reducible assumption) | (with_reducible refine up_alloc ?_ _) | (with_reducible refine up_drewN ?_ _) | (with_reducible refine up_drew ?_) | (with_reducible refine up_set ?_ (by first | (simp; done) | (simp; omega) | omega) _) | (refine up_trans ?_ (by with_reducible assumption))))
          obtain ⟨c0, c1, c2⟩ := bx3 hB
          clear hW
          go_wp2_with (first | (go_at_call 19; (with_reducible refine (unhide H1 _).mono ?_); rintro e w1 ⟨rfl, hu1⟩; have s1 := bx_up hB hu1; obtain ⟨d0, d1, d2⟩ := bx3 s1; have U1 := up_trans U hu1) | (go_at_call 36; (with_reducible refine (unhide H2 _ U1).mono ?_); rintro e w2 ⟨rfl, hu2⟩; have s2 := bx_up s1 hu2; obtain ⟨f0, f1, f2⟩ := bx3 s2; have U2 := up_trans U1 hu2) | (go_at_call 35; (with_reducible refine (unhide H4 _).mono ?_); rintro e w9 ⟨rfl, rfl⟩) | (go_at_call 45; (with_reducible refine (unhide H5' _ U2).mono ?_); rintro e w4 ⟨rfl, hu4⟩; have s4 := bx_up s2 hu4; obtain ⟨k0, k1, k2⟩ := bx3 s4; have U4 := up_trans U2 hu4))
          go_ret2
          exact ⟨rfl, U4⟩
    · have hE : E = E2 := hee.2 hE1
      have hg := g6 (by rw [hE]; exact hE2)
      have e1 : (E2 == 0) = false := by simp; exact hE2
      rw [hE] at hg
      obtain ⟨rfl, rfl⟩ := hg
      subst hE1
      clear hee hE
      clear g3 g4 g5 g6
      go_enter Try.func15, Try.ntmps15
      go_upto_region 1 with fail
      refine at_wpB (fun W hW => ?_)
      have hB : Bx W w.heap.size [.int .i64 ld, .int .i64 lf, .int .i64 pw] := by rw [hW]; exact bx_new w _ _
      have U : Up w W := by rw [hW]; exact (by repeat' (first | (with_reducible exact up_refl _) | (with_reducible assumption) | (with_reducible refine up_alloc ?_ _) | (with_reducible refine up_drewN ?_ _) | (with_reducible refine up_drew ?_) | (with_reducible refine up_set ?_ (by first | (simp; done) | (simp; omega) | omega) _) | (refine up_trans ?_ (by with_reducible assumption))))
      obtain ⟨c0, c1, c2⟩ := bx3 hB
      clear hW
      go_wp2_with (first | (go_at_call 19; (with_reducible refine (unhide H1 _).mono ?_); rintro e w1 ⟨rfl, hu1⟩; have s1 := bx_up hB hu1; obtain ⟨d0, d1, d2⟩ := bx3 s1; have U1 := up_trans U hu1) | (go_at_call 36; (with_reducible refine (unhide H2 _ U1).mono ?_); rintro e w2 ⟨rfl, hu2⟩; have s2 := bx_up s1 hu2; obtain ⟨f0, f1, f2⟩ := bx3 s2; have U2 := up_trans U1 hu2) | (go_at_call 36; (with_reducible refine (unhide H2 _ U2).mono ?_); rintro e w3 ⟨rfl, hu3⟩; have U3 := up_trans U2 hu3))
      go_ret2
      exact ⟨rfl, U3⟩
  · have hE : E = E1 := hee.1 hE1
    have h2 : E1 = 2 := by rcases h02 with h | h <;> first | exact absurd h hE1 | exact h
    have hg := g6 (by rw [hE]; exact hE1)
    rw [hE, h2] at hg
    obtain ⟨rfl, rfl⟩ := hg
    subst h2
    clear hee hE
    clear g3 g4 g5 g6
    go_enter Try.func15, Try.ntmps15
    go_upto_region 1 with fail
    refine at_wpB (fun W hW => ?_)
    have hB : Bx W w.heap.size [.int .i64 ld, .int .i64 lf, .int .i64 pw] := by rw [hW]; exact bx_new w _ _
    have U : Up w W := by rw [hW]; exact (by repeat' (first | (with_reducible exact up_refl _) | (with_reducible assumption) | (with_reducible refine up_alloc ?_ _) | (with_reducible refine up_drewN ?_ _) | (with_reducible refine up_drew ?_) | (with_reducible refine up_set ?_ (by first | (simp; done) | (simp; omega) | omega) _) | (refine up_trans ?_ (by with_reducible assumption))))
    obtain ⟨c0, c1, c2⟩ := bx3 hB
    clear hW
    go_wp2_with (first | (go_at_call 19; (with_reducible refine (unhide H1 _).mono ?_); rintro e w1 ⟨rfl, hu1⟩; have s1 := bx_up hB hu1; obtain ⟨d0, d1, d2⟩ := bx3 s1; have U1 := up_trans U hu1))
    go_ret2
    exact ⟨rfl, U1⟩
set_option maxRecDepth 100000 in
set_option maxHeartbeats 8000000 in
theorem r_Left6 (p : Pav) (A : Option Addr) (ts : List (Int × Int)) (cap : Nat) (n : Int) (w : World) (hF : Frs w A ts) (hnt : ts.length ≤ 9223372036854775807) :
    Calls Try.prog 17 #[pvV p, .slice A ts.length cap, .int .i64 n] w fun e w' => e = .returned (.tuple #[.int .i64 (lfV p ts n), .int .i64 (lfE p ts n)]) ∧ Up w w' := by
  have H1 := hide (fun W => r_CheckPav p W)
  have H2 := hide (fun W (hU : Up w W) => r_CheckTrain6 A ts cap W (frs_up hF hU) hnt)
  have H4 := hide (fun W => r_w6 n 0 1000000 W)
  have H5 := hide (fun (hE : daE0 p ts = 0) W (hU : Up w W) => r_wear6 p A ts cap W (pvE_ok (orF_2 hE).1).1 (pvE_ok (orF_2 hE).1).2.2 (frs_up hF hU) (trOk_of (orF_2 hE).2).1)
  have H6 := hide (fun (hE : daE0 p ts = 0) => (⟨(pvE_ok (orF_2 hE).1).2.1, by have t := wsF_bd (p := p) (pvE_ok (orF_2 hE).1).1.1 (trOk_of (orF_2 hE).2).1 ts.length (Nat.le_refl _); rw [List.take_length] at t; exact t.1⟩ : (1 ≤ p.lf ∧ p.lf ≤ 1048576) ∧ 0 ≤ wsF p ts))
  have HD := hide (fun (q : Int) (W : World) (h1 : 1 ≤ p.lf ∧ p.lf ≤ 1048576) (h2 : 0 ≤ wsF p ts ∧ wsF p ts ≤ 1073741824) (h3 : 0 ≤ q ∧ q ≤ 1048576) => r_damage6 p (wsF p ts) q W h1 h2 h3)
  have HN := fun (h : win6 n 0 1000000 = true) => win6_yes h
  have h02 : pvE p = 0 ∨ pvE p = 2 := by unfold pvE; split <;> simp
  have hee : (pvE p ≠ 0 → daE0 p ts = pvE p) ∧ (pvE p = 0 → daE0 p ts = ctE ts) := ⟨fun h => by unfold daE0 orF; rw [if_neg h], fun h => by unfold daE0; rw [orF_0 h, orF_one]⟩
  have g3 : daE0 p ts = 0 → win6 n 0 1000000 = false → lfV p ts n = 0 ∧ lfE p ts n = 3 := fun a b => by
    have t : lfE p ts n = 3 := by unfold lfE; rw [if_pos a, b]; rfl
    exact ⟨by unfold lfV; rw [t]; rfl, t⟩
  have g4 : daE0 p ts = 0 → win6 n 0 1000000 = true → wsF p ts ≤ 1073741824 → wsF p ts ≠ 0 → lfV p ts n = lqF (wsF p ts) p.lf n ∧ lfE p ts n = 0 := fun a b c d => by
    have t : lfE p ts n = 0 := by unfold lfE; rw [if_pos a, if_pos b, if_pos c, if_neg d]
    exact ⟨by unfold lfV; rw [if_pos t], t⟩
  have g7 : daE0 p ts = 0 → win6 n 0 1000000 = true → wsF p ts = 0 → lfV p ts n = 0 ∧ lfE p ts n = 5 := fun a b d => by
    have t : lfE p ts n = 5 := by unfold lfE; rw [if_pos a, if_pos b, if_pos (by rw [d]; decide), if_pos d]
    exact ⟨by unfold lfV; rw [t]; rfl, t⟩
  have g5 : daE0 p ts = 0 → win6 n 0 1000000 = true → ¬ wsF p ts ≤ 1073741824 → lfV p ts n = 0 ∧ lfE p ts n = 4 := fun a b c => by
    have t : lfE p ts n = 4 := by unfold lfE; rw [if_pos a, if_pos b, if_neg c]
    exact ⟨by unfold lfV; rw [t]; rfl, t⟩
  have g6 : daE0 p ts ≠ 0 → lfV p ts n = 0 ∧ lfE p ts n = daE0 p ts := fun a => by
    have t : lfE p ts n = daE0 p ts := by unfold lfE; rw [if_neg a]
    exact ⟨by unfold lfV; rw [t, if_neg a], t⟩
  generalize lfV p ts n = V at *
  generalize lfE p ts n = X at *
  generalize daE0 p ts = E at *
  generalize wsF p ts = S at *
  generalize pvE p = E1 at *
  generalize ctE ts = E2 at *
  generalize win6 n 0 1000000 = r at *
  unfold pvV at *
  obtain ⟨ld, lf, pw⟩ := p
  dsimp only at *
  clear hF
  generalize ts.length = m at *
  by_cases hE1 : E1 = 0
  · by_cases hE2 : E2 = 0
    · have hE : E = 0 := (hee.2 hE1).trans hE2
      have H5' := hide (unhide H5 hE)
      obtain ⟨⟨b1, b2⟩, b3⟩ := unhide H6 hE
      subst hE hE1 hE2
      cases hr : r
      · rw [hr] at H4
        obtain ⟨rfl, rfl⟩ := g3 rfl hr
        clear g3 g4 g5 g6 g7
        go_enter Try.func17, Try.ntmps17
        go_upto_region 1 with fail
        refine at_wpB (fun W hW => ?_)
        have hB : Bx W w.heap.size [.int .i64 ld, .int .i64 lf, .int .i64 pw] := by rw [hW]; exact bx_new w _ _
        have U : Up w W := by rw [hW]; exact (by repeat' (first | (with_reducible exact up_refl _) | (with_reducible assumption) | (with_reducible refine up_alloc ?_ _) | (with_reducible refine up_drewN ?_ _) | (with_reducible refine up_drew ?_) | (with_reducible refine up_set ?_ (by first | (simp; done) | (simp; omega) | omega) _) | (refine up_trans ?_ (by with_reducible assumption))))
        obtain ⟨c0, c1, c2⟩ := bx3 hB
        clear hW
        go_wp2_with (first | (go_at_call 19; (with_reducible refine (unhide H1 _).mono ?_); rintro e w1 ⟨rfl, hu1⟩; have s1 := bx_up hB hu1; obtain ⟨d0, d1, d2⟩ := bx3 s1; have U1 := up_trans U hu1) | (go_at_call 36; (with_reducible refine (unhide H2 _ U1).mono ?_); rintro e w2 ⟨rfl, hu2⟩; have s2 := bx_up s1 hu2; obtain ⟨f0, f1, f2⟩ := bx3 s2; have U2 := up_trans U1 hu2) | (go_at_call 35; (with_reducible refine (unhide H4 _).mono ?_); rintro e w9 ⟨rfl, rfl⟩))
        go_ret2
        exact ⟨rfl, U2⟩
      · rw [hr] at H4
        have hn := HN hr
        by_cases hS : S ≤ 1073741824
        · rw [if_pos hS, decide_eq_true hS] at H5'
          by_cases hS0 : S = 0
          · obtain ⟨rfl, rfl⟩ := g7 rfl hr hS0
            subst hS0
            clear g3 g4 g5 g6 g7
            go_enter Try.func17, Try.ntmps17
            go_upto_region 1 with fail
            refine at_wpB (fun W hW => ?_)
            have hB : Bx W w.heap.size [.int .i64 ld, .int .i64 lf, .int .i64 pw] := by rw [hW]; exact bx_new w _ _
            have U : Up w W := by rw [hW]; exact (by repeat' (first | (with_reducible exact up_refl _) | (with_reducible assumption) | (with_reducible refine up_alloc ?_ _) | (with_reducible refine up_drewN ?_ _) | (with_reducible refine up_drew ?_) | (with_reducible refine up_set ?_ (by first | (simp; done) | (simp; omega) | omega) _) | (refine up_trans ?_ (by with_reducible assumption))))
            obtain ⟨c0, c1, c2⟩ := bx3 hB
            clear hW
            go_wp2_with (first | (go_at_call 19; (with_reducible refine (unhide H1 _).mono ?_); rintro e w1 ⟨rfl, hu1⟩; have s1 := bx_up hB hu1; obtain ⟨d0, d1, d2⟩ := bx3 s1; have U1 := up_trans U hu1) | (go_at_call 36; (with_reducible refine (unhide H2 _ U1).mono ?_); rintro e w2 ⟨rfl, hu2⟩; have s2 := bx_up s1 hu2; obtain ⟨f0, f1, f2⟩ := bx3 s2; have U2 := up_trans U1 hu2) | (go_at_call 35; (with_reducible refine (unhide H4 _).mono ?_); rintro e w9 ⟨rfl, rfl⟩) | (go_at_call 45; (with_reducible refine (unhide H5' _ U2).mono ?_); rintro e w4 ⟨rfl, hu4⟩; have s4 := bx_up s2 hu4; obtain ⟨k0, k1, k2⟩ := bx3 s4; have U4 := up_trans U2 hu4))
            go_ret2
            exact ⟨rfl, U4⟩
          · obtain ⟨rfl, rfl⟩ := g4 rfl hr hS hS0
            have e0 : (S == 0) = false := by simp; exact hS0
            have HQ := hide (fun q => lq_find (S := S) (lf := lf) (n := n) (q := q) (by omega) b1 hn)
            have HP0 := hide (show n + up6 (S * 1000 * 0) lf ≤ 1000000 by have := up6_bd (n := S * 1000 * 0) (d := lf) (by omega) b1; omega)
            obtain ⟨Q, hQ⟩ : ∃ Q, lqF S lf n = Q := ⟨_, rfl⟩
            rw [hQ] at HQ ⊢
            clear g3 g4 g5 g6 g7 hQ
            go_enter Try.func17, Try.ntmps17
            go_upto_region 1 with fail
            refine at_wpB (fun W hW => ?_)
            have hB : Bx W w.heap.size [.int .i64 ld, .int .i64 lf, .int .i64 pw] := by rw [hW]; exact bx_new w _ _
            have U : Up w W := by rw [hW]; exact (by repeat' (first | (with_reducible exact up_refl _) | (with_reducible assumption) | (with_reducible refine up_alloc ?_ _) | (with_reducible refine up_drewN ?_ _) | (with_reducible refine up_drew ?_) | (with_reducible refine up_set ?_ (by first | (simp; done) | (simp; omega) | omega) _) | (refine up_trans ?_ (by with_reducible assumption))))
            obtain ⟨c0, c1, c2⟩ := bx3 hB
            clear hW
            go_upto_region 13 with (first | (go_at_call 19; (with_reducible refine (unhide H1 _).mono ?_); rintro e w1 ⟨rfl, hu1⟩; have s1 := bx_up hB hu1; obtain ⟨d0, d1, d2⟩ := bx3 s1; have U1 := up_trans U hu1) | (go_at_call 36; (with_reducible refine (unhide H2 _ U1).mono ?_); rintro e w2 ⟨rfl, hu2⟩; have s2 := bx_up s1 hu2; obtain ⟨f0, f1, f2⟩ := bx3 s2; have U2 := up_trans U1 hu2) | (go_at_call 35; (with_reducible refine (unhide H4 _).mono ?_); rintro e w9 ⟨rfl, rfl⟩) | (go_at_call 45; (with_reducible refine (unhide H5' _ U2).mono ?_); rintro e w4 ⟨rfl, hu4⟩; have s4 := bx_up s2 hu4; obtain ⟨k0, k1, k2⟩ := bx3 s4; have U4 := up_trans U2 hu4))
            clear c0 c1 c2 d0 d1 d2 f0 f1 f2 k0 k1 k2
            go_loopw [10, 11] (fun s10 s11 wr => ∃ lo hi : Int, 0 ≤ lo ∧ lo ≤ hi ∧ hi ≤ 1048576 ∧ s10 = .int .i64 lo ∧ s11 = .int .i64 hi ∧ Hid (n + up6 (S * 1000 * lo) lf ≤ 1000000) ∧ Hid (∀ q, hi < q → q ≤ 1048576 → 1000000 < n + up6 (S * 1000 * q) lf) ∧ Up w4 wr) (fun s10 s11 _ => (intOf s11 - intOf s10).toNat)
            case atStart => exact ⟨0, 1048576, by omega, by omega, by omega, rfl, rfl, HP0, hide (fun q h1 h2 => absurd h2 (by omega)), up_refl _⟩
            case round =>
              obtain ⟨lo, hi, l1, l2, l3, rfl, rfl, HL, HH, hu⟩ := hrel
              by_cases hlt : lo < hi
              · obtain ⟨mid, hmid⟩ : ∃ mid, (lo + hi + 1) / 2 = mid := ⟨_, rfl⟩
                have m1 : lo < mid ∧ mid ≤ hi := by omega
                have q1 : IntKind.i64.wrap (lo + hi) = lo + hi := IntWalk.i64_in _ ⟨by omega, by omega⟩
                have q2 : IntKind.i64.wrap (lo + hi + 1) = lo + hi + 1 := IntWalk.i64_in _ ⟨by omega, by omega⟩
                have q3 : (lo + hi + 1).tdiv 2 = mid := by rw [Int.tdiv_eq_ediv_of_nonneg (by omega)]; exact hmid
                have q4 : IntKind.i64.wrap ((lo + hi + 1).tdiv 2) = mid := by rw [q3]; exact IntWalk.i64_in _ ⟨by omega, by omega⟩
                have q5 : IntKind.i64.wrap mid = mid := IntWalk.i64_in _ ⟨by omega, by omega⟩
                have q6 : IntKind.i64.wrap (mid - 1) = mid - 1 := IntWalk.i64_in _ ⟨by omega, by omega⟩
                have mm : 0 ≤ S * 1000 * mid ∧ S * 1000 * mid ≤ 1073741824000 * 1048576 := ⟨Int.mul_nonneg (by omega) (by omega), Int.mul_le_mul (by omega) (by omega) (by omega) (by omega)⟩
                have ub := up6_bd (n := S * 1000 * mid) (d := lf) mm.1 b1
                have HDm := hide (fun W => unhide HD mid W ⟨b1, b2⟩ ⟨b3, hS⟩ ⟨by omega, by omega⟩)
                have hmono : ∀ q, mid ≤ q → up6 (S * 1000 * mid) lf ≤ up6 (S * 1000 * q) lf := fun q hq => up6_le (Int.mul_le_mul_of_nonneg_left hq (by omega)) b1
                have HMo := hide hmono
                obtain ⟨y, hy⟩ : ∃ y, up6 (S * 1000 * mid) lf = y := ⟨_, rfl⟩
                have HY := hide hy
                rw [hy] at ub HDm
                have q7 : IntKind.i64.wrap (n + y) = n + y := IntWalk.i64_in _ ⟨by omega, by omega⟩
                have hB4 := bx_up s4 hu
                obtain ⟨k0, k1, k2⟩ := bx3 hB4
                have dd := hlt
                clear hmid mm hy hmono hB4
                by_cases hc : n + y > 1000000
                · have c9 : decide (n + y > 1000000) = true := decide_eq_true hc
                  have c8 : decide (1000000 < n + y) = true := decide_eq_true hc
                  go_wp2_with (go_at_call 46; (with_reducible refine (unhide HDm _).mono ?_); rintro e w5 ⟨rfl, hu5⟩)
                  go_roundw
                  case rel => exact ⟨lo, mid - 1, by omega, by omega, by omega, rfl, rfl, HL, hide (fun q h1 h2 => by have t := unhide HMo q (by omega); rw [unhide HY] at t; omega), up_trans hu hu5⟩
                  case measure => simp [intOf]; omega
                · have c9 : decide (n + y > 1000000) = false := decide_eq_false hc
                  have c8 : decide (1000000 < n + y) = false := decide_eq_false hc
                  go_wp2_with (go_at_call 46; (with_reducible refine (unhide HDm _).mono ?_); rintro e w5 ⟨rfl, hu5⟩)
                  go_roundw
                  case rel => exact ⟨mid, hi, by omega, by omega, by omega, rfl, rfl, hide (by rw [unhide HY]; omega), HH, up_trans hu hu5⟩
                  case measure => simp [intOf]; omega
              · obtain rfl : lo = hi := by omega
                have hq := unhide HQ lo l1 l3 (unhide HL) (unhide HH)
                subst hq
                clear HQ HL HH
                go_wp2_with fail
                go_ret2
                exact ⟨rfl, up_trans U4 hu⟩
        · rw [if_neg hS, decide_eq_false hS] at H5'
          obtain ⟨rfl, rfl⟩ := g5 rfl hr hS
          clear g3 g4 g5 g6 g7
          go_enter Try.func17, Try.ntmps17
          go_upto_region 1 with fail
          refine at_wpB (fun W hW => ?_)
          have hB : Bx W w.heap.size [.int .i64 ld, .int .i64 lf, .int .i64 pw] := by rw [hW]; exact bx_new w _ _
          have U : Up w W := by rw [hW]; exact (by repeat' (first | (with_reducible exact up_refl _) | (with_reducible assumption) | (with_reducible refine up_alloc ?_ _) | (with_reducible refine up_drewN ?_ _) | (with_reducible refine up_drew ?_) | (with_reducible refine up_set ?_ (by first | (simp; done) | (simp; omega) | omega) _) | (refine up_trans ?_ (by with_reducible assumption))))
          obtain ⟨c0, c1, c2⟩ := bx3 hB
          clear hW
          go_wp2_with (first | (go_at_call 19; (with_reducible refine (unhide H1 _).mono ?_); rintro e w1 ⟨rfl, hu1⟩; have s1 := bx_up hB hu1; obtain ⟨d0, d1, d2⟩ := bx3 s1; have U1 := up_trans U hu1) | (go_at_call 36; (with_reducible refine (unhide H2 _ U1).mono ?_); rintro e w2 ⟨rfl, hu2⟩; have s2 := bx_up s1 hu2; obtain ⟨f0, f1, f2⟩ := bx3 s2; have U2 := up_trans U1 hu2) | (go_at_call 35; (with_reducible refine (unhide H4 _).mono ?_); rintro e w9 ⟨rfl, rfl⟩) | (go_at_call 45; (with_reducible refine (unhide H5' _ U2).mono ?_); rintro e w4 ⟨rfl, hu4⟩; have s4 := bx_up s2 hu4; obtain ⟨k0, k1, k2⟩ := bx3 s4; have U4 := up_trans U2 hu4))
          go_ret2
          exact ⟨rfl, U4⟩
    · have hE : E = E2 := hee.2 hE1
      have hg := g6 (by rw [hE]; exact hE2)
      have e1 : (E2 == 0) = false := by simp; exact hE2
      rw [hE] at hg
      obtain ⟨rfl, rfl⟩ := hg
      subst hE1
      clear hee hE
      clear g3 g4 g5 g6 g7
      go_enter Try.func17, Try.ntmps17
      go_upto_region 1 with fail
      refine at_wpB (fun W hW => ?_)
      have hB : Bx W w.heap.size [.int .i64 ld, .int .i64 lf, .int .i64 pw] := by rw [hW]; exact bx_new w _ _
      have U : Up w W := by rw [hW]; exact (by repeat' (first | (with_reducible exact up_refl _) | (with_reducible assumption) | (with_reducible refine up_alloc ?_ _) | (with_reducible refine up_drewN ?_ _) | (with_reducible refine up_drew ?_) | (with_reducible refine up_set ?_ (by first | (simp; done) | (simp; omega) | omega) _) | (refine up_trans ?_ (by with_reducible assumption))))
      obtain ⟨c0, c1, c2⟩ := bx3 hB
      clear hW
      go_wp2_with (first | (go_at_call 19; (with_reducible refine (unhide H1 _).mono ?_); rintro e w1 ⟨rfl, hu1⟩; have s1 := bx_up hB hu1; obtain ⟨d0, d1, d2⟩ := bx3 s1; have U1 := up_trans U hu1) | (go_at_call 36; (with_reducible refine (unhide H2 _ U1).mono ?_); rintro e w2 ⟨rfl, hu2⟩; have s2 := bx_up s1 hu2; obtain ⟨f0, f1, f2⟩ := bx3 s2; have U2 := up_trans U1 hu2) | (go_at_call 36; (with_reducible refine (unhide H2 _ U2).mono ?_); rintro e w3 ⟨rfl, hu3⟩; have U3 := up_trans U2 hu3))
      go_ret2
      exact ⟨rfl, U3⟩
  · have hE : E = E1 := hee.1 hE1
    have h2 : E1 = 2 := by rcases h02 with h | h <;> first | exact absurd h hE1 | exact h
    have hg := g6 (by rw [hE]; exact hE1)
    rw [hE, h2] at hg
    obtain ⟨rfl, rfl⟩ := hg
    subst h2
    clear hee hE
    clear g3 g4 g5 g6 g7
    go_enter Try.func17, Try.ntmps17
    go_upto_region 1 with fail
    refine at_wpB (fun W hW => ?_)
    have hB : Bx W w.heap.size [.int .i64 ld, .int .i64 lf, .int .i64 pw] := by rw [hW]; exact bx_new w _ _
    have U : Up w W := by rw [hW]; exact (by repeat' (first | (with_reducible exact up_refl _) | (with_reducible assumption) | (with_reducible refine up_alloc ?_ _) | (with_reducible refine up_drewN ?_ _) | (with_reducible refine up_drew ?_) | (with_reducible refine up_set ?_ (by first | (simp; done) | (simp; omega) | omega) _) | (refine up_trans ?_ (by with_reducible assumption))))
    obtain ⟨c0, c1, c2⟩ := bx3 hB
    clear hW
    go_wp2_with (first | (go_at_call 19; (with_reducible refine (unhide H1 _).mono ?_); rintro e w1 ⟨rfl, hu1⟩; have s1 := bx_up hB hu1; obtain ⟨d0, d1, d2⟩ := bx3 s1; have U1 := up_trans U hu1))
    go_ret2
    exact ⟨rfl, U1⟩
end Go.Proofs.Ytdignnmhiifpgaa
