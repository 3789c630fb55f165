/- Vehicles: which ones chain's Check takes. -/
import Derived.Test.YthifcalemhpmoaaGreatVeh
namespace Go.Proofs.YthifcalemhpmoaaGreat
open Go.RowKit Go.Proofs.Gn
def hdK : List Unt → Int
  | [] => 0
  | u :: _ => u.kd
def auV (us : List Unt) : Bool := us.all okU && (decide (0 < us.length) && decide (hdK us = 0))
def bigU (u : Unt) : Bool := decide (24 < u.xs.length)
def tmV (us : List Unt) : Bool := decide (12 < us.length) || us.any bigU
theorem hdK_get {us : List Unt} (h : 0 < us.length) : hdK us = us[0].kd := by
  cases us with
  | nil => simp at h
  | cons u l => rfl
set_option maxRecDepth 100000 in
set_option maxHeartbeats 8000000 in
theorem p_areUnits (A : Option Addr) (us : List Unt) (cap : Nat) (w : World) (h : Unts w A us) (hn : us.length ≤ 9223372036854775807) :
    Calls Tryz.prog 78 #[.slice A us.length cap] w fun e w' => e = .returned (.bool (auV us)) ∧ Up w w' := by
  rcases h with rfl | ⟨b, off, rfl, hc⟩
  · go_enter Tryz.func78, Tryz.ntmps78
    go_wp2_with fail
    go_rounds 1
    go_wp2_with fail
    go_ret
    exact ⟨rfl, (by repeat' (first | (with_reducible exact up_refl _) | (with_reducible assumption) | (with_reducible refine up_alloc ?_ _) | (with_reducible refine up_drewN ?_ _) | (with_reducible refine up_drew ?_) | (with_reducible refine up_set ?_ (by first | (simp; done) | (simp; omega) | omega) _) | (refine up_trans ?_ (by with_reducible assumption))))⟩
  unfold auV
  have HC := hide hc
  clear hc
  obtain ⟨G, hG⟩ : ∃ G, us.all okU = G := ⟨_, rfl⟩
  rw [hG]
  have HG := hide hG
  have HH := hide (fun h : 0 < us.length => hdK_get h)
  clear hG
  generalize hdK us = K at *
  obtain ⟨n, hN⟩ : ∃ n, us.length = n := ⟨_, rfl⟩
  rw [hN] at hn ⊢
  have HN := hide hN
  clear hN
  go_enter Tryz.func78, Tryz.ntmps78
  go_wp2_with fail
  go_loopw [7] (fun i wr => ∃ k : Nat, k ≤ n ∧ i = .int .i64 k ∧ Up w wr ∧ Hid (us.all okU = (us.drop k).all okU)) (fun i _ => n - (intOf i).toNat)
  case atStart => exact ⟨0, by omega, rfl, up_refl _, rfl⟩
  case round =>
    obtain ⟨k, hk, rfl, hu, ho⟩ := hrel
    by_cases hlt : k < n
    · have hl : k < us.length := by rw [unhide HN]; exact hlt
      have hp := untAt_up (unhide HC k hl) hu
      obtain ⟨d0, d1, d2, d3, d4, d5, d6, d7, d8, d9, d10, hX, hXn⟩ := hp
      have HS := hide ((unhide ho).trans (all_step hl))
      have hq : okU us[k] = (szU us[k].kd us[k].le us[k].be us[k].fr us[k].re us[k].wi us[k].he us[k].ma us[k].st us[k].mo && axU us[k].le us[k].re us[k].xs) := rfl
      rw [hq] at HS
      clear hq
      have H1 := hide (fun W => p_areSizes us[k].kd us[k].le us[k].be us[k].fr us[k].re us[k].wi us[k].he us[k].ma us[k].st us[k].mo us[k].A us[k].xs.length us[k].cap W)
      have H2 := hide (fun (hz : szU us[k].kd us[k].le us[k].be us[k].fr us[k].re us[k].wi us[k].he us[k].ma us[k].st us[k].mo = true) W (hW : Up wr W) => p_areAxles us[k].kd us[k].le us[k].be us[k].fr us[k].re us[k].wi us[k].he us[k].ma us[k].st us[k].mo us[k].A us[k].xs us[k].cap W (axls_up hX hW) hXn (szU_bd hz).2.1 (szU_bd hz).2.2.2.2.1)
      have hwk : IntKind.i64.wrap ((k : Int) + 1) = (k : Int) + 1 := IntWalk.i64_in _ ⟨by omega, by omega⟩
      clear ho hX hXn HC HH
      generalize us[k].kd = kd at *
      generalize us[k].le = le at *
      generalize us[k].be = be at *
      generalize us[k].fr = fr at *
      generalize us[k].re = re at *
      generalize us[k].wi = wi at *
      generalize us[k].he = he at *
      generalize us[k].ma = ma at *
      generalize us[k].st = st at *
      generalize us[k].mo = mo at *
      generalize us[k].A = XA at *
      generalize us[k].cap = xc at *
      generalize axU le re us[k].xs = b2 at *
      generalize us[k].xs.length = xn at *
      generalize szU kd le be fr re wi he ma st mo = b1 at *
      have NB := bx_new wr [.int .i64 kd, .int .i64 le, .int .i64 be, .int .i64 fr, .int .i64 re, .int .i64 wi, .int .i64 he, .int .i64 ma, .int .i64 st, .int .i64 mo, .slice XA xn xc] 108
      cases b1
      · have HF := hide (show G = false by rw [← unhide HG, unhide HS]; rfl)
        clear H2
        go_wp2_with (go_at_call 109; (with_reducible refine (unhide H1 _).mono ?_); rintro e w1 ⟨rfl, hb1⟩)
        go_ret
        exact ⟨by rw [unhide HF]; rfl, (by repeat' (first | (with_reducible exact up_refl _) | (with_reducible assumption) | (with_reducible refine up_alloc ?_ _) | (with_reducible refine up_drewN ?_ _) | (with_reducible refine up_drew ?_) | (with_reducible refine up_set ?_ (by first | (simp; done) | (simp; omega) | omega) _) | (refine up_trans ?_ (by with_reducible assumption))))⟩
      have H3 := hide (unhide H2 rfl)
      clear H2
      cases b2
      · have HF := hide (show G = false by rw [← unhide HG, unhide HS]; rfl)
        go_wp2_with (first | (go_at_call 109; (with_reducible refine (unhide H1 _).mono ?_); rintro e w1 ⟨rfl, hb1⟩; have N1 := bx_up NB hb1; have n0 := (N1 0 _ rfl).1; have n1 := (N1 1 _ rfl).1; have n2 := (N1 2 _ rfl).1; have n3 := (N1 3 _ rfl).1; have n4 := (N1 4 _ rfl).1; have n5 := (N1 5 _ rfl).1; have n6 := (N1 6 _ rfl).1; have n7 := (N1 7 _ rfl).1; have n8 := (N1 8 _ rfl).1; have n9 := (N1 9 _ rfl).1; have n10 := (N1 10 _ rfl).1) | (go_at_call 110; (with_reducible refine (unhide H3 _ (by repeat' (first | (with_reducible exact up_refl _) | (with_reducible assumption) | (with_reducible refine up_alloc ?_ _) | (with_reducible refine up_drewN ?_ _) | (with_reducible refine up_drew ?_) | (with_reducible refine up_set ?_ (by first | (simp; done) | (simp; omega) | omega) _) | (refine up_trans ?_ (by with_reducible assumption))))).mono ?_); rintro e w2 ⟨rfl, hb2⟩))
        go_ret
        exact ⟨by rw [unhide HF]; rfl, (by repeat' (first | (with_reducible exact up_refl _) | (with_reducible assumption) | (with_reducible refine up_alloc ?_ _) | (with_reducible refine up_drewN ?_ _) | (with_reducible refine up_drew ?_) | (with_reducible refine up_set ?_ (by first | (simp; done) | (simp; omega) | omega) _) | (refine up_trans ?_ (by with_reducible assumption))))⟩
      · have HT := hide (show us.all okU = (us.drop (k + 1)).all okU by rw [unhide HS]; rfl)
        go_wp2_with (first | (go_at_call 109; (with_reducible refine (unhide H1 _).mono ?_); rintro e w1 ⟨rfl, hb1⟩; have N1 := bx_up NB hb1; have n0 := (N1 0 _ rfl).1; have n1 := (N1 1 _ rfl).1; have n2 := (N1 2 _ rfl).1; have n3 := (N1 3 _ rfl).1; have n4 := (N1 4 _ rfl).1; have n5 := (N1 5 _ rfl).1; have n6 := (N1 6 _ rfl).1; have n7 := (N1 7 _ rfl).1; have n8 := (N1 8 _ rfl).1; have n9 := (N1 9 _ rfl).1; have n10 := (N1 10 _ rfl).1) | (go_at_call 110; (with_reducible refine (unhide H3 _ (by repeat' (first | (with_reducible exact up_refl _) | (with_reducible assumption) | (with_reducible refine up_alloc ?_ _) | (with_reducible refine up_drewN ?_ _) | (with_reducible refine up_drew ?_) | (with_reducible refine up_set ?_ (by first | (simp; done) | (simp; omega) | omega) _) | (refine up_trans ?_ (by with_reducible assumption))))).mono ?_); rintro e w2 ⟨rfl, hb2⟩))
        go_roundw
        case rel => exact ⟨k + 1, by omega, by first | rfl | trivial | go_num, (by repeat' (first | (with_reducible exact up_refl _) | (with_reducible assumption) | (with_reducible refine up_alloc ?_ _) | (with_reducible refine up_drewN ?_ _) | (with_reducible refine up_drew ?_) | (with_reducible refine up_set ?_ (by first | (simp; done) | (simp; omega) | omega) _) | (refine up_trans ?_ (by with_reducible assumption)))), HT⟩
        case measure => simp [intOf]; omega
    · obtain rfl : k = n := by omega
      have HT := hide (show G = true by rw [← unhide HG, unhide ho, List.drop_of_length_le (by rw [unhide HN]; omega)]; rfl)
      by_cases h0 : (0 : Int) < k
      · have hl : 0 < us.length := by rw [unhide HN]; omega
        have hp := untAt_up (unhide HC 0 hl) hu
        have d0 := hp.1
        rw [← unhide HH hl] at d0
        simp only [Nat.zero_mul, Nat.add_zero] at d0
        have hd : decide ((0 : Int) < k) = true := decide_eq_true h0
        have HZ := hide (show decide (0 < k) = true from decide_eq_true (by omega))
        clear hp HC ho HH
        by_cases hk0 : K = 0
        · subst hk0
          go_wp2_with fail
          go_ret
          exact ⟨by first | rfl | (rw [unhide HT, unhide HZ]; rfl) | (rw [unhide HT]; rfl) | (simp [unhide HT, unhide HZ]; done), hu⟩
        · have ht : (K == 0) = false := by simp [hk0]
          have HK := hide (show decide (K = 0) = false from decide_eq_false hk0)
          go_wp2_with fail
          go_ret
          exact ⟨by first | rfl | (rw [unhide HT, unhide HZ, unhide HK]; rfl) | (simp [unhide HT, unhide HZ, hk0]; done), hu⟩
      · have hd : decide ((0 : Int) < k) = false := decide_eq_false h0
        have HZ := hide (show decide (0 < k) = false from decide_eq_false (by omega))
        go_wp2_with fail
        go_ret
        exact ⟨by first | rfl | (rw [unhide HT, unhide HZ]; rfl) | (rw [unhide HT]; rfl) | (simp [unhide HT, unhide HZ]; done), hu⟩
set_option maxRecDepth 100000 in
set_option maxHeartbeats 8000000 in
theorem p_hasTooMany (s : ByteArray) (A : Option Addr) (us : List Unt) (cap : Nat) (f t : Int) (w : World) (h : Unts w A us) (hn : us.length ≤ 9223372036854775807) :
    Calls Tryz.prog 77 #[veV s A us.length cap f t] w fun e w' => e = .returned (.bool (tmV us)) ∧ Up w w' := by
  have HA := hide h
  clear h
  unfold tmV
  obtain ⟨G, hG⟩ : ∃ G, us.any bigU = G := ⟨_, rfl⟩
  rw [hG]
  have HG := hide hG
  clear hG
  obtain ⟨n, hN⟩ : ∃ n, us.length = n := ⟨_, rfl⟩
  rw [hN] at hn ⊢
  have HN := hide hN
  clear hN
  by_cases g1 : (12 : Int) < n
  · have HD := hide (show decide (12 < n) = true from decide_eq_true (by omega))
    go_enter Tryz.func77, Tryz.ntmps77
    go_wp2_with fail
    go_ret
    exact ⟨by first | rfl | (rw [unhide HD]; rfl), (by repeat' (first | (with_reducible exact up_refl _) | (with_reducible assumption) | (with_reducible refine up_alloc ?_ _) | (with_reducible refine up_drewN ?_ _) | (with_reducible refine up_drew ?_) | (with_reducible refine up_set ?_ (by first | (simp; done) | (simp; omega) | omega) _) | (refine up_trans ?_ (by with_reducible assumption))))⟩
  have HD := hide (show decide (12 < n) = false from decide_eq_false (by omega))
  go_enter Tryz.func77, Tryz.ntmps77
  go_upto_region 1 with fail
  refine at_wp (fun W0 hW0 => ?_)
  have U0 : Up w W0 := by rw [hW0]; exact (by repeat' (first | (with_reducible exact up_refl _) | (with_reducible assumption) | (with_reducible refine up_alloc ?_ _) | (with_reducible refine up_drewN ?_ _) | (with_reducible refine up_drew ?_) | (with_reducible refine up_set ?_ (by first | (simp; done) | (simp; omega) | omega) _) | (refine up_trans ?_ (by with_reducible assumption))))
  have B0 : Bx W0 w.heap.size [.string s, .slice A n cap, .int .i64 f, .int .i64 t] := by rw [hW0]; exact bx_new w _ 70
  clear hW0
  have c1 := (B0 1 _ rfl).1
  go_wp2_with fail
  go_loopw [12] (fun i wr => ∃ k : Nat, k ≤ n ∧ i = .int .i64 k ∧ Up W0 wr ∧ Hid (us.any bigU = (us.drop k).any bigU)) (fun i _ => n - (intOf i).toNat)
  case atStart => exact ⟨0, by omega, rfl, up_refl _, rfl⟩
  case round =>
    obtain ⟨k, hk, rfl, hu, ho⟩ := hrel
    clear c1
    by_cases hlt : k < n
    · have hl : k < us.length := by rw [unhide HN]; exact hlt
      rcases unts_up (unhide HA) (up_trans U0 hu) with hnil | ⟨b, off, rfl, hc⟩
      · rw [hnil] at hl; simp at hl
      obtain ⟨d0, d1, d2, d3, d4, d5, d6, d7, d8, d9, d10, hX, hXn⟩ := hc k hl
      clear hc
      have HS := hide ((unhide ho).trans (any_step hl))
      have hq : bigU us[k] = decide (24 < us[k].xs.length) := rfl
      rw [hq] at HS
      have hwk : IntKind.i64.wrap ((k : Int) + 1) = (k : Int) + 1 := IntWalk.i64_in _ ⟨by omega, by omega⟩
      clear ho hX hq HA
      generalize us[k].kd = kd at *
      generalize us[k].le = le at *
      generalize us[k].be = be at *
      generalize us[k].fr = fr at *
      generalize us[k].re = re at *
      generalize us[k].wi = wi at *
      generalize us[k].he = he at *
      generalize us[k].ma = ma at *
      generalize us[k].st = st at *
      generalize us[k].mo = mo at *
      generalize us[k].A = XA at *
      generalize us[k].cap = xc at *
      generalize us[k].xs.length = xn at *
      by_cases g2 : (24 : Int) < xn
      · have HF := hide (show G = true by rw [← unhide HG, unhide HS, decide_eq_true (show 24 < xn by omega)]; rfl)
        go_wp2_with fail
        go_ret
        exact ⟨by first | rfl | (rw [unhide HF, Bool.or_true]; rfl) | (rw [unhide HF]; simp; done) | (rw [unhide HF, unhide HD]; rfl), (by repeat' (first | (with_reducible exact up_refl _) | (with_reducible assumption) | (with_reducible refine up_alloc ?_ _) | (with_reducible refine up_drewN ?_ _) | (with_reducible refine up_drew ?_) | (with_reducible refine up_set ?_ (by first | (simp; done) | (simp; omega) | omega) _) | (refine up_trans ?_ (by with_reducible assumption))))⟩
      · have HT := hide (show us.any bigU = (us.drop (k + 1)).any bigU by rw [unhide HS, decide_eq_false (show ¬ 24 < xn by omega)]; rfl)
        go_wp2_with fail
        go_roundw
        case rel => exact ⟨k + 1, by omega, by first | rfl | trivial | go_num, (by repeat' (first | (with_reducible exact up_refl _) | (with_reducible assumption) | (with_reducible refine up_alloc ?_ _) | (with_reducible refine up_drewN ?_ _) | (with_reducible refine up_drew ?_) | (with_reducible refine up_set ?_ (by first | (simp; done) | (simp; omega) | omega) _) | (refine up_trans ?_ (by with_reducible assumption)))), HT⟩
        case measure => simp [intOf]; omega
    · obtain rfl : k = n := by omega
      have HT := hide (show G = false by rw [← unhide HG, unhide ho, List.drop_of_length_le (by rw [unhide HN]; omega)]; rfl)
      go_wp2_with fail
      go_ret
      exact ⟨by first | rfl | (rw [unhide HT, unhide HD]; rfl) | (rw [unhide HT]; rfl), up_trans U0 hu⟩
/-- Which error a vehicle has. -/
def veE (s : ByteArray) (us : List Unt) (f t : Int) : Int := if tmV us = true then 6 else if nmS s && (auV us && (win f 0 t && decide (t < us.length))) then 0 else 2
set_option maxRecDepth 100000 in
set_option maxHeartbeats 8000000 in
theorem p_CheckV (s : ByteArray) (A : Option Addr) (us : List Unt) (cap : Nat) (f t : Int) (w : World) (h : Unts w A us) (hn : us.length ≤ 9223372036854775807) :
    Calls Tryz.prog 43 #[veV s A us.length cap f t] w fun e w' => e = .returned (.int .i64 (veE s us f t)) ∧ Up w w' := by
  have HT := hide (fun W (hW : Up w W) => p_hasTooMany s A us cap f t W (unts_up h hW) hn)
  have HU := hide (fun W (hW : Up w W) => p_areUnits A us cap W (unts_up h hW) hn)
  have HN := hide (fun W => p_IsName s W)
  have HW := hide (fun W => p_inC f 0 t W)
  unfold veE
  clear h
  generalize tmV us = q0 at *
  generalize nmS s = q1 at *
  generalize auV us = q2 at *
  generalize win f 0 t = q3 at *
  generalize us.length = n at *
  cases q0
  rotate_left
  · go_enter Tryz.func43, Tryz.ntmps43
    go_upto_region 1 with fail
    refine at_wp (fun W0 hW0 => ?_)
    have U0 : Up w W0 := by rw [hW0]; exact (by repeat' (first | (with_reducible exact up_refl _) | (with_reducible assumption) | (with_reducible refine up_alloc ?_ _) | (with_reducible refine up_drewN ?_ _) | (with_reducible refine up_drew ?_) | (with_reducible refine up_set ?_ (by first | (simp; done) | (simp; omega) | omega) _) | (refine up_trans ?_ (by with_reducible assumption))))
    have B0 : Bx W0 w.heap.size [.string s, .slice A n cap, .int .i64 f, .int .i64 t] := by rw [hW0]; exact bx_new w _ 70
    clear hW0
    have c0 := (B0 0 _ rfl).1
    have c1 := (B0 1 _ rfl).1
    have c2 := (B0 2 _ rfl).1
    have c3 := (B0 3 _ rfl).1
    go_wp2_with (first | (go_at_call 77; (with_reducible refine (unhide HT _ U0).mono ?_); rintro e w1 ⟨rfl, hb1⟩; have U1 := up_trans U0 hb1; have B1 := bx_up B0 hb1; have e0 := (B1 0 _ rfl).1; have e1 := (B1 1 _ rfl).1; have e2 := (B1 2 _ rfl).1; have e3 := (B1 3 _ rfl).1))
    go_ret
    exact ⟨by first | rfl | simp, U1⟩
  cases q1
  · go_enter Tryz.func43, Tryz.ntmps43
    go_upto_region 1 with fail
    refine at_wp (fun W0 hW0 => ?_)
    have U0 : Up w W0 := by rw [hW0]; exact (by repeat' (first | (with_reducible exact up_refl _) | (with_reducible assumption) | (with_reducible refine up_alloc ?_ _) | (with_reducible refine up_drewN ?_ _) | (with_reducible refine up_drew ?_) | (with_reducible refine up_set ?_ (by first | (simp; done) | (simp; omega) | omega) _) | (refine up_trans ?_ (by with_reducible assumption))))
    have B0 : Bx W0 w.heap.size [.string s, .slice A n cap, .int .i64 f, .int .i64 t] := by rw [hW0]; exact bx_new w _ 70
    clear hW0
    have c0 := (B0 0 _ rfl).1
    have c1 := (B0 1 _ rfl).1
    have c2 := (B0 2 _ rfl).1
    have c3 := (B0 3 _ rfl).1
    go_wp2_with (first | (go_at_call 77; (with_reducible refine (unhide HT _ U0).mono ?_); rintro e w1 ⟨rfl, hb1⟩; have U1 := up_trans U0 hb1; have B1 := bx_up B0 hb1; have e0 := (B1 0 _ rfl).1; have e1 := (B1 1 _ rfl).1; have e2 := (B1 2 _ rfl).1; have e3 := (B1 3 _ rfl).1) | (go_at_call 37; (with_reducible refine (unhide HN _).mono ?_); rintro e w2 ⟨rfl, hb2⟩; have U2 := up_trans U1 hb2; have B2 := bx_up B1 hb2; have g0 := (B2 0 _ rfl).1; have g1 := (B2 1 _ rfl).1; have g2 := (B2 2 _ rfl).1; have g3 := (B2 3 _ rfl).1))
    go_ret
    exact ⟨by first | rfl | simp, U2⟩
  cases q2
  · go_enter Tryz.func43, Tryz.ntmps43
    go_upto_region 1 with fail
    refine at_wp (fun W0 hW0 => ?_)
    have U0 : Up w W0 := by rw [hW0]; exact (by repeat' (first | (with_reducible exact up_refl _) | (with_reducible assumption) | (with_reducible refine up_alloc ?_ _) | (with_reducible refine up_drewN ?_ _) | (with_reducible refine up_drew ?_) | (with_reducible refine up_set ?_ (by first | (simp; done) | (simp; omega) | omega) _) | (refine up_trans ?_ (by with_reducible assumption))))
    have B0 : Bx W0 w.heap.size [.string s, .slice A n cap, .int .i64 f, .int .i64 t] := by rw [hW0]; exact bx_new w _ 70
    clear hW0
    have c0 := (B0 0 _ rfl).1
    have c1 := (B0 1 _ rfl).1
    have c2 := (B0 2 _ rfl).1
    have c3 := (B0 3 _ rfl).1
    go_wp2_with (first | (go_at_call 77; (with_reducible refine (unhide HT _ U0).mono ?_); rintro e w1 ⟨rfl, hb1⟩; have U1 := up_trans U0 hb1; have B1 := bx_up B0 hb1; have e0 := (B1 0 _ rfl).1; have e1 := (B1 1 _ rfl).1; have e2 := (B1 2 _ rfl).1; have e3 := (B1 3 _ rfl).1) | (go_at_call 37; (with_reducible refine (unhide HN _).mono ?_); rintro e w2 ⟨rfl, hb2⟩; have U2 := up_trans U1 hb2; have B2 := bx_up B1 hb2; have g0 := (B2 0 _ rfl).1; have g1 := (B2 1 _ rfl).1; have g2 := (B2 2 _ rfl).1; have g3 := (B2 3 _ rfl).1) | (go_at_call 78; (with_reducible refine (unhide HU _ U2).mono ?_); rintro e w3 ⟨rfl, hb3⟩; have U3 := up_trans U2 hb3; have B3 := bx_up B2 hb3; have i0 := (B3 0 _ rfl).1; have i1 := (B3 1 _ rfl).1; have i2 := (B3 2 _ rfl).1; have i3 := (B3 3 _ rfl).1))
    go_ret
    exact ⟨by first | rfl | simp, U3⟩
  cases q3
  · go_enter Tryz.func43, Tryz.ntmps43
    go_upto_region 1 with fail
    refine at_wp (fun W0 hW0 => ?_)
    have U0 : Up w W0 := by rw [hW0]; exact (by repeat' (first | (with_reducible exact up_refl _) | (with_reducible assumption) | (with_reducible refine up_alloc ?_ _) | (with_reducible refine up_drewN ?_ _) | (with_reducible refine up_drew ?_) | (with_reducible refine up_set ?_ (by first | (simp; done) | (simp; omega) | omega) _) | (refine up_trans ?_ (by with_reducible assumption))))
    have B0 : Bx W0 w.heap.size [.string s, .slice A n cap, .int .i64 f, .int .i64 t] := by rw [hW0]; exact bx_new w _ 70
    clear hW0
    have c0 := (B0 0 _ rfl).1
    have c1 := (B0 1 _ rfl).1
    have c2 := (B0 2 _ rfl).1
    have c3 := (B0 3 _ rfl).1
    go_wp2_with (first | (go_at_call 77; (with_reducible refine (unhide HT _ U0).mono ?_); rintro e w1 ⟨rfl, hb1⟩; have U1 := up_trans U0 hb1; have B1 := bx_up B0 hb1; have e0 := (B1 0 _ rfl).1; have e1 := (B1 1 _ rfl).1; have e2 := (B1 2 _ rfl).1; have e3 := (B1 3 _ rfl).1) | (go_at_call 37; (with_reducible refine (unhide HN _).mono ?_); rintro e w2 ⟨rfl, hb2⟩; have U2 := up_trans U1 hb2; have B2 := bx_up B1 hb2; have g0 := (B2 0 _ rfl).1; have g1 := (B2 1 _ rfl).1; have g2 := (B2 2 _ rfl).1; have g3 := (B2 3 _ rfl).1) | (go_at_call 78; (with_reducible refine (unhide HU _ U2).mono ?_); rintro e w3 ⟨rfl, hb3⟩; have U3 := up_trans U2 hb3; have B3 := bx_up B2 hb3; have i0 := (B3 0 _ rfl).1; have i1 := (B3 1 _ rfl).1; have i2 := (B3 2 _ rfl).1; have i3 := (B3 3 _ rfl).1) | (go_at_call 79; (with_reducible refine (unhide HW _).mono ?_); rintro e w4 ⟨rfl, rfl⟩))
    go_ret
    exact ⟨by first | rfl | simp, U3⟩
  by_cases g : t < (n : Int)
  · have gd : decide ((n : Int) ≤ t) = false := decide_eq_false (by omega)
    have gd2 : decide (t < (n : Int)) = true := decide_eq_true g
    go_enter Tryz.func43, Tryz.ntmps43
    go_upto_region 1 with fail
    refine at_wp (fun W0 hW0 => ?_)
    have U0 : Up w W0 := by rw [hW0]; exact (by repeat' (first | (with_reducible exact up_refl _) | (with_reducible assumption) | (with_reducible refine up_alloc ?_ _) | (with_reducible refine up_drewN ?_ _) | (with_reducible refine up_drew ?_) | (with_reducible refine up_set ?_ (by first | (simp; done) | (simp; omega) | omega) _) | (refine up_trans ?_ (by with_reducible assumption))))
    have B0 : Bx W0 w.heap.size [.string s, .slice A n cap, .int .i64 f, .int .i64 t] := by rw [hW0]; exact bx_new w _ 70
    clear hW0
    have c0 := (B0 0 _ rfl).1
    have c1 := (B0 1 _ rfl).1
    have c2 := (B0 2 _ rfl).1
    have c3 := (B0 3 _ rfl).1
    go_wp2_with (first | (go_at_call 77; (with_reducible refine (unhide HT _ U0).mono ?_); rintro e w1 ⟨rfl, hb1⟩; have U1 := up_trans U0 hb1; have B1 := bx_up B0 hb1; have e0 := (B1 0 _ rfl).1; have e1 := (B1 1 _ rfl).1; have e2 := (B1 2 _ rfl).1; have e3 := (B1 3 _ rfl).1) | (go_at_call 37; (with_reducible refine (unhide HN _).mono ?_); rintro e w2 ⟨rfl, hb2⟩; have U2 := up_trans U1 hb2; have B2 := bx_up B1 hb2; have g0 := (B2 0 _ rfl).1; have g1 := (B2 1 _ rfl).1; have g2 := (B2 2 _ rfl).1; have g3 := (B2 3 _ rfl).1) | (go_at_call 78; (with_reducible refine (unhide HU _ U2).mono ?_); rintro e w3 ⟨rfl, hb3⟩; have U3 := up_trans U2 hb3; have B3 := bx_up B2 hb3; have i0 := (B3 0 _ rfl).1; have i1 := (B3 1 _ rfl).1; have i2 := (B3 2 _ rfl).1; have i3 := (B3 3 _ rfl).1) | (go_at_call 79; (with_reducible refine (unhide HW _).mono ?_); rintro e w4 ⟨rfl, rfl⟩))
    go_ret
    exact ⟨by first | rfl | simp, U3⟩
  · have gd : decide ((n : Int) ≤ t) = true := decide_eq_true (by omega)
    have gd2 : decide (t < (n : Int)) = false := decide_eq_false g
    go_enter Tryz.func43, Tryz.ntmps43
    go_upto_region 1 with fail
    refine at_wp (fun W0 hW0 => ?_)
    have U0 : Up w W0 := by rw [hW0]; exact (by repeat' (first | (with_reducible exact up_refl _) | (with_reducible assumption) | (with_reducible refine up_alloc ?_ _) | (with_reducible refine up_drewN ?_ _) | (with_reducible refine up_drew ?_) | (with_reducible refine up_set ?_ (by first | (simp; done) | (simp; omega) | omega) _) | (refine up_trans ?_ (by with_reducible assumption))))
    have B0 : Bx W0 w.heap.size [.string s, .slice A n cap, .int .i64 f, .int .i64 t] := by rw [hW0]; exact bx_new w _ 70
    clear hW0
    have c0 := (B0 0 _ rfl).1
    have c1 := (B0 1 _ rfl).1
    have c2 := (B0 2 _ rfl).1
    have c3 := (B0 3 _ rfl).1
    go_wp2_with (first | (go_at_call 77; (with_reducible refine (unhide HT _ U0).mono ?_); rintro e w1 ⟨rfl, hb1⟩; have U1 := up_trans U0 hb1; have B1 := bx_up B0 hb1; have e0 := (B1 0 _ rfl).1; have e1 := (B1 1 _ rfl).1; have e2 := (B1 2 _ rfl).1; have e3 := (B1 3 _ rfl).1) | (go_at_call 37; (with_reducible refine (unhide HN _).mono ?_); rintro e w2 ⟨rfl, hb2⟩; have U2 := up_trans U1 hb2; have B2 := bx_up B1 hb2; have g0 := (B2 0 _ rfl).1; have g1 := (B2 1 _ rfl).1; have g2 := (B2 2 _ rfl).1; have g3 := (B2 3 _ rfl).1) | (go_at_call 78; (with_reducible refine (unhide HU _ U2).mono ?_); rintro e w3 ⟨rfl, hb3⟩; have U3 := up_trans U2 hb3; have B3 := bx_up B2 hb3; have i0 := (B3 0 _ rfl).1; have i1 := (B3 1 _ rfl).1; have i2 := (B3 2 _ rfl).1; have i3 := (B3 3 _ rfl).1) | (go_at_call 79; (with_reducible refine (unhide HW _).mono ?_); rintro e w4 ⟨rfl, rfl⟩))
    go_ret
    exact ⟨by first | rfl | simp, U3⟩
end Go.Proofs.YthifcalemhpmoaaGreat
