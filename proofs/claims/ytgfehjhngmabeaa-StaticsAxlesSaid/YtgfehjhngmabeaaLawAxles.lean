/- StaticsAxles: the law's function returns true. -/
import Derived.Test.YtgfehjhngmabeaaRefAxl
import Derived.Test.YtgfehjhngmabeaaKnown
namespace Go.Proofs.Ytgfehjhngmabeaa
open Go.RowKit Go.Proofs.Gn
set_option maxHeartbeats 2000000 in
theorem l_sameX (A B : Option Addr) (l : List Int) (ca cb : Nat) (hn : l.length ≤ 9223372036854775807) (w : World) (hA : Ints w A l) (hB : Ints w B l) :
    Calls Try.prog 23 #[.slice A l.length ca, .slice B l.length cb] w fun e w' => e = .returned (.bool true) ∧ Up w w' := by
  have HA := hide hA
  have HB := hide hB
  clear hA hB
  obtain ⟨n, hN⟩ : ∃ n, l.length = n := ⟨_, rfl⟩
  rw [hN] at hn ⊢
  have HN := hide hN
  clear hN
  go_enter Try.func23, Try.ntmps23
  go_wp2_with fail
  go_loopw [5] (fun s5 wr => ∃ k : Nat, k ≤ n ∧ s5 = .int .i64 k ∧ Up w wr) (fun s5 _ => n - (intOf s5).toNat)
  case atStart => exact ⟨0, by omega, rfl, up_refl _⟩
  case round =>
    obtain ⟨k, hk, rfl, hu⟩ := hrel
    by_cases hlt : k < n
    · have hl : k < l.length := by rw [unhide HN]; exact hlt
      obtain ⟨b, off, rfl, hc⟩ := (unhide HA).resolve_left (by intro e; rw [e] at hl; simp at hl)
      obtain ⟨b2, off2, rfl, hc2⟩ := (unhide HB).resolve_left (by intro e; rw [e] at hl; simp at hl)
      have c0 := up_cell hu (hc k hl)
      have c1 := up_cell hu (hc2 k hl)
      obtain ⟨x, hx⟩ : ∃ x, l[k] = x := ⟨_, rfl⟩
      rw [hx] at c0 c1
      clear hc hc2 hx
      have i0 : (0 : Int) ≤ (k : Int) := by omega
      have i1 : (k : Int) < (n : Int) := by omega
      have m0 : ∀ p : UpW wr, p.v.cell? ⟨b, off + k, none⟩ = some (.int .i64 x) := fun p => up_cell p.up c0
      have m1 : ∀ p : UpW wr, p.v.cell? ⟨b2, off2 + k, none⟩ = some (.int .i64 x) := fun p => up_cell p.up c1
      go_wp2_with fail
      refine wp_upq (by kernel_rfl) (by kernel_rfl) ?_; (repeat (go_big_quiet_step (fail))); refine wpQuiet_nil ?_; intro _ hw'; obtain ⟨pq, hw''⟩ := hw'; subst hw''; have hpq := pq.up
      generalize pq.v = W2 at hpq ⊢
      clear m0 m1 c0 c1
      go_wp2_with fail
      go_roundw
      case rel => exact ⟨k + 1, by omega, by go_num, up_trans hu hpq⟩
      case measure => simp [intOf]; omega
    · obtain rfl : k = n := by omega
      go_wp2_with fail
      go_ret
      exact ⟨rfl, (by repeat' (first | (with_reducible exact up_refl _) | (with_reducible assumption) | (with_reducible refine up_alloc ?_ _) | (with_reducible refine up_drewN ?_ _) | (with_reducible refine up_drew ?_) | (with_reducible refine up_set ?_ (by first | (simp; done) | (simp; omega) | omega) _) | (refine up_trans ?_ (by with_reducible assumption))))⟩
def grU (u : Unt) : Bool := decide (40 < u.xs.length)
def grV (s : ByteArray) (us : List Unt) : Bool := decide (20 < us.length) || (decide (100 < s.size) || us.any grU)
set_option maxRecDepth 100000 in
set_option maxHeartbeats 8000000 in
theorem l_great (s : ByteArray) (A : Option Addr) (us : List Unt) (cap : Nat) (f t : Int) (w : World) (h : Unts w A us) (hn : us.length ≤ 9223372036854775807) :
    Calls Try.prog 17 #[veV s A us.length cap f t] w fun e w' => e = .returned (.bool (grV s us)) ∧ Up w w' := by
  have HA := hide h
  clear h
  unfold grV
  obtain ⟨G, hG⟩ : ∃ G, us.any grU = G := ⟨_, rfl⟩
  rw [hG]
  have HG := hide hG
  clear hG
  obtain ⟨n, hN⟩ : ∃ n, us.length = n := ⟨_, rfl⟩
  rw [hN] at hn ⊢
  have HN := hide hN
  clear hN
  by_cases g1 : (20 : Int) < n
  · have HD := hide (show decide (20 < n) = true from decide_eq_true (by omega))
    go_enter Try.func17, Try.ntmps17
    go_wp2_with fail
    go_ret
    exact ⟨by first | rfl | (rw [unhide HD]; rfl), (by repeat' (first | (with_reducible exact up_refl _) | (with_reducible assumption) | (with_reducible refine up_alloc ?_ _) | (with_reducible refine up_drewN ?_ _) | (with_reducible refine up_drew ?_) | (with_reducible refine up_set ?_ (by first | (simp; done) | (simp; omega) | omega) _) | (refine up_trans ?_ (by with_reducible assumption))))⟩
  have HD := hide (show decide (20 < n) = false from decide_eq_false (by omega))
  have hd1 : decide ((20 : Int) < n) = false := decide_eq_false g1
  by_cases g2 : (100 : Int) < s.size
  · have HZ := hide (show decide (100 < s.size) = true from decide_eq_true (by omega))
    go_enter Try.func17, Try.ntmps17
    go_wp2_with fail
    go_ret
    exact ⟨by first | rfl | (rw [unhide HD, unhide HZ]; rfl), (by repeat' (first | (with_reducible exact up_refl _) | (with_reducible assumption) | (with_reducible refine up_alloc ?_ _) | (with_reducible refine up_drewN ?_ _) | (with_reducible refine up_drew ?_) | (with_reducible refine up_set ?_ (by first | (simp; done) | (simp; omega) | omega) _) | (refine up_trans ?_ (by with_reducible assumption))))⟩
  have HZ := hide (show decide (100 < s.size) = false from decide_eq_false (by omega))
  have hd2 : decide ((100 : Int) < s.size) = false := decide_eq_false g2
  rw [unhide HD, unhide HZ, Bool.false_or, Bool.false_or]
  clear HD HZ
  go_enter Try.func17, Try.ntmps17
  go_upto_region 1 with fail
  refine at_wp (fun W0 hW0 => ?_)
  have U0 : Up w W0 := by rw [hW0]; exact (by repeat' (first | (with_reducible exact up_refl _) | (with_reducible assumption) | (with_reducible refine up_alloc ?_ _) | (with_reducible refine up_drewN ?_ _) | (with_reducible refine up_drew ?_) | (with_reducible refine up_set ?_ (by first | (simp; done) | (simp; omega) | omega) _) | (refine up_trans ?_ (by with_reducible assumption))))
  have B0 : Bx W0 w.heap.size [.string s, .slice A n cap, .int .i64 f, .int .i64 t] := by rw [hW0]; exact bx_new w _ 43
  clear hW0
  have c0 := (B0 0 _ rfl).1
  have c1 := (B0 1 _ rfl).1
  go_wp2_with fail
  clear hd1 hd2 g1 g2
  go_loopw [3] (fun i wr => ∃ k : Nat, k ≤ n ∧ i = .int .i64 k ∧ Up W0 wr ∧ Hid (us.any grU = (us.drop k).any grU)) (fun i _ => n - (intOf i).toNat)
  case atStart => exact ⟨0, by omega, rfl, up_refl _, rfl⟩
  case round =>
    obtain ⟨k, hk, rfl, hu, ho⟩ := hrel
    clear c0 c1
    have c1 := (bx_up B0 hu 1 _ rfl).1
    by_cases hlt : k < n
    · have hl : k < us.length := by rw [unhide HN]; exact hlt
      rcases unts_up (unhide HA) (up_trans U0 hu) with hnil | ⟨b, off, rfl, hc⟩
      · rw [hnil] at hl; simp at hl
      obtain ⟨d0, d1, d2, d3, d4, d5, d6, d7, d8, d9, d10, hX, hXn⟩ := hc k hl
      clear hc d0 d1 d2 d3 d4 d5 d6 d7 d8 d9 hX
      have HS := hide ((unhide ho).trans (any_step hl))
      have hq : grU us[k] = decide (40 < us[k].xs.length) := rfl
      rw [hq] at HS
      have hwk : IntKind.i64.wrap ((k : Int) + 1) = (k : Int) + 1 := IntWalk.i64_in _ ⟨by omega, by omega⟩
      clear ho hq HA
      generalize us[k].A = XA at *
      generalize us[k].cap = xc at *
      generalize us[k].xs.length = xn at *
      by_cases g2 : (40 : Int) < xn
      · have HF := hide (show G = true by rw [← unhide HG, unhide HS, decide_eq_true (show 40 < xn by omega)]; rfl)
        go_wp2_with fail
        go_ret
        exact ⟨by first | rfl | (rw [unhide HF]; rfl), up_trans U0 hu⟩
      · have HT := hide (show us.any grU = (us.drop (k + 1)).any grU by rw [unhide HS, decide_eq_false (show ¬ 40 < xn by omega)]; rfl)
        go_wp2_with fail
        go_roundw
        case rel => exact ⟨k + 1, by omega, by first | rfl | trivial | go_num, (by repeat' (first | (with_reducible exact up_refl _) | (with_reducible assumption) | (with_reducible refine up_alloc ?_ _) | (with_reducible refine up_drewN ?_ _) | (with_reducible refine up_drew ?_) | (with_reducible refine up_set ?_ (by first | (simp; done) | (simp; omega) | omega) _) | (refine up_trans ?_ (by with_reducible assumption)))), HT⟩
        case measure => simp [intOf]; omega
    · obtain rfl : k = n := by omega
      have HT := hide (show G = false by rw [← unhide HG, unhide ho, List.drop_of_length_le (by rw [unhide HN]; omega)]; rfl)
      go_wp2_with fail
      go_ret
      exact ⟨by first | rfl | (rw [unhide HT]; rfl), up_trans U0 hu⟩
theorem axLs_len (E : Int) (us : List Unt) (f t : Nat) (m L u : Int) (K : Nat) : (axLs E us f t m L u K).length ≤ us.length := by
  unfold axLs
  split
  · rw [axR_len]; omega
  · simp
set_option maxRecDepth 100000 in
set_option maxHeartbeats 16000000 in
theorem l_Axles (s : ByteArray) (A : Option Addr) (us : List Unt) (cap : Nat) (f t m a b x : Int) (w : World) (h : Unts w A us) (hn : us.length ≤ 9223372036854775807) :
    Calls Try.prog 4 #[veV s A us.length cap f t, .int .i64 m, .int .i64 a, .int .i64 b, .int .i64 x] w fun e w' => e = .returned (.bool true) ∧ Up w w' := by
  obtain ⟨K, hK⟩ := fsn_ex us.length (eaN us f.toNat t.toNat m (up m a (a - b)) (up m a b))
  have hG := hide (fun (W : World) (hW : Up w W) => l_great s A us cap f t W (unts_up h hW) hn)
  have h1 := hide (fun (W : World) => p_Lever m a b x W)
  have h2 := hide (fun (W : World) => r_Lever m a b x W)
  have h3 := hide (fun (W : World) (hW : Up w W) => p_Axles s A us cap f t m a b K hK W (unts_up h hW) hn)
  have h4 := hide (fun (W : World) (hW : Up w W) => r_Axles s A us cap f t m a b K hK W (unts_up h hW) hn)
  have hls : (axLs (veE s us f t) us f.toNat t.toNat m a b K).length ≤ 9223372036854775807 := Nat.le_trans (axLs_len ..) hn
  clear h hK
  generalize axF (veE s us f t) m a b us.length K = F at *
  generalize axLs (veE s us f t) us f.toNat t.toNat m a b K = Ls at *
  generalize leM m a b x = M at *
  generalize leN m a b x = N at *
  generalize leE m a b x = E at *
  generalize grV s us = G at *
  obtain ⟨n, hN⟩ : ∃ n, us.length = n := ⟨_, rfl⟩
  rw [hN] at hG h3 h4 hn ⊢
  clear hN
  have h5 := hide (fun A' B' ca cb (W : World) a b => l_sameX A' B' Ls ca cb hls W a b)
  obtain ⟨l, hl⟩ : ∃ L, Ls.length = L := ⟨_, rfl⟩
  rw [hl] at h3 h4 h5 hls
  clear hl
  go_enter Try.func4, Try.ntmps4
  go_upto_region 1 with fail
  refine at_wp (fun W0 hW0 => ?_)
  have U0 : Up w W0 := by rw [hW0]; exact (by repeat' (first | (with_reducible exact up_refl _) | (with_reducible assumption) | (with_reducible refine up_alloc ?_ _) | (with_reducible refine up_drewN ?_ _) | (with_reducible refine up_drew ?_) | (with_reducible refine up_set ?_ (by first | (simp; done) | (simp; omega) | omega) _) | (refine up_trans ?_ (by with_reducible assumption))))
  have B0 : Bx W0 w.heap.size [.string s, .slice A n cap, .int .i64 f, .int .i64 t] := by rw [hW0]; exact bx_new w _ 43
  clear hW0
  have c0 := (B0 0 _ rfl).1
  have c1 := (B0 1 _ rfl).1
  have c2 := (B0 2 _ rfl).1
  have c3 := (B0 3 _ rfl).1
  cases G
  rotate_left
  · clear h1 h2 h3 h4 h5
    go_wp2_with (first | (go_at_call 17; (with_reducible refine (unhide hG _ U0).mono ?_); rintro e w1 ⟨rfl, hb1⟩) | (go_at_call 18; refine (l_known _).mono ?_; rintro e w2 ⟨rfl, hb2⟩))
    go_ret
    exact ⟨rfl, up_trans (up_trans U0 hb1) hb2⟩
  go_wp2_with (first
    | (go_at_call 17; (with_reducible refine (unhide hG _ U0).mono ?_); rintro e w1 ⟨rfl, hb1⟩)
    | (go_at_call 19; (with_reducible refine (unhide h1 _).mono ?_); rintro e w2 ⟨rfl, hb2⟩)
    | (go_at_call 20; (with_reducible refine (unhide h2 _).mono ?_); rintro e w3 ⟨rfl, hb3⟩; have u3 := up_trans hb1 (up_trans hb2 hb3); have U3 := up_trans U0 u3; have B3 := bx_up B0 u3; have e0 := (B3 0 _ rfl).1; have e1 := (B3 1 _ rfl).1; have e2 := (B3 2 _ rfl).1; have e3 := (B3 3 _ rfl).1)
    | (go_at_call 21; (with_reducible refine (unhide h3 _ U3).mono ?_); rintro e w4 ⟨⟨A1, ca, rfl, hI1⟩, hb4⟩; have U4 := up_trans U3 hb4; have B4 := bx_up B3 hb4; have g0 := (B4 0 _ rfl).1; have g1 := (B4 1 _ rfl).1; have g2 := (B4 2 _ rfl).1; have g3 := (B4 3 _ rfl).1)
    | (go_at_call 22; (with_reducible refine (unhide h4 _ U4).mono ?_); rintro e w5 ⟨⟨A2, cb, rfl, hI2⟩, hb5⟩; have hI3 := ints_up hI1 hb5; have U5 := up_trans U4 hb5)
    | (go_at_call 23; (with_reducible refine (unhide h5 _ _ _ _ _ hI3 hI2).mono ?_); rintro e w6 ⟨rfl, hb6⟩; have U6 := up_trans U5 hb6)
    | (go_at_call 18; refine (l_known _).mono ?_; rintro e w7 ⟨rfl, hb7⟩))
  go_ret
  exact ⟨rfl, up_trans U6 hb7⟩
end Go.Proofs.Ytgfehjhngmabeaa
