/- Vehicles: which ones the document takes. -/
import Derived.Test.YtgfehjhngmabeaaVehC
namespace Go.Proofs.Ytgfehjhngmabeaa
open Go.RowKit Go.Proofs.Gn
set_option maxRecDepth 100000 in
set_option maxHeartbeats 4000000 in
theorem r_NameV (s : ByteArray) (w : World) :
    Calls Try.prog 87 #[.string s] w fun e w' => e = .returned (.bool (nmS s)) ∧ Up w w' := by
  by_cases g1 : (s.size : Int) < 1
  · have hS := hide (show nmS s = false by unfold nmS; rw [decide_eq_false (show ¬ 1 ≤ s.size by omega)]; simp)
    go_enter Try.func87, Try.ntmps87
    go_wp2
    go_ret
    exact ⟨by rw [unhide hS]; rfl, up_refl _⟩
  by_cases g2 : 20 < (s.size : Int)
  · have hS := hide (show nmS s = false by unfold nmS; rw [decide_eq_false (show ¬ s.size ≤ 20 by omega)]; simp)
    go_enter Try.func87, Try.ntmps87
    go_wp2
    go_ret
    exact ⟨by rw [unhide hS]; rfl, up_refl _⟩
  have HG := hide (⟨by omega, by omega⟩ : 1 ≤ s.size ∧ s.size ≤ 20)
  go_enter Try.func87, Try.ntmps87
  go_wp2
  go_loopw [3] (fun i wr => ∃ pos : Nat, i = .int .i64 pos ∧ wr = w ∧ pos ≤ s.size ∧ ∀ i (h : i < s.size), i < pos → nbB (s[i]'h).toNat = true) (fun i _ => s.size - (intOf i).toNat)
  case atStart => exact ⟨0, rfl, rfl, by omega, fun i h hi => by omega⟩
  case round =>
    obtain ⟨pos, rfl, rfl, hle, ha⟩ := hrel
    have HA := hide ha
    clear ha
    by_cases hp : pos < s.size
    · obtain ⟨n, hn⟩ : ∃ n, (s[pos]'hp).toNat = n := ⟨_, rfl⟩
      have HN := hide hn
      have hp' : (pos : Int) < s.size := by omega
      have hp0 : 0 ≤ (pos : Int) := by omega
      have HB := hide (show (s.size : Int) ≤ 20 by omega)
      have hw : IntKind.i64.wrap (↑pos + 1) = ((pos + 1 : Nat) : Int) := by rw [IntWalk.i64_in _ ⟨by omega, by omega⟩]; omega
      clear g1 g2
      rcases nb_cases n with ⟨hb, ⟨h1, h2⟩ | ⟨h1, h2, h3⟩⟩ | ⟨hb, ⟨h1, h2⟩ | ⟨h1, h2, h3⟩ | ⟨h1, h2⟩⟩
      · have e1 : 97 ≤ (n : Int) := by omega
        have e2 : (n : Int) ≤ 122 := by omega
        clear h1 h2
        go_wp2
        go_roundw
        case rel => exact ⟨pos + 1, by first | rfl | trivial, by first | rfl | trivial, by omega, nm_next hp (unhide HA) (by rw [unhide HN]; exact hb)⟩
        case measure => simp [intOf]; omega
      · have e1 : ¬ 97 ≤ (n : Int) := by omega
        have e2 : 48 ≤ (n : Int) := by omega
        have e3 : (n : Int) ≤ 57 := by omega
        clear h1 h2 h3
        go_wp2
        go_roundw
        case rel => exact ⟨pos + 1, by first | rfl | trivial, by first | rfl | trivial, by omega, nm_next hp (unhide HA) (by rw [unhide HN]; exact hb)⟩
        case measure => simp [intOf]; omega
      · have e1 : ¬ 97 ≤ (n : Int) := by omega
        have e2 : ¬ 48 ≤ (n : Int) := by omega
        clear h1 h2
        go_wp2
        go_ret
        exact ⟨by rw [nmS_bad hp (by rw [unhide HN]; exact hb)]; rfl, up_refl _⟩
      · have e1 : ¬ 97 ≤ (n : Int) := by omega
        have e2 : 48 ≤ (n : Int) := by omega
        have e3 : ¬ (n : Int) ≤ 57 := by omega
        clear h1 h2 h3
        go_wp2
        go_ret
        exact ⟨by rw [nmS_bad hp (by rw [unhide HN]; exact hb)]; rfl, up_refl _⟩
      · have e1 : 97 ≤ (n : Int) := by omega
        have e2 : ¬ (n : Int) ≤ 122 := by omega
        have e3 : 48 ≤ (n : Int) := by omega
        have e4 : ¬ (n : Int) ≤ 57 := by omega
        clear h1 h2
        go_wp2
        go_ret
        exact ⟨by rw [nmS_bad hp (by rw [unhide HN]; exact hb)]; rfl, up_refl _⟩
    · have HS := hide (nmS_all (s := s) fun i h => unhide HA i h (by omega))
      clear HA
      have h1 : ¬ (pos : Int) < s.size := by omega
      go_wp2
      go_ret
      exact ⟨by rw [unhide HS, decide_eq_true (unhide HG).1, decide_eq_true (unhide HG).2]; rfl, up_refl _⟩
theorem r_inV (n a b : Int) (w : World) :
    Calls Try.prog 126 #[.int .i64 n, .int .i64 a, .int .i64 b] w fun e w' => e = .returned (.bool (win n a b)) ∧ w = w' := by
  unfold win
  go_enter Try.func126, Try.ntmps126
  go_wp2
  · go_ret
    have h : a ≤ n := by assumption
    exact ⟨ret_bool (by simp [h]), rfl⟩
  · go_ret
    exact ⟨ret_bool (by simp; omega), rfl⟩
set_option maxRecDepth 100000 in
set_option maxHeartbeats 8000000 in
theorem r_unit (kd le be fr re wi he ma st mo : Int) (A : Option Addr) (xs : List Axl) (cap : Nat) (w : World) (h : Axls w A xs) (hn : xs.length ≤ 9223372036854775807) :
    Calls Try.prog 88 #[uV kd le be fr re wi he ma st mo A xs.length cap] w fun e w' => e = .returned (.bool (szU kd le be fr re wi he ma st mo && axU le re xs)) ∧ Up w w' := by
  have HA := hide h
  have HD := hide (fun n a b W => r_inV n a b W)
  clear h
  unfold szU axU
  obtain ⟨G, hG⟩ : ∃ G, axG (le + re) 0 xs = G := ⟨_, rfl⟩
  rw [hG]
  have HG := hide hG
  clear hG
  obtain ⟨n, hN⟩ : ∃ n, xs.length = n := ⟨_, rfl⟩
  rw [hN] at hn ⊢
  have HN := hide hN
  clear hN
  have h1 := hide (fun W => r_inV le 100 131072 W)
  have h2 := hide (fun W => r_inV be (-le) 131072 W)
  have h3 := hide (fun W => r_inV fr 0 131072 W)
  have h4 := hide (fun W => r_inV re 0 131072 W)
  have h5 := hide (fun W => r_inV wi 0 131072 W)
  have h6 := hide (fun W => r_inV he 0 131072 W)
  have h7 := hide (fun W => r_inV ma 1 1048576 W)
  have h8 := hide (fun W => r_inV st 0 900 W)
  have HL := hide (fun h : win le 100 131072 = true => (win_iff le 100 131072).1 h)
  have HRe := hide (fun h : win re 0 131072 = true => (win_iff re 0 131072).1 h)
  generalize win le 100 131072 = b1 at *
  generalize win be (-le) 131072 = b2 at *
  generalize win fr 0 131072 = b3 at *
  generalize win re 0 131072 = b4 at *
  generalize win wi 0 131072 = b5 at *
  generalize win he 0 131072 = b6 at *
  generalize win ma 1 1048576 = b7 at *
  generalize win st 0 900 = b8 at *
  by_cases k1 : kd < 0
  · have hw : win kd 0 3 = false := by unfold win; rw [decide_eq_false (show ¬ 0 ≤ kd by omega)]; rfl
    rw [hw]
    clear hw
    go_enter Try.func88, Try.ntmps88
    go_wp2_with fail
    go_ret
    exact ⟨by first | rfl | (simp; done) | simp [*], (by repeat' (first | (with_reducible exact up_refl _) | (with_reducible assumption) | (with_reducible refine up_alloc ?_ _) | (with_reducible refine up_drewN ?_ _) | (with_reducible refine up_drew ?_) | (with_reducible refine up_set ?_ (by first | (simp; done) | (simp; omega) | omega) _) | (refine up_trans ?_ (by with_reducible assumption))))⟩
  by_cases k2 : 3 < kd
  · have hw : win kd 0 3 = false := by unfold win; rw [decide_eq_false (show ¬ kd ≤ 3 by omega), Bool.and_false]
    rw [hw]
    clear hw
    go_enter Try.func88, Try.ntmps88
    go_wp2_with fail
    go_ret
    exact ⟨by first | rfl | (simp; done) | simp [*], (by repeat' (first | (with_reducible exact up_refl _) | (with_reducible assumption) | (with_reducible refine up_alloc ?_ _) | (with_reducible refine up_drewN ?_ _) | (with_reducible refine up_drew ?_) | (with_reducible refine up_set ?_ (by first | (simp; done) | (simp; omega) | omega) _) | (refine up_trans ?_ (by with_reducible assumption))))⟩
  rw [show win kd 0 3 = true from (win_iff _ _ _).2 ⟨by omega, by omega⟩]
  have K1 : decide (kd < 0) = false := decide_eq_false k1
  have K2 : decide (3 < kd) = false := decide_eq_false k2
  cases b1
  · go_enter Try.func88, Try.ntmps88
    go_wp2_with (first | (go_at_call 126; (with_reducible refine (unhide h1 _).mono ?_); rintro e w1 ⟨rfl, rfl⟩))
    go_ret
    exact ⟨by first | rfl | (simp; done) | simp [*], (by repeat' (first | (with_reducible exact up_refl _) | (with_reducible assumption) | (with_reducible refine up_alloc ?_ _) | (with_reducible refine up_drewN ?_ _) | (with_reducible refine up_drew ?_) | (with_reducible refine up_set ?_ (by first | (simp; done) | (simp; omega) | omega) _) | (refine up_trans ?_ (by with_reducible assumption))))⟩
  have hl := unhide HL rfl
  have hneg : IntKind.i64.wrap (-le) = -le := IntWalk.i64_in _ ⟨by omega, by omega⟩
  cases b2
  · go_enter Try.func88, Try.ntmps88
    go_wp2_with (first | (go_at_call 126; (with_reducible refine (unhide h1 _).mono ?_); rintro e w1 ⟨rfl, rfl⟩) | (go_at_call 126; (with_reducible refine (unhide h2 _).mono ?_); rintro e w2 ⟨rfl, rfl⟩))
    go_ret
    exact ⟨by first | rfl | (simp; done) | simp [*], (by repeat' (first | (with_reducible exact up_refl _) | (with_reducible assumption) | (with_reducible refine up_alloc ?_ _) | (with_reducible refine up_drewN ?_ _) | (with_reducible refine up_drew ?_) | (with_reducible refine up_set ?_ (by first | (simp; done) | (simp; omega) | omega) _) | (refine up_trans ?_ (by with_reducible assumption))))⟩
  cases b3
  · go_enter Try.func88, Try.ntmps88
    go_wp2_with (first | (go_at_call 126; (with_reducible refine (unhide h1 _).mono ?_); rintro e w1 ⟨rfl, rfl⟩) | (go_at_call 126; (with_reducible refine (unhide h2 _).mono ?_); rintro e w2 ⟨rfl, rfl⟩) | (go_at_call 126; (with_reducible refine (unhide h3 _).mono ?_); rintro e w3 ⟨rfl, rfl⟩))
    go_ret
    exact ⟨by first | rfl | (simp; done) | simp [*], (by repeat' (first | (with_reducible exact up_refl _) | (with_reducible assumption) | (with_reducible refine up_alloc ?_ _) | (with_reducible refine up_drewN ?_ _) | (with_reducible refine up_drew ?_) | (with_reducible refine up_set ?_ (by first | (simp; done) | (simp; omega) | omega) _) | (refine up_trans ?_ (by with_reducible assumption))))⟩
  cases b4
  · go_enter Try.func88, Try.ntmps88
    go_wp2_with (first | (go_at_call 126; (with_reducible refine (unhide h1 _).mono ?_); rintro e w1 ⟨rfl, rfl⟩) | (go_at_call 126; (with_reducible refine (unhide h2 _).mono ?_); rintro e w2 ⟨rfl, rfl⟩) | (go_at_call 126; (with_reducible refine (unhide h3 _).mono ?_); rintro e w3 ⟨rfl, rfl⟩) | (go_at_call 126; (with_reducible refine (unhide h4 _).mono ?_); rintro e w4 ⟨rfl, rfl⟩))
    go_ret
    exact ⟨by first | rfl | (simp; done) | simp [*], (by repeat' (first | (with_reducible exact up_refl _) | (with_reducible assumption) | (with_reducible refine up_alloc ?_ _) | (with_reducible refine up_drewN ?_ _) | (with_reducible refine up_drew ?_) | (with_reducible refine up_set ?_ (by first | (simp; done) | (simp; omega) | omega) _) | (refine up_trans ?_ (by with_reducible assumption))))⟩
  have hre := unhide HRe rfl
  cases b5
  · go_enter Try.func88, Try.ntmps88
    go_wp2_with (first | (go_at_call 126; (with_reducible refine (unhide h1 _).mono ?_); rintro e w1 ⟨rfl, rfl⟩) | (go_at_call 126; (with_reducible refine (unhide h2 _).mono ?_); rintro e w2 ⟨rfl, rfl⟩) | (go_at_call 126; (with_reducible refine (unhide h3 _).mono ?_); rintro e w3 ⟨rfl, rfl⟩) | (go_at_call 126; (with_reducible refine (unhide h4 _).mono ?_); rintro e w4 ⟨rfl, rfl⟩) | (go_at_call 126; (with_reducible refine (unhide h5 _).mono ?_); rintro e w5 ⟨rfl, rfl⟩))
    go_ret
    exact ⟨by first | rfl | (simp; done) | simp [*], (by repeat' (first | (with_reducible exact up_refl _) | (with_reducible assumption) | (with_reducible refine up_alloc ?_ _) | (with_reducible refine up_drewN ?_ _) | (with_reducible refine up_drew ?_) | (with_reducible refine up_set ?_ (by first | (simp; done) | (simp; omega) | omega) _) | (refine up_trans ?_ (by with_reducible assumption))))⟩
  cases b6
  · go_enter Try.func88, Try.ntmps88
    go_wp2_with (first | (go_at_call 126; (with_reducible refine (unhide h1 _).mono ?_); rintro e w1 ⟨rfl, rfl⟩) | (go_at_call 126; (with_reducible refine (unhide h2 _).mono ?_); rintro e w2 ⟨rfl, rfl⟩) | (go_at_call 126; (with_reducible refine (unhide h3 _).mono ?_); rintro e w3 ⟨rfl, rfl⟩) | (go_at_call 126; (with_reducible refine (unhide h4 _).mono ?_); rintro e w4 ⟨rfl, rfl⟩) | (go_at_call 126; (with_reducible refine (unhide h5 _).mono ?_); rintro e w5 ⟨rfl, rfl⟩) | (go_at_call 126; (with_reducible refine (unhide h6 _).mono ?_); rintro e w6 ⟨rfl, rfl⟩))
    go_ret
    exact ⟨by first | rfl | (simp; done) | simp [*], (by repeat' (first | (with_reducible exact up_refl _) | (with_reducible assumption) | (with_reducible refine up_alloc ?_ _) | (with_reducible refine up_drewN ?_ _) | (with_reducible refine up_drew ?_) | (with_reducible refine up_set ?_ (by first | (simp; done) | (simp; omega) | omega) _) | (refine up_trans ?_ (by with_reducible assumption))))⟩
  cases b7
  · go_enter Try.func88, Try.ntmps88
    go_wp2_with (first | (go_at_call 126; (with_reducible refine (unhide h1 _).mono ?_); rintro e w1 ⟨rfl, rfl⟩) | (go_at_call 126; (with_reducible refine (unhide h2 _).mono ?_); rintro e w2 ⟨rfl, rfl⟩) | (go_at_call 126; (with_reducible refine (unhide h3 _).mono ?_); rintro e w3 ⟨rfl, rfl⟩) | (go_at_call 126; (with_reducible refine (unhide h4 _).mono ?_); rintro e w4 ⟨rfl, rfl⟩) | (go_at_call 126; (with_reducible refine (unhide h5 _).mono ?_); rintro e w5 ⟨rfl, rfl⟩) | (go_at_call 126; (with_reducible refine (unhide h6 _).mono ?_); rintro e w6 ⟨rfl, rfl⟩) | (go_at_call 126; (with_reducible refine (unhide h7 _).mono ?_); rintro e w7 ⟨rfl, rfl⟩))
    go_ret
    exact ⟨by first | rfl | (simp; done) | simp [*], (by repeat' (first | (with_reducible exact up_refl _) | (with_reducible assumption) | (with_reducible refine up_alloc ?_ _) | (with_reducible refine up_drewN ?_ _) | (with_reducible refine up_drew ?_) | (with_reducible refine up_set ?_ (by first | (simp; done) | (simp; omega) | omega) _) | (refine up_trans ?_ (by with_reducible assumption))))⟩
  cases b8
  · go_enter Try.func88, Try.ntmps88
    go_wp2_with (first | (go_at_call 126; (with_reducible refine (unhide h1 _).mono ?_); rintro e w1 ⟨rfl, rfl⟩) | (go_at_call 126; (with_reducible refine (unhide h2 _).mono ?_); rintro e w2 ⟨rfl, rfl⟩) | (go_at_call 126; (with_reducible refine (unhide h3 _).mono ?_); rintro e w3 ⟨rfl, rfl⟩) | (go_at_call 126; (with_reducible refine (unhide h4 _).mono ?_); rintro e w4 ⟨rfl, rfl⟩) | (go_at_call 126; (with_reducible refine (unhide h5 _).mono ?_); rintro e w5 ⟨rfl, rfl⟩) | (go_at_call 126; (with_reducible refine (unhide h6 _).mono ?_); rintro e w6 ⟨rfl, rfl⟩) | (go_at_call 126; (with_reducible refine (unhide h7 _).mono ?_); rintro e w7 ⟨rfl, rfl⟩) | (go_at_call 126; (with_reducible refine (unhide h8 _).mono ?_); rintro e w8 ⟨rfl, rfl⟩))
    go_ret
    exact ⟨by first | rfl | (simp; done) | simp [*], (by repeat' (first | (with_reducible exact up_refl _) | (with_reducible assumption) | (with_reducible refine up_alloc ?_ _) | (with_reducible refine up_drewN ?_ _) | (with_reducible refine up_drew ?_) | (with_reducible refine up_set ?_ (by first | (simp; done) | (simp; omega) | omega) _) | (refine up_trans ?_ (by with_reducible assumption))))⟩
  by_cases m1 : mo < 0
  · have hw : win mo 0 40 = false := by unfold win; rw [decide_eq_false (show ¬ 0 ≤ mo by omega)]; rfl
    rw [hw]
    clear hw
    go_enter Try.func88, Try.ntmps88
    go_wp2_with (first | (go_at_call 126; (with_reducible refine (unhide h1 _).mono ?_); rintro e w1 ⟨rfl, rfl⟩) | (go_at_call 126; (with_reducible refine (unhide h2 _).mono ?_); rintro e w2 ⟨rfl, rfl⟩) | (go_at_call 126; (with_reducible refine (unhide h3 _).mono ?_); rintro e w3 ⟨rfl, rfl⟩) | (go_at_call 126; (with_reducible refine (unhide h4 _).mono ?_); rintro e w4 ⟨rfl, rfl⟩) | (go_at_call 126; (with_reducible refine (unhide h5 _).mono ?_); rintro e w5 ⟨rfl, rfl⟩) | (go_at_call 126; (with_reducible refine (unhide h6 _).mono ?_); rintro e w6 ⟨rfl, rfl⟩) | (go_at_call 126; (with_reducible refine (unhide h7 _).mono ?_); rintro e w7 ⟨rfl, rfl⟩) | (go_at_call 126; (with_reducible refine (unhide h8 _).mono ?_); rintro e w8 ⟨rfl, rfl⟩))
    go_ret
    exact ⟨by first | rfl | (simp; done) | simp [*], (by repeat' (first | (with_reducible exact up_refl _) | (with_reducible assumption) | (with_reducible refine up_alloc ?_ _) | (with_reducible refine up_drewN ?_ _) | (with_reducible refine up_drew ?_) | (with_reducible refine up_set ?_ (by first | (simp; done) | (simp; omega) | omega) _) | (refine up_trans ?_ (by with_reducible assumption))))⟩
  by_cases m2 : 40 < mo
  · have hw : win mo 0 40 = false := by unfold win; rw [decide_eq_false (show ¬ mo ≤ 40 by omega), Bool.and_false]
    rw [hw]
    clear hw
    go_enter Try.func88, Try.ntmps88
    go_wp2_with (first | (go_at_call 126; (with_reducible refine (unhide h1 _).mono ?_); rintro e w1 ⟨rfl, rfl⟩) | (go_at_call 126; (with_reducible refine (unhide h2 _).mono ?_); rintro e w2 ⟨rfl, rfl⟩) | (go_at_call 126; (with_reducible refine (unhide h3 _).mono ?_); rintro e w3 ⟨rfl, rfl⟩) | (go_at_call 126; (with_reducible refine (unhide h4 _).mono ?_); rintro e w4 ⟨rfl, rfl⟩) | (go_at_call 126; (with_reducible refine (unhide h5 _).mono ?_); rintro e w5 ⟨rfl, rfl⟩) | (go_at_call 126; (with_reducible refine (unhide h6 _).mono ?_); rintro e w6 ⟨rfl, rfl⟩) | (go_at_call 126; (with_reducible refine (unhide h7 _).mono ?_); rintro e w7 ⟨rfl, rfl⟩) | (go_at_call 126; (with_reducible refine (unhide h8 _).mono ?_); rintro e w8 ⟨rfl, rfl⟩))
    go_ret
    exact ⟨by first | rfl | (simp; done) | simp [*], (by repeat' (first | (with_reducible exact up_refl _) | (with_reducible assumption) | (with_reducible refine up_alloc ?_ _) | (with_reducible refine up_drewN ?_ _) | (with_reducible refine up_drew ?_) | (with_reducible refine up_set ?_ (by first | (simp; done) | (simp; omega) | omega) _) | (refine up_trans ?_ (by with_reducible assumption))))⟩
  rw [show win mo 0 40 = true from (win_iff _ _ _).2 ⟨by omega, by omega⟩]
  have M1 : decide (mo < 0) = false := decide_eq_false m1
  have M2 : decide (40 < mo) = false := decide_eq_false m2
  by_cases z : (n : Int) < 1
  · have HZ : decide (0 < n) = false := decide_eq_false (by omega)
    rw [HZ, Bool.and_false]
    clear HZ
    go_enter Try.func88, Try.ntmps88
    go_wp2_with (first | (go_at_call 126; (with_reducible refine (unhide h1 _).mono ?_); rintro e w1 ⟨rfl, rfl⟩) | (go_at_call 126; (with_reducible refine (unhide h2 _).mono ?_); rintro e w2 ⟨rfl, rfl⟩) | (go_at_call 126; (with_reducible refine (unhide h3 _).mono ?_); rintro e w3 ⟨rfl, rfl⟩) | (go_at_call 126; (with_reducible refine (unhide h4 _).mono ?_); rintro e w4 ⟨rfl, rfl⟩) | (go_at_call 126; (with_reducible refine (unhide h5 _).mono ?_); rintro e w5 ⟨rfl, rfl⟩) | (go_at_call 126; (with_reducible refine (unhide h6 _).mono ?_); rintro e w6 ⟨rfl, rfl⟩) | (go_at_call 126; (with_reducible refine (unhide h7 _).mono ?_); rintro e w7 ⟨rfl, rfl⟩) | (go_at_call 126; (with_reducible refine (unhide h8 _).mono ?_); rintro e w8 ⟨rfl, rfl⟩))
    go_ret
    exact ⟨by first | rfl | (simp; done) | simp [*], (by repeat' (first | (with_reducible exact up_refl _) | (with_reducible assumption) | (with_reducible refine up_alloc ?_ _) | (with_reducible refine up_drewN ?_ _) | (with_reducible refine up_drew ?_) | (with_reducible refine up_set ?_ (by first | (simp; done) | (simp; omega) | omega) _) | (refine up_trans ?_ (by with_reducible assumption))))⟩
  have Z1 : decide ((n : Int) < 1) = false := decide_eq_false z
  have HZ := hide (show decide (0 < n) = true from decide_eq_true (by omega))
  rw [unhide HZ]
  have hw0 : IntKind.i64.wrap (le + re) = le + re := IntWalk.i64_in _ ⟨by omega, by omega⟩
  clear hl hre HL HRe
  obtain ⟨L, hL⟩ : ∃ L, le + re = L := ⟨_, rfl⟩
  rw [hL] at HG hw0
  have hw1 : IntKind.i64.wrap (le + re) = L := by rw [hL]; exact hw0
  clear hL hw0
  go_enter Try.func88, Try.ntmps88
  go_upto_region 1 with fail
  refine at_wp (fun W0 hW0 => ?_)
  have U0 : Up w W0 := by rw [hW0]; exact (by repeat' (first | (with_reducible exact up_refl _) | (with_reducible assumption) | (with_reducible refine up_alloc ?_ _) | (with_reducible refine up_drewN ?_ _) | (with_reducible refine up_drew ?_) | (with_reducible refine up_set ?_ (by first | (simp; done) | (simp; omega) | omega) _) | (refine up_trans ?_ (by with_reducible assumption))))
  have B0 : Bx W0 w.heap.size [.int .i64 kd, .int .i64 le, .int .i64 be, .int .i64 fr, .int .i64 re, .int .i64 wi, .int .i64 he, .int .i64 ma, .int .i64 st, .int .i64 mo, .slice A n cap] := by rw [hW0]; exact bx_new w [.int .i64 kd, .int .i64 le, .int .i64 be, .int .i64 fr, .int .i64 re, .int .i64 wi, .int .i64 he, .int .i64 ma, .int .i64 st, .int .i64 mo, .slice A n cap] 96
  clear hW0
  have c0 := (B0 0 _ rfl).1
  have c1 := (B0 1 _ rfl).1
  have c2 := (B0 2 _ rfl).1
  have c3 := (B0 3 _ rfl).1
  have c4 := (B0 4 _ rfl).1
  have c5 := (B0 5 _ rfl).1
  have c6 := (B0 6 _ rfl).1
  have c7 := (B0 7 _ rfl).1
  have c8 := (B0 8 _ rfl).1
  have c9 := (B0 9 _ rfl).1
  have c10 := (B0 10 _ rfl).1
  go_wp2_with (first | (go_at_call 126; (with_reducible refine (unhide h1 _).mono ?_); rintro e w1 ⟨rfl, rfl⟩) | (go_at_call 126; (with_reducible refine (unhide h2 _).mono ?_); rintro e w2 ⟨rfl, rfl⟩) | (go_at_call 126; (with_reducible refine (unhide h3 _).mono ?_); rintro e w3 ⟨rfl, rfl⟩) | (go_at_call 126; (with_reducible refine (unhide h4 _).mono ?_); rintro e w4 ⟨rfl, rfl⟩) | (go_at_call 126; (with_reducible refine (unhide h5 _).mono ?_); rintro e w5 ⟨rfl, rfl⟩) | (go_at_call 126; (with_reducible refine (unhide h6 _).mono ?_); rintro e w6 ⟨rfl, rfl⟩) | (go_at_call 126; (with_reducible refine (unhide h7 _).mono ?_); rintro e w7 ⟨rfl, rfl⟩) | (go_at_call 126; (with_reducible refine (unhide h8 _).mono ?_); rintro e w8 ⟨rfl, rfl⟩))
  clear c0 c1 c2 c3 c4 c5 c6 c7 c8 c9 c10 h1 h2 h3 h4 h5 h6 h7 h8
  go_loopw [3, 4] (fun p i wr => ∃ (k : Nat) (q : Int), k ≤ n ∧ p = .int .i64 q ∧ i = .int .i64 k ∧ Up W0 wr ∧ Hid (axG L 0 xs = axG L q (xs.drop k))) (fun _ i _ => n - (intOf i).toNat)
  case atStart => exact ⟨0, 0, by omega, rfl, rfl, up_refl _, rfl⟩
  case round =>
    obtain ⟨k, q, hk, rfl, rfl, hu, ho⟩ := hrel
    have B1 := bx_up B0 hu
    have e10 := (B1 10 _ rfl).1
    by_cases hlt : k < n
    · have hl : k < xs.length := by rw [unhide HN]; exact hlt
      rcases axls_up (unhide HA) (up_trans U0 hu) with hnil | ⟨b, off, rfl, hc⟩
      · rw [hnil] at hl; simp at hl
      obtain ⟨d0, d1, d2⟩ := hc k hl
      clear hc
      have HS := hide ((unhide ho).trans (axG_step hl))
      have h1 := hide (fun W => unhide HD xs[k].x q L W)
      have h2 := hide (fun W => unhide HD xs[k].lim 1 1048576 W)
      generalize xs[k].x = x at *
      generalize xs[k].lim = lm at *
      generalize xs[k].wh = wh at *
      generalize win x q L = b1 at *
      generalize win lm 1 1048576 = b2 at *
      have e1 := (B1 1 _ rfl).1
      have e4 := (B1 4 _ rfl).1
      have a1 := fun o => alloc_cell o e1
      have a4 := fun o => alloc_cell o e4
      have hwk : IntKind.i64.wrap ((k : Int) + 1) = (k : Int) + 1 := IntWalk.i64_in _ ⟨by omega, by omega⟩
      clear ho HA
      cases b1
      · have HF := hide (show G = false by rw [← unhide HG, unhide HS]; rfl)
        go_wp2_with (first | (go_at_call 126; (with_reducible refine (unhide h1 _).mono ?_); rintro e v1 ⟨rfl, rfl⟩))
        go_ret
        exact ⟨by first | rfl | (rw [unhide HF]; rfl) | (simp [unhide HF]; done), (by repeat' (first | (with_reducible exact up_refl _) | (with_reducible assumption) | (with_reducible refine up_alloc ?_ _) | (with_reducible refine up_drewN ?_ _) | (with_reducible refine up_drew ?_) | (with_reducible refine up_set ?_ (by first | (simp; done) | (simp; omega) | omega) _) | (refine up_trans ?_ (by with_reducible assumption))))⟩
      cases b2
      · have HF := hide (show G = false by rw [← unhide HG, unhide HS]; rfl)
        go_wp2_with (first | (go_at_call 126; (with_reducible refine (unhide h1 _).mono ?_); rintro e v1 ⟨rfl, rfl⟩) | (go_at_call 126; (with_reducible refine (unhide h2 _).mono ?_); rintro e v2 ⟨rfl, rfl⟩))
        go_ret
        exact ⟨by first | rfl | (rw [unhide HF]; rfl) | (simp [unhide HF]; done), (by repeat' (first | (with_reducible exact up_refl _) | (with_reducible assumption) | (with_reducible refine up_alloc ?_ _) | (with_reducible refine up_drewN ?_ _) | (with_reducible refine up_drew ?_) | (with_reducible refine up_set ?_ (by first | (simp; done) | (simp; omega) | omega) _) | (refine up_trans ?_ (by with_reducible assumption))))⟩
      by_cases w1 : wh < 1
      · have HF := hide (show G = false by rw [← unhide HG, unhide HS, show win wh 1 16 = false by unfold win; rw [decide_eq_false (show ¬ 1 ≤ wh by omega)]; rfl]; rfl)
        go_wp2_with (first | (go_at_call 126; (with_reducible refine (unhide h1 _).mono ?_); rintro e v1 ⟨rfl, rfl⟩) | (go_at_call 126; (with_reducible refine (unhide h2 _).mono ?_); rintro e v2 ⟨rfl, rfl⟩))
        go_ret
        exact ⟨by first | rfl | (rw [unhide HF]; rfl) | (simp [unhide HF]; done), (by repeat' (first | (with_reducible exact up_refl _) | (with_reducible assumption) | (with_reducible refine up_alloc ?_ _) | (with_reducible refine up_drewN ?_ _) | (with_reducible refine up_drew ?_) | (with_reducible refine up_set ?_ (by first | (simp; done) | (simp; omega) | omega) _) | (refine up_trans ?_ (by with_reducible assumption))))⟩
      by_cases w2 : 16 < wh
      · have HF := hide (show G = false by rw [← unhide HG, unhide HS, show win wh 1 16 = false by unfold win; rw [decide_eq_false (show ¬ wh ≤ 16 by omega), Bool.and_false]]; rfl)
        go_wp2_with (first | (go_at_call 126; (with_reducible refine (unhide h1 _).mono ?_); rintro e v1 ⟨rfl, rfl⟩) | (go_at_call 126; (with_reducible refine (unhide h2 _).mono ?_); rintro e v2 ⟨rfl, rfl⟩))
        go_ret
        exact ⟨by first | rfl | (rw [unhide HF]; rfl) | (simp [unhide HF]; done), (by repeat' (first | (with_reducible exact up_refl _) | (with_reducible assumption) | (with_reducible refine up_alloc ?_ _) | (with_reducible refine up_drewN ?_ _) | (with_reducible refine up_drew ?_) | (with_reducible refine up_set ?_ (by first | (simp; done) | (simp; omega) | omega) _) | (refine up_trans ?_ (by with_reducible assumption))))⟩
      · have HT := hide (show axG L 0 xs = axG L x (xs.drop (k + 1)) by rw [unhide HS, show win wh 1 16 = true from (win_iff _ _ _).2 ⟨by omega, by omega⟩]; rfl)
        go_wp2_with (first | (go_at_call 126; (with_reducible refine (unhide h1 _).mono ?_); rintro e v1 ⟨rfl, rfl⟩) | (go_at_call 126; (with_reducible refine (unhide h2 _).mono ?_); rintro e v2 ⟨rfl, rfl⟩))
        go_roundw
        case rel => exact ⟨k + 1, x, by omega, rfl, by first | rfl | trivial | go_num, (by repeat' (first | (with_reducible exact up_refl _) | (with_reducible assumption) | (with_reducible refine up_alloc ?_ _) | (with_reducible refine up_drewN ?_ _) | (with_reducible refine up_drew ?_) | (with_reducible refine up_set ?_ (by first | (simp; done) | (simp; omega) | omega) _) | (refine up_trans ?_ (by with_reducible assumption)))), HT⟩
        case measure => simp [intOf]; omega
    · obtain rfl : k = n := by omega
      have HT := hide (show G = true by rw [← unhide HG, unhide ho, List.drop_of_length_le (by rw [unhide HN]; omega)]; rfl)
      go_wp2_with fail
      go_ret
      exact ⟨by first | rfl | (rw [unhide HT]; rfl), up_trans U0 hu⟩
end Go.Proofs.Ytgfehjhngmabeaa
