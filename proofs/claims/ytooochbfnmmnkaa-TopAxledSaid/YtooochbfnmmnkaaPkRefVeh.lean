/- The document's Check of a vehicle. Vehicles: which ones the document takes. -/
import Derived.Test.YtooochbfnmmnkaaVehC
namespace Go.Proofs.Ytooochbfnmmnkaa
open Go.RowKit Go.Proofs.Gn
set_option maxRecDepth 100000 in
set_option maxHeartbeats 4000000 in
theorem r_NameV (s : ByteArray) (w : World) :
    Calls Try.prog 64 #[.string s] w fun e w' => e = .returned (.bool (nmS s)) ∧ Up w w' := by
  by_cases g1 : (s.size : Int) < 1
  · have hS := hide (show nmS s = false by unfold nmS; rw [decide_eq_false (show ¬ 1 ≤ s.size by omega)]; simp)
    go_enter Try.func64, Try.ntmps64
    go_wp2
    go_ret
    exact ⟨by rw [unhide hS]; rfl, up_refl _⟩
  by_cases g2 : 20 < (s.size : Int)
  · have hS := hide (show nmS s = false by unfold nmS; rw [decide_eq_false (show ¬ s.size ≤ 20 by omega)]; simp)
    go_enter Try.func64, Try.ntmps64
    go_wp2
    go_ret
    exact ⟨by rw [unhide hS]; rfl, up_refl _⟩
  have HG := hide (⟨by omega, by omega⟩ : 1 ≤ s.size ∧ s.size ≤ 20)
  go_enter Try.func64, Try.ntmps64
  go_wp2
  go_loopw [3] (fun i wr => ∃ pos : Nat, i = .int .i64 pos ∧ wr = w ∧ pos ≤ s.size ∧ ∀ i (h : i < s.size), i < pos → nbB (s[i]'h).toNat = true) (fun i _ => s.size - (intOf i).toNat)
  case atStart => exact ⟨0, rfl, rfl, by omega, fun i h hi => by omega⟩
  case round =>
    obtain ⟨pos, rfl, rfl, hle, ha⟩ := hrel
    have HA := hide ha
    clear ha
    by_cases hp : pos < s.size
    · obtain ⟨n, hn⟩ : ∃ n, (s[pos]'hp).toNat = n := ⟨_, rfl⟩
      have HN := hide hn
      have hp' : (pos : Int) < s.size := by omega
      have hp0 : 0 ≤ (pos : Int) := by omega
      have HB := hide (show (s.size : Int) ≤ 20 by omega)
      have hw : IntKind.i64.wrap (↑pos + 1) = ((pos + 1 : Nat) : Int) := by rw [IntWalk.i64_in _ ⟨by omega, by omega⟩]; omega
      clear g1 g2
      rcases nb_cases n with ⟨hb, ⟨h1, h2⟩ | ⟨h1, h2, h3⟩⟩ | ⟨hb, ⟨h1, h2⟩ | ⟨h1, h2, h3⟩ | ⟨h1, h2⟩⟩
      · have e1 : 97 ≤ (n : Int) := by omega
        have e2 : (n : Int) ≤ 122 := by omega
        clear h1 h2
        go_wp2
        go_roundw
        case rel => exact ⟨pos + 1, by first | rfl | trivial, by first | rfl | trivial, by omega, nm_next hp (unhide HA) (by rw [unhide HN]; exact hb)⟩
        case measure => simp [intOf]; omega
      · have e1 : ¬ 97 ≤ (n : Int) := by omega
        have e2 : 48 ≤ (n : Int) := by omega
        have e3 : (n : Int) ≤ 57 := by omega
        clear h1 h2 h3
        go_wp2
        go_roundw
        case rel => exact ⟨pos + 1, by first | rfl | trivial, by first | rfl | trivial, by omega, nm_next hp (unhide HA) (by rw [unhide HN]; exact hb)⟩
        case measure => simp [intOf]; omega
      · have e1 : ¬ 97 ≤ (n : Int) := by omega
        have e2 : ¬ 48 ≤ (n : Int) := by omega
        clear h1 h2
        go_wp2
        go_ret
        exact ⟨by rw [nmS_bad hp (by rw [unhide HN]; exact hb)]; rfl, up_refl _⟩
      · have e1 : ¬ 97 ≤ (n : Int) := by omega
        have e2 : 48 ≤ (n : Int) := by omega
        have e3 : ¬ (n : Int) ≤ 57 := by omega
        clear h1 h2 h3
        go_wp2
        go_ret
        exact ⟨by rw [nmS_bad hp (by rw [unhide HN]; exact hb)]; rfl, up_refl _⟩
      · have e1 : 97 ≤ (n : Int) := by omega
        have e2 : ¬ (n : Int) ≤ 122 := by omega
        have e3 : 48 ≤ (n : Int) := by omega
        have e4 : ¬ (n : Int) ≤ 57 := by omega
        clear h1 h2
        go_wp2
        go_ret
        exact ⟨by rw [nmS_bad hp (by rw [unhide HN]; exact hb)]; rfl, up_refl _⟩
    · have HS := hide (nmS_all (s := s) fun i h => unhide HA i h (by omega))
      clear HA
      have h1 : ¬ (pos : Int) < s.size := by omega
      go_wp2
      go_ret
      exact ⟨by rw [unhide HS, decide_eq_true (unhide HG).1, decide_eq_true (unhide HG).2]; rfl, up_refl _⟩
theorem r_inV (n a b : Int) (w : World) :
    Calls Try.prog 92 #[.int .i64 n, .int .i64 a, .int .i64 b] w fun e w' => e = .returned (.bool (win n a b)) ∧ w = w' := by
  unfold win
  go_enter Try.func92, Try.ntmps92
  go_wp2
  · go_ret
    have h : a ≤ n := by assumption
    exact ⟨ret_bool (by simp [h]), rfl⟩
  · go_ret
    exact ⟨ret_bool (by simp; omega), rfl⟩
set_option maxRecDepth 100000 in
set_option maxHeartbeats 8000000 in
theorem r_unit (kd le be fr re wi he ma st mo : Int) (A : Option Addr) (xs : List Axl) (cap : Nat) (w : World) (h : Axls w A xs) (hn : xs.length ≤ 9223372036854775807) :
    Calls Try.prog 65 #[uV kd le be fr re wi he ma st mo A xs.length cap] w fun e w' => e = .returned (.bool (szU kd le be fr re wi he ma st mo && axU le re xs)) ∧ Up w w' := by
  have HA := hide h
  have HD := hide (fun n a b W => r_inV n a b W)
  clear h
  unfold szU axU
  obtain ⟨G, hG⟩ : ∃ G, axG (le + re) 0 xs = G := ⟨_, rfl⟩
  rw [hG]
  have HG := hide hG
  clear hG
  obtain ⟨n, hN⟩ : ∃ n, xs.length = n := ⟨_, rfl⟩
  rw [hN] at hn ⊢
  have HN := hide hN
  clear hN
  have h1 := hide (fun W => r_inV le 100 131072 W)
  have h2 := hide (fun W => r_inV be (-le) 131072 W)
  have h3 := hide (fun W => r_inV fr 0 131072 W)
  have h4 := hide (fun W => r_inV re 0 131072 W)
  have h5 := hide (fun W => r_inV wi 0 131072 W)
  have h6 := hide (fun W => r_inV he 0 131072 W)
  have h7 := hide (fun W => r_inV ma 1 1048576 W)
  have h8 := hide (fun W => r_inV st 0 900 W)
  have HL := hide (fun h : win le 100 131072 = true => (win_iff le 100 131072).1 h)
  have HRe := hide (fun h : win re 0 131072 = true => (win_iff re 0 131072).1 h)
  generalize win le 100 131072 = b1 at *
  generalize win be (-le) 131072 = b2 at *
  generalize win fr 0 131072 = b3 at *
  generalize win re 0 131072 = b4 at *
  generalize win wi 0 131072 = b5 at *
  generalize win he 0 131072 = b6 at *
  generalize win ma 1 1048576 = b7 at *
  generalize win st 0 900 = b8 at *
  by_cases k1 : kd < 0
  · have hw : win kd 0 3 = false := by unfold win; rw [decide_eq_false (show ¬ 0 ≤ kd by omega)]; rfl
    rw [hw]
    clear hw
    go_enter Try.func65, Try.ntmps65
    go_wp2_with fail
    go_ret
    exact ⟨by first | rfl | (simp; done) | simp [*], (by repeat' (first | (with_reducible exact up_refl _) | (with_reducible assumption) | (with_reducible refine up_alloc ?_ _) | (with_reducible refine up_drewN ?_ _) | (with_reducible refine up_drew ?_) | (with_reducible refine up_set ?_ (by first | (simp; done) | (simp; omega) | omega) _) | (refine up_trans ?_ (by with_reducible assumption))))⟩
  by_cases k2 : 3 < kd
  · have hw : win kd 0 3 = false := by unfold win; rw [decide_eq_false (show ¬ kd ≤ 3 by omega), Bool.and_false]
    rw [hw]
    clear hw
    go_enter Try.func65, Try.ntmps65
    go_wp2_with fail
    go_ret
    exact ⟨by first | rfl | (simp; done) | simp [*], (by repeat' (first | (with_reducible exact up_refl _) | (with_reducible assumption) | (with_reducible refine up_alloc ?_ _) | (with_reducible refine up_drewN ?_ _) | (with_reducible refine up_drew ?_) | (with_reducible refine up_set ?_ (by first | (simp; done) | (simp; omega) | omega) _) | (refine up_trans ?_ (by with_reducible assumption))))⟩
  rw [show win kd 0 3 = true from (win_iff _ _ _).2 ⟨by omega, by omega⟩]
  have K1 : decide (kd < 0) = false := decide_eq_false k1
  have K2 : decide (3 < kd) = false := decide_eq_false k2
  cases b1
  · go_enter Try.func65, Try.ntmps65
    go_wp2_with (first | (go_at_call 92; (with_reducible refine (unhide h1 _).mono ?_); rintro e w1 ⟨rfl, rfl⟩))
    go_ret
    exact ⟨by first | rfl | (simp; done) | simp [*], (by repeat' (first | (with_reducible exact up_refl _) | (with_reducible assumption) | (with_reducible refine up_alloc ?_ _) | (with_reducible refine up_drewN ?_ _) | (with_reducible refine up_drew ?_) | (with_reducible refine up_set ?_ (by first | (simp; done) | (simp; omega) | omega) _) | (refine up_trans ?_ (by with_reducible assumption))))⟩
  have hl := unhide HL rfl
  have hneg : IntKind.i64.wrap (-le) = -le := IntWalk.i64_in _ ⟨by omega, by omega⟩
  cases b2
  · go_enter Try.func65, Try.ntmps65
    go_wp2_with (first | (go_at_call 92; (with_reducible refine (unhide h1 _).mono ?_); rintro e w1 ⟨rfl, rfl⟩) | (go_at_call 92; (with_reducible refine (unhide h2 _).mono ?_); rintro e w2 ⟨rfl, rfl⟩))
    go_ret
    exact ⟨by first | rfl | (simp; done) | simp [*], (by repeat' (first | (with_reducible exact up_refl _) | (with_reducible assumption) | (with_reducible refine up_alloc ?_ _) | (with_reducible refine up_drewN ?_ _) | (with_reducible refine up_drew ?_) | (with_reducible refine up_set ?_ (by first | (simp; done) | (simp; omega) | omega) _) | (refine up_trans ?_ (by with_reducible assumption))))⟩
  cases b3
  · go_enter Try.func65, Try.ntmps65
    go_wp2_with (first | (go_at_call 92; (with_reducible refine (unhide h1 _).mono ?_); rintro e w1 ⟨rfl, rfl⟩) | (go_at_call 92; (with_reducible refine (unhide h2 _).mono ?_); rintro e w2 ⟨rfl, rfl⟩) | (go_at_call 92; (with_reducible refine (unhide h3 _).mono ?_); rintro e w3 ⟨rfl, rfl⟩))
    go_ret
    exact ⟨by first | rfl | (simp; done) | simp [*], (by repeat' (first | (with_reducible exact up_refl _) | (with_reducible assumption) | (with_reducible refine up_alloc ?_ _) | (with_reducible refine up_drewN ?_ _) | (with_reducible refine up_drew ?_) | (with_reducible refine up_set ?_ (by first | (simp; done) | (simp; omega) | omega) _) | (refine up_trans ?_ (by with_reducible assumption))))⟩
  cases b4
  · go_enter Try.func65, Try.ntmps65
    go_wp2_with (first | (go_at_call 92; (with_reducible refine (unhide h1 _).mono ?_); rintro e w1 ⟨rfl, rfl⟩) | (go_at_call 92; (with_reducible refine (unhide h2 _).mono ?_); rintro e w2 ⟨rfl, rfl⟩) | (go_at_call 92; (with_reducible refine (unhide h3 _).mono ?_); rintro e w3 ⟨rfl, rfl⟩) | (go_at_call 92; (with_reducible refine (unhide h4 _).mono ?_); rintro e w4 ⟨rfl, rfl⟩))
    go_ret
    exact ⟨by first | rfl | (simp; done) | simp [*], (by repeat' (first | (with_reducible exact up_refl _) | (with_reducible assumption) | (with_reducible refine up_alloc ?_ _) | (with_reducible refine up_drewN ?_ _) | (with_reducible refine up_drew ?_) | (with_reducible refine up_set ?_ (by first | (simp; done) | (simp; omega) | omega) _) | (refine up_trans ?_ (by with_reducible assumption))))⟩
  have hre := unhide HRe rfl
  cases b5
  · go_enter Try.func65, Try.ntmps65
    go_wp2_with (first | (go_at_call 92; (with_reducible refine (unhide h1 _).mono ?_); rintro e w1 ⟨rfl, rfl⟩) | (go_at_call 92; (with_reducible refine (unhide h2 _).mono ?_); rintro e w2 ⟨rfl, rfl⟩) | (go_at_call 92; (with_reducible refine (unhide h3 _).mono ?_); rintro e w3 ⟨rfl, rfl⟩) | (go_at_call 92; (with_reducible refine (unhide h4 _).mono ?_); rintro e w4 ⟨rfl, rfl⟩) | (go_at_call 92; (with_reducible refine (unhide h5 _).mono ?_); rintro e w5 ⟨rfl, rfl⟩))
    go_ret
    exact ⟨by first | rfl | (simp; done) | simp [*], (by repeat' (first | (with_reducible exact up_refl _) | (with_reducible assumption) | (with_reducible refine up_alloc ?_ _) | (with_reducible refine up_drewN ?_ _) | (with_reducible refine up_drew ?_) | (with_reducible refine up_set ?_ (by first | (simp; done) | (simp; omega) | omega) _) | (refine up_trans ?_ (by with_reducible assumption))))⟩
  cases b6
  · go_enter Try.func65, Try.ntmps65
    go_wp2_with (first | (go_at_call 92; (with_reducible refine (unhide h1 _).mono ?_); rintro e w1 ⟨rfl, rfl⟩) | (go_at_call 92; (with_reducible refine (unhide h2 _).mono ?_); rintro e w2 ⟨rfl, rfl⟩) | (go_at_call 92; (with_reducible refine (unhide h3 _).mono ?_); rintro e w3 ⟨rfl, rfl⟩) | (go_at_call 92; (with_reducible refine (unhide h4 _).mono ?_); rintro e w4 ⟨rfl, rfl⟩) | (go_at_call 92; (with_reducible refine (unhide h5 _).mono ?_); rintro e w5 ⟨rfl, rfl⟩) | (go_at_call 92; (with_reducible refine (unhide h6 _).mono ?_); rintro e w6 ⟨rfl, rfl⟩))
    go_ret
    exact ⟨by first | rfl | (simp; done) | simp [*], (by repeat' (first | (with_reducible exact up_refl _) | (with_reducible assumption) | (with_reducible refine up_alloc ?_ _) | (with_reducible refine up_drewN ?_ _) | (with_reducible refine up_drew ?_) | (with_reducible refine up_set ?_ (by first | (simp; done) | (simp; omega) | omega) _) | (refine up_trans ?_ (by with_reducible assumption))))⟩
  cases b7
  · go_enter Try.func65, Try.ntmps65
    go_wp2_with (first | (go_at_call 92; (with_reducible refine (unhide h1 _).mono ?_); rintro e w1 ⟨rfl, rfl⟩) | (go_at_call 92; (with_reducible refine (unhide h2 _).mono ?_); rintro e w2 ⟨rfl, rfl⟩) | (go_at_call 92; (with_reducible refine (unhide h3 _).mono ?_); rintro e w3 ⟨rfl, rfl⟩) | (go_at_call 92; (with_reducible refine (unhide h4 _).mono ?_); rintro e w4 ⟨rfl, rfl⟩) | (go_at_call 92; (with_reducible refine (unhide h5 _).mono ?_); rintro e w5 ⟨rfl, rfl⟩) | (go_at_call 92; (with_reducible refine (unhide h6 _).mono ?_); rintro e w6 ⟨rfl, rfl⟩) | (go_at_call 92; (with_reducible refine (unhide h7 _).mono ?_); rintro e w7 ⟨rfl, rfl⟩))
    go_ret
    exact ⟨by first | rfl | (simp; done) | simp [*], (by repeat' (first | (with_reducible exact up_refl _) | (with_reducible assumption) | (with_reducible refine up_alloc ?_ _) | (with_reducible refine up_drewN ?_ _) | (with_reducible refine up_drew ?_) | (with_reducible refine up_set ?_ (by first | (simp; done) | (simp; omega) | omega) _) | (refine up_trans ?_ (by with_reducible assumption))))⟩
  cases b8
  · go_enter Try.func65, Try.ntmps65
    go_wp2_with (first | (go_at_call 92; (with_reducible refine (unhide h1 _).mono ?_); rintro e w1 ⟨rfl, rfl⟩) | (go_at_call 92; (with_reducible refine (unhide h2 _).mono ?_); rintro e w2 ⟨rfl, rfl⟩) | (go_at_call 92; (with_reducible refine (unhide h3 _).mono ?_); rintro e w3 ⟨rfl, rfl⟩) | (go_at_call 92; (with_reducible refine (unhide h4 _).mono ?_); rintro e w4 ⟨rfl, rfl⟩) | (go_at_call 92; (with_reducible refine (unhide h5 _).mono ?_); rintro e w5 ⟨rfl, rfl⟩) | (go_at_call 92; (with_reducible refine (unhide h6 _).mono ?_); rintro e w6 ⟨rfl, rfl⟩) | (go_at_call 92; (with_reducible refine (unhide h7 _).mono ?_); rintro e w7 ⟨rfl, rfl⟩) | (go_at_call 92; (with_reducible refine (unhide h8 _).mono ?_); rintro e w8 ⟨rfl, rfl⟩))
    go_ret
    exact ⟨by first | rfl | (simp; done) | simp [*], (by repeat' (first | (with_reducible exact up_refl _) | (with_reducible assumption) | (with_reducible refine up_alloc ?_ _) | (with_reducible refine up_drewN ?_ _) | (with_reducible refine up_drew ?_) | (with_reducible refine up_set ?_ (by first | (simp; done) | (simp; omega) | omega) _) | (refine up_trans ?_ (by with_reducible assumption))))⟩
  by_cases m1 : mo < 0
  · have hw : win mo 0 40 = false := by unfold win; rw [decide_eq_false (show ¬ 0 ≤ mo by omega)]; rfl
    rw [hw]
    clear hw
    go_enter Try.func65, Try.ntmps65
    go_wp2_with (first | (go_at_call 92; (with_reducible refine (unhide h1 _).mono ?_); rintro e w1 ⟨rfl, rfl⟩) | (go_at_call 92; (with_reducible refine (unhide h2 _).mono ?_); rintro e w2 ⟨rfl, rfl⟩) | (go_at_call 92; (with_reducible refine (unhide h3 _).mono ?_); rintro e w3 ⟨rfl, rfl⟩) | (go_at_call 92; (with_reducible refine (unhide h4 _).mono ?_); rintro e w4 ⟨rfl, rfl⟩) | (go_at_call 92; (with_reducible refine (unhide h5 _).mono ?_); rintro e w5 ⟨rfl, rfl⟩) | (go_at_call 92; (with_reducible refine (unhide h6 _).mono ?_); rintro e w6 ⟨rfl, rfl⟩) | (go_at_call 92; (with_reducible refine (unhide h7 _).mono ?_); rintro e w7 ⟨rfl, rfl⟩) | (go_at_call 92; (with_reducible refine (unhide h8 _).mono ?_); rintro e w8 ⟨rfl, rfl⟩))
    go_ret
    exact ⟨by first | rfl | (simp; done) | simp [*], (by repeat' (first | (with_reducible exact up_refl _) | (with_reducible assumption) | (with_reducible refine up_alloc ?_ _) | (with_reducible refine up_drewN ?_ _) | (with_reducible refine up_drew ?_) | (with_reducible refine up_set ?_ (by first | (simp; done) | (simp; omega) | omega) _) | (refine up_trans ?_ (by with_reducible assumption))))⟩
  by_cases m2 : 40 < mo
  · have hw : win mo 0 40 = false := by unfold win; rw [decide_eq_false (show ¬ mo ≤ 40 by omega), Bool.and_false]
    rw [hw]
    clear hw
    go_enter Try.func65, Try.ntmps65
    go_wp2_with (first | (go_at_call 92; (with_reducible refine (unhide h1 _).mono ?_); rintro e w1 ⟨rfl, rfl⟩) | (go_at_call 92; (with_reducible refine (unhide h2 _).mono ?_); rintro e w2 ⟨rfl, rfl⟩) | (go_at_call 92; (with_reducible refine (unhide h3 _).mono ?_); rintro e w3 ⟨rfl, rfl⟩) | (go_at_call 92; (with_reducible refine (unhide h4 _).mono ?_); rintro e w4 ⟨rfl, rfl⟩) | (go_at_call 92; (with_reducible refine (unhide h5 _).mono ?_); rintro e w5 ⟨rfl, rfl⟩) | (go_at_call 92; (with_reducible refine (unhide h6 _).mono ?_); rintro e w6 ⟨rfl, rfl⟩) | (go_at_call 92; (with_reducible refine (unhide h7 _).mono ?_); rintro e w7 ⟨rfl, rfl⟩) | (go_at_call 92; (with_reducible refine (unhide h8 _).mono ?_); rintro e w8 ⟨rfl, rfl⟩))
    go_ret
    exact ⟨by first | rfl | (simp; done) | simp [*], (by repeat' (first | (with_reducible exact up_refl _) | (with_reducible assumption) | (with_reducible refine up_alloc ?_ _) | (with_reducible refine up_drewN ?_ _) | (with_reducible refine up_drew ?_) | (with_reducible refine up_set ?_ (by first | (simp; done) | (simp; omega) | omega) _) | (refine up_trans ?_ (by with_reducible assumption))))⟩
  rw [show win mo 0 40 = true from (win_iff _ _ _).2 ⟨by omega, by omega⟩]
  have M1 : decide (mo < 0) = false := decide_eq_false m1
  have M2 : decide (40 < mo) = false := decide_eq_false m2
  by_cases z : (n : Int) < 1
  · have HZ : decide (0 < n) = false := decide_eq_false (by omega)
    rw [HZ, Bool.and_false]
    clear HZ
    go_enter Try.func65, Try.ntmps65
    go_wp2_with (first | (go_at_call 92; (with_reducible refine (unhide h1 _).mono ?_); rintro e w1 ⟨rfl, rfl⟩) | (go_at_call 92; (with_reducible refine (unhide h2 _).mono ?_); rintro e w2 ⟨rfl, rfl⟩) | (go_at_call 92; (with_reducible refine (unhide h3 _).mono ?_); rintro e w3 ⟨rfl, rfl⟩) | (go_at_call 92; (with_reducible refine (unhide h4 _).mono ?_); rintro e w4 ⟨rfl, rfl⟩) | (go_at_call 92; (with_reducible refine (unhide h5 _).mono ?_); rintro e w5 ⟨rfl, rfl⟩) | (go_at_call 92; (with_reducible refine (unhide h6 _).mono ?_); rintro e w6 ⟨rfl, rfl⟩) | (go_at_call 92; (with_reducible refine (unhide h7 _).mono ?_); rintro e w7 ⟨rfl, rfl⟩) | (go_at_call 92; (with_reducible refine (unhide h8 _).mono ?_); rintro e w8 ⟨rfl, rfl⟩))
    go_ret
    exact ⟨by first | rfl | (simp; done) | simp [*], (by repeat' (first | (with_reducible exact up_refl _) | (with_reducible assumption) | (with_reducible refine up_alloc ?_ _) | (with_reducible refine up_drewN ?_ _) | (with_reducible refine up_drew ?_) | (with_reducible refine up_set ?_ (by first | (simp; done) | (simp; omega) | omega) _) | (refine up_trans ?_ (by with_reducible assumption))))⟩
  have Z1 : decide ((n : Int) < 1) = false := decide_eq_false z
  have HZ := hide (show decide (0 < n) = true from decide_eq_true (by omega))
  rw [unhide HZ]
  have hw0 : IntKind.i64.wrap (le + re) = le + re := IntWalk.i64_in _ ⟨by omega, by omega⟩
  clear hl hre HL HRe
  obtain ⟨L, hL⟩ : ∃ L, le + re = L := ⟨_, rfl⟩
  rw [hL] at HG hw0
  have hw1 : IntKind.i64.wrap (le + re) = L := by rw [hL]; exact hw0
  clear hL hw0
  go_enter Try.func65, Try.ntmps65
  go_upto_region 1 with fail
  refine at_wp (fun W0 hW0 => ?_)
  have U0 : Up w W0 := by rw [hW0]; exact (by repeat' (first | (with_reducible exact up_refl _) | (with_reducible assumption) | (with_reducible refine up_alloc ?_ _) | (with_reducible refine up_drewN ?_ _) | (with_reducible refine up_drew ?_) | (with_reducible refine up_set ?_ (by first | (simp; done) | (simp; omega) | omega) _) | (refine up_trans ?_ (by with_reducible assumption))))
  have B0 : Bx W0 w.heap.size [.int .i64 kd, .int .i64 le, .int .i64 be, .int .i64 fr, .int .i64 re, .int .i64 wi, .int .i64 he, .int .i64 ma, .int .i64 st, .int .i64 mo, .slice A n cap] := by rw [hW0]; exact bx_new w [.int .i64 kd, .int .i64 le, .int .i64 be, .int .i64 fr, .int .i64 re, .int .i64 wi, .int .i64 he, .int .i64 ma, .int .i64 st, .int .i64 mo, .slice A n cap] 44
  clear hW0
  have c0 := (B0 0 _ rfl).1
  have c1 := (B0 1 _ rfl).1
  have c2 := (B0 2 _ rfl).1
  have c3 := (B0 3 _ rfl).1
  have c4 := (B0 4 _ rfl).1
  have c5 := (B0 5 _ rfl).1
  have c6 := (B0 6 _ rfl).1
  have c7 := (B0 7 _ rfl).1
  have c8 := (B0 8 _ rfl).1
  have c9 := (B0 9 _ rfl).1
  have c10 := (B0 10 _ rfl).1
  go_wp2_with (first | (go_at_call 92; (with_reducible refine (unhide h1 _).mono ?_); rintro e w1 ⟨rfl, rfl⟩) | (go_at_call 92; (with_reducible refine (unhide h2 _).mono ?_); rintro e w2 ⟨rfl, rfl⟩) | (go_at_call 92; (with_reducible refine (unhide h3 _).mono ?_); rintro e w3 ⟨rfl, rfl⟩) | (go_at_call 92; (with_reducible refine (unhide h4 _).mono ?_); rintro e w4 ⟨rfl, rfl⟩) | (go_at_call 92; (with_reducible refine (unhide h5 _).mono ?_); rintro e w5 ⟨rfl, rfl⟩) | (go_at_call 92; (with_reducible refine (unhide h6 _).mono ?_); rintro e w6 ⟨rfl, rfl⟩) | (go_at_call 92; (with_reducible refine (unhide h7 _).mono ?_); rintro e w7 ⟨rfl, rfl⟩) | (go_at_call 92; (with_reducible refine (unhide h8 _).mono ?_); rintro e w8 ⟨rfl, rfl⟩))
  clear c0 c1 c2 c3 c4 c5 c6 c7 c8 c9 c10 h1 h2 h3 h4 h5 h6 h7 h8
  go_loopw [3, 4] (fun p i wr => ∃ (k : Nat) (q : Int), k ≤ n ∧ p = .int .i64 q ∧ i = .int .i64 k ∧ Up W0 wr ∧ Hid (axG L 0 xs = axG L q (xs.drop k))) (fun _ i _ => n - (intOf i).toNat)
  case atStart => exact ⟨0, 0, by omega, rfl, rfl, up_refl _, rfl⟩
  case round =>
    obtain ⟨k, q, hk, rfl, rfl, hu, ho⟩ := hrel
    have B1 := bx_up B0 hu
    have e10 := (B1 10 _ rfl).1
    by_cases hlt : k < n
    · have hl : k < xs.length := by rw [unhide HN]; exact hlt
      rcases axls_up (unhide HA) (up_trans U0 hu) with hnil | ⟨b, off, rfl, hc⟩
      · rw [hnil] at hl; simp at hl
      obtain ⟨d0, d1, d2⟩ := hc k hl
      clear hc
      have HS := hide ((unhide ho).trans (axG_step hl))
      have h1 := hide (fun W => unhide HD xs[k].x q L W)
      have h2 := hide (fun W => unhide HD xs[k].lim 1 1048576 W)
      generalize xs[k].x = x at *
      generalize xs[k].lim = lm at *
      generalize xs[k].wh = wh at *
      generalize win x q L = b1 at *
      generalize win lm 1 1048576 = b2 at *
      have e1 := (B1 1 _ rfl).1
      have e4 := (B1 4 _ rfl).1
      have a1 := fun o => alloc_cell o e1
      have a4 := fun o => alloc_cell o e4
      have hwk : IntKind.i64.wrap ((k : Int) + 1) = (k : Int) + 1 := IntWalk.i64_in _ ⟨by omega, by omega⟩
      clear ho HA
      cases b1
      · have HF := hide (show G = false by rw [← unhide HG, unhide HS]; rfl)
        go_wp2_with (first | (go_at_call 92; (with_reducible refine (unhide h1 _).mono ?_); rintro e v1 ⟨rfl, rfl⟩))
        go_ret
        exact ⟨by first | rfl | (rw [unhide HF]; rfl) | (simp [unhide HF]; done), (by repeat' (first | (with_reducible exact up_refl _) | (with_reducible assumption) | (with_reducible refine up_alloc ?_ _) | (with_reducible refine up_drewN ?_ _) | (with_reducible refine up_drew ?_) | (with_reducible refine up_set ?_ (by first | (simp; done) | (simp; omega) | omega) _) | (refine up_trans ?_ (by with_reducible assumption))))⟩
      cases b2
      · have HF := hide (show G = false by rw [← unhide HG, unhide HS]; rfl)
        go_wp2_with (first | (go_at_call 92; (with_reducible refine (unhide h1 _).mono ?_); rintro e v1 ⟨rfl, rfl⟩) | (go_at_call 92; (with_reducible refine (unhide h2 _).mono ?_); rintro e v2 ⟨rfl, rfl⟩))
        go_ret
        exact ⟨by first | rfl | (rw [unhide HF]; rfl) | (simp [unhide HF]; done), (by repeat' (first | (with_reducible exact up_refl _) | (with_reducible assumption) | (with_reducible refine up_alloc ?_ _) | (with_reducible refine up_drewN ?_ _) | (with_reducible refine up_drew ?_) | (with_reducible refine up_set ?_ (by first | (simp; done) | (simp; omega) | omega) _) | (refine up_trans ?_ (by with_reducible assumption))))⟩
      by_cases w1 : wh < 1
      · have HF := hide (show G = false by rw [← unhide HG, unhide HS, show win wh 1 16 = false by unfold win; rw [decide_eq_false (show ¬ 1 ≤ wh by omega)]; rfl]; rfl)
        go_wp2_with (first | (go_at_call 92; (with_reducible refine (unhide h1 _).mono ?_); rintro e v1 ⟨rfl, rfl⟩) | (go_at_call 92; (with_reducible refine (unhide h2 _).mono ?_); rintro e v2 ⟨rfl, rfl⟩))
        go_ret
        exact ⟨by first | rfl | (rw [unhide HF]; rfl) | (simp [unhide HF]; done), (by repeat' (first | (with_reducible exact up_refl _) | (with_reducible assumption) | (with_reducible refine up_alloc ?_ _) | (with_reducible refine up_drewN ?_ _) | (with_reducible refine up_drew ?_) | (with_reducible refine up_set ?_ (by first | (simp; done) | (simp; omega) | omega) _) | (refine up_trans ?_ (by with_reducible assumption))))⟩
      by_cases w2 : 16 < wh
      · have HF := hide (show G = false by rw [← unhide HG, unhide HS, show win wh 1 16 = false by unfold win; rw [decide_eq_false (show ¬ wh ≤ 16 by omega), Bool.and_false]]; rfl)
        go_wp2_with (first | (go_at_call 92; (with_reducible refine (unhide h1 _).mono ?_); rintro e v1 ⟨rfl, rfl⟩) | (go_at_call 92; (with_reducible refine (unhide h2 _).mono ?_); rintro e v2 ⟨rfl, rfl⟩))
        go_ret
        exact ⟨by first | rfl | (rw [unhide HF]; rfl) | (simp [unhide HF]; done), (by repeat' (first | (with_reducible exact up_refl _) | (with_reducible assumption) | (with_reducible refine up_alloc ?_ _) | (with_reducible refine up_drewN ?_ _) | (with_reducible refine up_drew ?_) | (with_reducible refine up_set ?_ (by first | (simp; done) | (simp; omega) | omega) _) | (refine up_trans ?_ (by with_reducible assumption))))⟩
      · have HT := hide (show axG L 0 xs = axG L x (xs.drop (k + 1)) by rw [unhide HS, show win wh 1 16 = true from (win_iff _ _ _).2 ⟨by omega, by omega⟩]; rfl)
        go_wp2_with (first | (go_at_call 92; (with_reducible refine (unhide h1 _).mono ?_); rintro e v1 ⟨rfl, rfl⟩) | (go_at_call 92; (with_reducible refine (unhide h2 _).mono ?_); rintro e v2 ⟨rfl, rfl⟩))
        go_roundw
        case rel => exact ⟨k + 1, x, by omega, rfl, by first | rfl | trivial | go_num, (by repeat' (first | (with_reducible exact up_refl _) | (with_reducible assumption) | (with_reducible refine up_alloc ?_ _) | (with_reducible refine up_drewN ?_ _) | (with_reducible refine up_drew ?_) | (with_reducible refine up_set ?_ (by first | (simp; done) | (simp; omega) | omega) _) | (refine up_trans ?_ (by with_reducible assumption)))), HT⟩
        case measure => simp [intOf]; omega
    · obtain rfl : k = n := by omega
      have HT := hide (show G = true by rw [← unhide HG, unhide ho, List.drop_of_length_le (by rw [unhide HN]; omega)]; rfl)
      go_wp2_with fail
      go_ret
      exact ⟨by first | rfl | (rw [unhide HT]; rfl), up_trans U0 hu⟩
end Go.Proofs.Ytooochbfnmmnkaa
namespace Go.Proofs.Ytooochbfnmmnkaa
open Go.RowKit Go.Proofs.Gn
theorem ve6 {s : ByteArray} {us : List Unt} {f t : Int} (h : tmV us = true) : veE s us f t = 6 := by unfold veE; rw [if_pos h]
theorem ve2 {s : ByteArray} {us : List Unt} {f t : Int} (h0 : tmV us = false) (h : nmS s = false ∨ auV us = false ∨ win f 0 t = false ∨ decide (t < (us.length : Int)) = false) : veE s us f t = 2 := by
  unfold veE
  rw [if_neg (by rw [h0]; simp), if_neg]
  intro hh
  simp only [Bool.and_eq_true] at hh
  rcases h with h | h | h | h <;> simp_all
theorem ve0 {s : ByteArray} {us : List Unt} {f t : Int} (h0 : tmV us = false) (h1 : nmS s = true) (h2 : auV us = true) (h3 : win f 0 t = true) (h4 : decide (t < (us.length : Int)) = true) : veE s us f t = 0 := by
  unfold veE
  rw [if_neg (by rw [h0]; simp), if_pos (by rw [h1, h2, h3, h4]; rfl)]
theorem au_no {us : List Unt} (h : us.all okU = false ∨ ¬ 0 < us.length ∨ ¬ hdK us = 0) : auV us = false := by
  unfold auV
  rcases h with h | h | h <;> simp [h]
set_option maxRecDepth 100000 in
set_option maxHeartbeats 16000000 in
theorem r_CheckV (s : ByteArray) (A : Option Addr) (us : List Unt) (cap : Nat) (f t : Int) (w : World) (h : Unts w A us) (hn : us.length ≤ 9223372036854775807) :
    Calls Try.prog 38 #[veV s A us.length cap f t] w fun e w' => e = .returned (.int .i64 (veE s us f t)) ∧ Up w w' := by
  have HE6 := hide (ve6 (s := s) (us := us) (f := f) (t := t))
  have HE2 := hide (ve2 (s := s) (us := us) (f := f) (t := t))
  have HE0 := hide (ve0 (s := s) (us := us) (f := f) (t := t))
  have HN := hide (fun W => r_NameV s W)
  have HA := hide h
  clear h
  generalize veE s us f t = E at *
  generalize nmS s = q1 at *
  obtain ⟨n, hN⟩ : ∃ n, us.length = n := ⟨_, rfl⟩
  rw [hN] at hn HE2 HE0 ⊢
  have HL := hide hN
  clear hN
  by_cases g1 : (12 : Int) < n
  · have HF := hide (unhide HE6 (by unfold tmV; rw [unhide HL, decide_eq_true (show 12 < n by omega)]; rfl))
    clear HE6 HE2 HE0
    go_enter Try.func38, Try.ntmps38
    go_wp2_with fail
    go_ret
    exact ⟨by rw [unhide HF]; rfl, (by repeat' (first | (with_reducible exact up_refl _) | (with_reducible assumption) | (with_reducible refine up_alloc ?_ _) | (with_reducible refine up_drewN ?_ _) | (with_reducible refine up_drew ?_) | (with_reducible refine up_set ?_ (by first | (simp; done) | (simp; omega) | omega) _) | (refine up_trans ?_ (by with_reducible assumption))))⟩
  have G1 := hide (show decide (12 < n) = false from decide_eq_false (by omega))
  go_enter Try.func38, Try.ntmps38
  go_upto_region 1 with fail
  refine at_wp (fun W0 hW0 => ?_)
  have U0 : Up w W0 := by rw [hW0]; exact (by repeat' (first | (with_reducible exact up_refl _) | (with_reducible assumption) | (with_reducible refine up_alloc ?_ _) | (with_reducible refine up_drewN ?_ _) | (with_reducible refine up_drew ?_) | (with_reducible refine up_set ?_ (by first | (simp; done) | (simp; omega) | omega) _) | (refine up_trans ?_ (by with_reducible assumption))))
  have B0 : Bx W0 w.heap.size [.string s, .slice A n cap, .int .i64 f, .int .i64 t] := by rw [hW0]; exact bx_new w _ 26
  clear hW0
  have c1 := (B0 1 _ rfl).1
  go_wp2_with fail
  clear g1
  go_loopw [3] (fun i wr => ∃ k : Nat, k ≤ n ∧ i = .int .i64 k ∧ Up W0 wr ∧ Hid (us.any bigU = (us.drop k).any bigU)) (fun i _ => n - (intOf i).toNat)
  case atStart => exact ⟨0, by omega, rfl, up_refl _, rfl⟩
  case round =>
    obtain ⟨k, hk, rfl, hu, ho⟩ := hrel
    clear c1
    have B1 := bx_up B0 hu
    have c1 := (B1 1 _ rfl).1
    by_cases hlt : k < n
    · have hl : k < us.length := by rw [unhide HL]; exact hlt
      rcases unts_up (unhide HA) (up_trans U0 hu) with hnil | ⟨b, off, rfl, hc⟩
      · rw [hnil] at hl; simp at hl
      obtain ⟨d0, d1, d2, d3, d4, d5, d6, d7, d8, d9, d10, hX, hXn⟩ := hc k hl
      clear hc d0 d1 d2 d3 d4 d5 d6 d7 d8 d9 hX
      have HS := hide ((unhide ho).trans (any_step hl))
      have hq : bigU us[k] = decide (24 < us[k].xs.length) := rfl
      rw [hq] at HS
      have hwk : IntKind.i64.wrap ((k : Int) + 1) = (k : Int) + 1 := IntWalk.i64_in _ ⟨by omega, by omega⟩
      clear ho hq HA
      generalize us[k].A = XA at *
      generalize us[k].cap = xc at *
      generalize us[k].xs.length = xn at *
      by_cases g2 : (24 : Int) < xn
      · have HF := hide (unhide HE6 (by unfold tmV; rw [unhide HS, decide_eq_true (show 24 < xn by omega), Bool.true_or, Bool.or_true]))
        clear HE6 HE2 HE0
        go_wp2_with fail
        go_ret
        exact ⟨by rw [unhide HF]; rfl, up_trans U0 hu⟩
      · have HT := hide (show us.any bigU = (us.drop (k + 1)).any bigU by rw [unhide HS, decide_eq_false (show ¬ 24 < xn by omega)]; rfl)
        go_wp2_with fail
        go_roundw
        case rel => exact ⟨k + 1, by omega, by first | rfl | trivial | go_num, (by repeat' (first | (with_reducible exact up_refl _) | (with_reducible assumption) | (with_reducible refine up_alloc ?_ _) | (with_reducible refine up_drewN ?_ _) | (with_reducible refine up_drew ?_) | (with_reducible refine up_set ?_ (by first | (simp; done) | (simp; omega) | omega) _) | (refine up_trans ?_ (by with_reducible assumption)))), HT⟩
        case measure => simp [intOf]; omega
    · obtain rfl : k = n := by omega
      have HT := hide (show tmV us = false by unfold tmV; rw [unhide HL, unhide G1, unhide ho, List.drop_of_length_le (by rw [unhide HL]; omega)]; rfl)
      have hE2 := hide (unhide HE2 (unhide HT))
      have hE0 := hide (unhide HE0 (unhide HT))
      have V1 := up_trans U0 hu
      have c0 := (B1 0 _ rfl).1
      clear HE6 HE2 HE0 ho hu HT G1
      cases q1
      · have HF := hide (unhide hE2 (.inl rfl))
        clear hE2 hE0
        go_wp2_with (go_at_call 64; (with_reducible refine (unhide HN _).mono ?_); rintro e w2 ⟨rfl, hb2⟩; have V2 := up_trans V1 hb2; have B2 := bx_up B1 hb2; have m1 := (B2 1 _ rfl).1; have m2 := (B2 2 _ rfl).1; have m3 := (B2 3 _ rfl).1; have m4 := trivial)
        go_ret
        exact ⟨by rw [unhide HF]; rfl, V2⟩
      by_cases z : (k : Int) < 1
      · have HF := hide (unhide hE2 (.inr (.inl (au_no (.inr (.inl (by rw [unhide HL]; omega)))))))
        clear hE2 hE0
        go_wp2_with (go_at_call 64; (with_reducible refine (unhide HN _).mono ?_); rintro e w2 ⟨rfl, hb2⟩; have V2 := up_trans V1 hb2; have B2 := bx_up B1 hb2; have m1 := (B2 1 _ rfl).1; have m2 := (B2 2 _ rfl).1; have m3 := (B2 3 _ rfl).1; have m4 := trivial)
        go_ret
        exact ⟨by rw [unhide HF]; rfl, V2⟩
      have Z1 : decide ((k : Int) < 1) = false := decide_eq_false z
      have hl0 : 0 < us.length := by rw [unhide HL]; omega
      obtain ⟨b, off, rfl, hc⟩ : ∃ b off, A = some ⟨b, off, none⟩ ∧ ∀ k (h : k < us.length), UntAt w b (off + k * 11) us[k] := by
        rcases unhide HA with h | h
        · rw [h] at hl0; simp at hl0
        · exact h
      have HC := hide hc
      clear hc HA
      have HK := hide (fun (W : World) (hW : Up w W) => (by
        have t := (untAt_up (unhide HC 0 hl0) hW).1
        rw [← hdK_get hl0] at t
        simpa using t : W.cell? ⟨b, off, none⟩ = some (.int .i64 (hdK us))))
      have HAu := hide (fun h : ¬ hdK us = 0 => au_no (us := us) (.inr (.inr h)))
      have HAy := hide (fun (h1 : us.all okU = true) (h2 : hdK us = 0) => (by unfold auV; rw [h1, decide_eq_true hl0, decide_eq_true h2]; rfl : auV us = true))
      generalize hdK us = K at *
      by_cases hk0 : K = 0
      rotate_left
      · have ht : (K == 0) = false := by simp [hk0]
        have ht2 : (K != 0) = true := by simp [hk0]
        have HH := hide hk0
        clear hk0
        have HF := hide (unhide hE2 (.inr (.inl (unhide HAu (unhide HH)))))
        clear hE2 hE0
        go_wp2_with (go_at_call 64; (with_reducible refine (unhide HN _).mono ?_); rintro e w2 ⟨rfl, hb2⟩; have V2 := up_trans V1 hb2; have B2 := bx_up B1 hb2; have m1 := (B2 1 _ rfl).1; have m2 := (B2 2 _ rfl).1; have m3 := (B2 3 _ rfl).1; have m4 := unhide HK _ V2)
        go_ret
        exact ⟨by rw [unhide HF]; rfl, V2⟩
      subst hk0
      by_cases f1 : f < 0
      · have HF := hide (unhide hE2 (.inr (.inr (.inl (by unfold win; rw [decide_eq_false (show ¬ 0 ≤ f by omega)]; rfl)))))
        clear hE2 hE0
        go_wp2_with (go_at_call 64; (with_reducible refine (unhide HN _).mono ?_); rintro e w2 ⟨rfl, hb2⟩; have V2 := up_trans V1 hb2; have B2 := bx_up B1 hb2; have m1 := (B2 1 _ rfl).1; have m2 := (B2 2 _ rfl).1; have m3 := (B2 3 _ rfl).1; have m4 := unhide HK _ V2)
        go_ret
        exact ⟨by rw [unhide HF]; rfl, V2⟩
      by_cases f2 : t < f
      · have F1 : decide (f < 0) = false := decide_eq_false f1
        have HF := hide (unhide hE2 (.inr (.inr (.inl (by unfold win; rw [decide_eq_false (show ¬ f ≤ t by omega), Bool.and_false])))))
        clear hE2 hE0
        go_wp2_with (go_at_call 64; (with_reducible refine (unhide HN _).mono ?_); rintro e w2 ⟨rfl, hb2⟩; have V2 := up_trans V1 hb2; have B2 := bx_up B1 hb2; have m1 := (B2 1 _ rfl).1; have m2 := (B2 2 _ rfl).1; have m3 := (B2 3 _ rfl).1; have m4 := unhide HK _ V2)
        go_ret
        exact ⟨by rw [unhide HF]; rfl, V2⟩
      by_cases f3 : (k : Int) ≤ t
      · have F1 : decide (f < 0) = false := decide_eq_false f1
        have F2 : decide (t < f) = false := decide_eq_false f2
        have HF := hide (unhide hE2 (.inr (.inr (.inr (decide_eq_false (by omega))))))
        clear hE2 hE0
        go_wp2_with (go_at_call 64; (with_reducible refine (unhide HN _).mono ?_); rintro e w2 ⟨rfl, hb2⟩; have V2 := up_trans V1 hb2; have B2 := bx_up B1 hb2; have m1 := (B2 1 _ rfl).1; have m2 := (B2 2 _ rfl).1; have m3 := (B2 3 _ rfl).1; have m4 := unhide HK _ V2)
        go_ret
        exact ⟨by rw [unhide HF]; rfl, V2⟩
      have F1 : decide (f < 0) = false := decide_eq_false f1
      have F2 : decide (t < f) = false := decide_eq_false f2
      have F3 : decide ((k : Int) ≤ t) = false := decide_eq_false f3
      have HY := hide (fun h => unhide hE0 rfl (unhide HAy h rfl) ((win_iff _ _ _).2 ⟨by omega, by omega⟩) (decide_eq_true (by omega)))
      have hE3 := hide (fun h => unhide hE2 (.inr (.inl (au_no (us := us) (.inl h)))))
      have hk1 : 0 < k := by omega
      clear hE2 hE0 HAu HAy f1 f2 f3
      go_wp2_with (go_at_call 64; (with_reducible refine (unhide HN _).mono ?_); rintro e w2 ⟨rfl, hb2⟩; have V2 := up_trans V1 hb2; have B2 := bx_up B1 hb2; have m1 := (B2 1 _ rfl).1; have m2 := (B2 2 _ rfl).1; have m3 := (B2 3 _ rfl).1; have m4 := unhide HK _ V2)
      obtain ⟨wo, hwo⟩ : ∃ wo, wo = w2 := ⟨_, rfl⟩
      rw [← hwo] at V2 B2 ⊢
      clear hwo m1 m2 m3 m4 HK hb2 B1 V1 c1 c0
      go_loopw [4] (fun i wr => ∃ j : Nat, j ≤ k ∧ i = .int .i64 j ∧ Up wo wr ∧ Hid (us.all okU = (us.drop j).all okU)) (fun i _ => k - (intOf i).toNat)
      case atStart => exact ⟨0, by omega, rfl, up_refl _, rfl⟩
      case round =>
        obtain ⟨j, hj, rfl, hu, ho⟩ := hrel
        have B3 := bx_up B2 hu
        have V3 := up_trans V2 hu
        have c1 := (B3 1 _ rfl).1
        by_cases hlt2 : j < k
        · have hl : j < us.length := by rw [unhide HL]; exact hlt2
          obtain ⟨d0, d1, d2, d3, d4, d5, d6, d7, d8, d9, d10, hX, hXn⟩ := untAt_up (unhide HC j hl) V3
          have HS := hide ((unhide ho).trans (all_step hl))
          have hq : okU us[j] = (szU us[j].kd us[j].le us[j].be us[j].fr us[j].re us[j].wi us[j].he us[j].ma us[j].st us[j].mo && axU us[j].le us[j].re us[j].xs) := rfl
          rw [hq] at HS
          clear hq
          have H1 := hide (fun W (hW : Up wr W) => r_unit us[j].kd us[j].le us[j].be us[j].fr us[j].re us[j].wi us[j].he us[j].ma us[j].st us[j].mo us[j].A us[j].xs us[j].cap W (axls_up hX hW) hXn)
          have hwk : IntKind.i64.wrap ((j : Int) + 1) = (j : Int) + 1 := IntWalk.i64_in _ ⟨by omega, by omega⟩
          clear ho hX hXn HC
          generalize us[j].kd = kd at *
          generalize us[j].le = le at *
          generalize us[j].be = be at *
          generalize us[j].fr = fr at *
          generalize us[j].re = re at *
          generalize us[j].wi = wi at *
          generalize us[j].he = he at *
          generalize us[j].ma = ma at *
          generalize us[j].st = st at *
          generalize us[j].mo = mo at *
          generalize us[j].A = XA at *
          generalize us[j].cap = xc at *
          obtain ⟨q, hq⟩ : ∃ q, (szU kd le be fr re wi he ma st mo && axU le re us[j].xs) = q := ⟨_, rfl⟩
          rw [hq] at H1 HS
          clear hq
          generalize us[j].xs.length = xn at *
          cases q
          · have HF := hide (unhide hE3 (by rw [unhide HS]; rfl))
            clear hE3 HY
            go_wp2_with (go_at_call 65; (with_reducible refine (unhide H1 _ (by repeat' (first | (with_reducible exact up_refl _) | (with_reducible assumption) | (with_reducible refine up_alloc ?_ _) | (with_reducible refine up_drewN ?_ _) | (with_reducible refine up_drew ?_) | (with_reducible refine up_set ?_ (by first | (simp; done) | (simp; omega) | omega) _) | (refine up_trans ?_ (by with_reducible assumption))))).mono ?_); rintro e w3 ⟨rfl, hb3⟩)
            go_ret
            exact ⟨by rw [unhide HF]; rfl, up_trans V3 hb3⟩
          · have HT := hide (show us.all okU = (us.drop (j + 1)).all okU by rw [unhide HS]; rfl)
            go_wp2_with (go_at_call 65; (with_reducible refine (unhide H1 _ (by repeat' (first | (with_reducible exact up_refl _) | (with_reducible assumption) | (with_reducible refine up_alloc ?_ _) | (with_reducible refine up_drewN ?_ _) | (with_reducible refine up_drew ?_) | (with_reducible refine up_set ?_ (by first | (simp; done) | (simp; omega) | omega) _) | (refine up_trans ?_ (by with_reducible assumption))))).mono ?_); rintro e w3 ⟨rfl, hb3⟩)
            go_roundw
            case rel => exact ⟨j + 1, by omega, by first | rfl | trivial | go_num, (by repeat' (first | (with_reducible exact up_refl _) | (with_reducible assumption) | (with_reducible refine up_alloc ?_ _) | (with_reducible refine up_drewN ?_ _) | (with_reducible refine up_drew ?_) | (with_reducible refine up_set ?_ (by first | (simp; done) | (simp; omega) | omega) _) | (refine up_trans ?_ (by with_reducible assumption)))), HT⟩
            case measure => simp [intOf]; omega
        · obtain rfl : j = k := by omega
          have HF := hide (unhide HY (by rw [unhide ho, List.drop_of_length_le (by rw [unhide HL]; omega)]; rfl))
          clear HY hE3
          go_wp2_with fail
          go_ret
          exact ⟨by rw [unhide HF]; rfl, V3⟩
end Go.Proofs.Ytooochbfnmmnkaa
