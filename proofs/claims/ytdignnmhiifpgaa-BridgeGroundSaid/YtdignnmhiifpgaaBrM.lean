/- Bridges and trains: how they lie in memory; small contracts of package bridge. -/
import Derived.Test.YtdignnmhiifpgaaLateU
import Derived.Deep.RegionLaw
import Derived.OwnWalk
namespace Go.Proofs.Ytdignnmhiifpgaa
open Go.RowKit Go.Proofs.Gn
theorem at_wpB {c : Code} {Q : Exit → Act → World → Prop} {a : Act} {w : World} (h : ∀ W, W = w → Code.wp Try.prog c Q a W) : Code.wp Try.prog c Q a w := h w rfl
/-- The slice at A holds these numbers. -/
def I6 (w : World) (A : Option Addr) (gs : List Int) : Prop := gs = [] ∨ ∃ b off, A = some ⟨b, off, none⟩ ∧ ∀ k (h : k < gs.length), w.cell? ⟨b, off + k, none⟩ = some (.int .i64 gs[k])
theorem i6_up {w w' : World} {A : Option Addr} {gs : List Int} (h : I6 w A gs) (hu : Up w w') : I6 w' A gs := by
  rcases h with h | ⟨b, off, rfl, hc⟩
  · exact .inl h
  · exact .inr ⟨b, off, rfl, fun k hk => up_cell hu (hc k hk)⟩
/-- The slice at A holds this train: how far behind, and the load, of each axle. -/
def Frs (w : World) (A : Option Addr) (ts : List (Int × Int)) : Prop := ts = [] ∨ ∃ b off, A = some ⟨b, off, none⟩ ∧ ∀ k (h : k < ts.length), w.cell? ⟨b, off + k * 2, none⟩ = some (.int .i64 ts[k].1) ∧ w.cell? ⟨b, off + k * 2 + 1, none⟩ = some (.int .i64 ts[k].2)
theorem frs_up {w w' : World} {A : Option Addr} {ts : List (Int × Int)} (h : Frs w A ts) (hu : Up w w') : Frs w' A ts := by
  rcases h with h | ⟨b, off, rfl, hc⟩
  · exact .inl h
  · exact .inr ⟨b, off, rfl, fun k hk => ⟨up_cell hu (hc k hk).1, up_cell hu (hc k hk).2⟩⟩
def win6 (n lo hi : Int) : Bool := decide (lo ≤ n ∧ n ≤ hi)
theorem win6_yes {n lo hi : Int} (h : win6 n lo hi = true) : lo ≤ n ∧ n ≤ hi := by simpa [win6] using h
theorem win6_mk {n lo hi : Int} (h : lo ≤ n ∧ n ≤ hi) : win6 n lo hi = true := by simpa [win6] using h
theorem p_w64 (n lo hi : Int) (w : World) : Calls Try.prog 37 #[.int .i64 n, .int .i64 lo, .int .i64 hi] w fun e w' => e = .returned (.bool (win6 n lo hi)) ∧ w = w' := by
  by_cases h1 : lo ≤ n
  · by_cases h2 : n ≤ hi
    · rw [win6_mk ⟨h1, h2⟩]
      go_enter Try.func37, Try.ntmps37
      go_wp2
      go_ret
      exact ⟨by first | rfl | (simp [h1, h2]; done), rfl⟩
    · have e : win6 n lo hi = false := by simp [win6, h2]
      rw [e]
      have d2 : decide (n ≤ hi) = false := decide_eq_false h2
      go_enter Try.func37, Try.ntmps37
      go_wp2
      go_ret
      exact ⟨by first | rfl | (simp [h1, h2]; done), rfl⟩
  · have e : win6 n lo hi = false := by simp [win6, h1]
    rw [e]
    have d1 : decide (lo ≤ n) = false := decide_eq_false h1
    go_enter Try.func37, Try.ntmps37
    go_wp2
    go_ret
    exact ⟨by first | rfl | (simp [h1]; done), rfl⟩
theorem p_wI (n lo hi : Int) (w : World) : Calls Try.prog 47 #[.int .i64 n, .int .i64 lo, .int .i64 hi] w fun e w' => e = .returned (.bool (win6 n lo hi)) ∧ w = w' := by
  by_cases h1 : lo ≤ n
  · by_cases h2 : n ≤ hi
    · rw [win6_mk ⟨h1, h2⟩]
      go_enter Try.func47, Try.ntmps47
      go_wp2
      go_ret
      exact ⟨by first | rfl | (simp [h1, h2]; done), rfl⟩
    · have e : win6 n lo hi = false := by simp [win6, h2]
      rw [e]
      have d2 : decide (n ≤ hi) = false := decide_eq_false h2
      go_enter Try.func47, Try.ntmps47
      go_wp2
      go_ret
      exact ⟨by first | rfl | (simp [h1, h2]; done), rfl⟩
  · have e : win6 n lo hi = false := by simp [win6, h1]
    rw [e]
    have d1 : decide (lo ≤ n) = false := decide_eq_false h1
    go_enter Try.func47, Try.ntmps47
    go_wp2
    go_ret
    exact ⟨by first | rfl | (simp [h1]; done), rfl⟩
/-- The first error that is one. -/
def orF : List Int → Int
  | [] => 0
  | x :: xs => if x = 0 then orF xs else x
theorem orF_step {l : List Int} {k : Nat} (h : k < l.length) : orF (l.drop k) = if l[k] = 0 then orF (l.drop (k + 1)) else l[k] := by
  rw [List.drop_eq_getElem_cons h]; rfl
set_option maxRecDepth 100000 in
set_option maxHeartbeats 4000000 in
theorem p_Or (A : Option Addr) (xs : List Int) (cap : Nat) (w : World) (h : I6 w A xs) (hn : xs.length ≤ 9223372036854775807) :
    Calls Try.prog 43 #[.slice A xs.length cap] w fun e w' => e = .returned (.int .i64 (orF xs)) ∧ Up w w' := by
  have HI := hide h
  have HS := hide (fun k (h : k < xs.length) => orF_step h)
  have HD := hide (fun k => (List.drop_eq_nil_iff.2 : xs.length ≤ k → xs.drop k = []))
  have h00 : orF (xs.drop 0) = orF xs := by rw [List.drop_zero]
  obtain ⟨V, hV⟩ : ∃ V, orF xs = V := ⟨_, rfl⟩
  rw [hV] at h00 ⊢
  have H0 := hide h00
  clear h h00 hV
  obtain ⟨n, hN⟩ : ∃ n, xs.length = n := ⟨_, rfl⟩
  have HN := hide hN
  rw [hN] at hn ⊢
  clear hN
  go_enter Try.func43, Try.ntmps43
  go_wp2_with fail
  go_loopw [8] (fun s8 wr => ∃ k : Nat, k ≤ n ∧ s8 = .int .i64 k ∧ Hid (orF (xs.drop k) = V) ∧ Up w wr) (fun s8 _ => n - (intOf s8).toNat)
  case atStart => exact ⟨0, by omega, rfl, H0, up_refl _⟩
  case round =>
    obtain ⟨k, hk, rfl, HT, hu⟩ := hrel
    by_cases hlt : k < n
    · have hl : k < xs.length := by rw [unhide HN]; exact hlt
      rcases i6_up (unhide HI) hu with hx | ⟨b, off, rfl, hc⟩
      · rw [hx] at hl; simp at hl
      have c0 := hc k hl
      have st := (unhide HS k hl).symm.trans (unhide HT)
      generalize xs[k] = x at *
      have hwk : IntKind.i64.wrap ((k : Int) + 1) = (k : Int) + 1 := IntWalk.i64_in _ ⟨by omega, by omega⟩
      have i0 : (0 : Int) ≤ (k : Int) := by omega
      have i1 : (k : Int) < (n : Int) := by omega
      clear hc
      by_cases e : x = 0
      · rw [if_pos e] at st
        have HT2 := hide st
        subst e
        clear st HT
        go_wp2_with fail
        go_roundw
        case rel => exact ⟨k + 1, by omega, by first | rfl | trivial | go_num, HT2, (by repeat' (first | (with_reducible exact up_refl _) | (with_reducible assumption) | (with_reducible refine up_alloc ?_ _) | (with_reducible refine up_drewN ?_ _) | (with_reducible refine up_drew ?_) | (with_reducible refine up_set ?_ (by first | (simp; done) | (simp; omega) | omega) _) | (refine up_trans ?_ (by with_reducible assumption))))⟩
        case measure => simp [intOf]; omega
      · rw [if_neg e] at st
        subst st
        have e1 : (x == 0) = false := beq_false_of_ne e
        clear HT
        go_wp2_with fail
        go_ret
        exact ⟨rfl, (by repeat' (first | (with_reducible exact up_refl _) | (with_reducible assumption) | (with_reducible refine up_alloc ?_ _) | (with_reducible refine up_drewN ?_ _) | (with_reducible refine up_drew ?_) | (with_reducible refine up_set ?_ (by first | (simp; done) | (simp; omega) | omega) _) | (refine up_trans ?_ (by with_reducible assumption))))⟩
    · obtain rfl : k = n := by omega
      have hV : V = 0 := by rw [← unhide HT, unhide HD k (by rw [unhide HN]; exact Nat.le_refl _)]; rfl
      subst hV
      clear HT
      go_wp2_with fail
      go_ret
      exact ⟨rfl, hu⟩
/-- A train from some place on. -/
def tok : Int → List (Int × Int) → Bool
  | _, [] => true
  | a, t :: ts => win6 t.1 a 262144 && (win6 t.2 0 1048576 && tok t.1 ts)
/-- The error of a train. -/
def ctE (ts : List (Int × Int)) : Int := if win6 ts.length 1 64 then (if tok 0 ts && ((ts[0]?.map (·.1)).getD 0 == 0) then 0 else 2) else 6
theorem tok_step {a : Int} {ts : List (Int × Int)} {k : Nat} (h : k < ts.length) : tok a (ts.drop k) = (win6 ts[k].1 a 262144 && (win6 ts[k].2 0 1048576 && tok ts[k].1 (ts.drop (k + 1)))) := by
  rw [List.drop_eq_getElem_cons h]; rfl
set_option maxRecDepth 100000 in
set_option maxHeartbeats 8000000 in
theorem p_CheckTrain (A : Option Addr) (ts : List (Int × Int)) (cap : Nat) (w : World) (h : Frs w A ts) (hn : ts.length ≤ 9223372036854775807) :
    Calls Try.prog 33 #[.slice A ts.length cap] w fun e w' => e = .returned (.int .i64 (ctE ts)) ∧ Up w w' := by
  have HF := hide h
  have HS := hide (fun a k (h : k < ts.length) => tok_step (a := a) h)
  have HDr := hide (fun k => (List.drop_eq_nil_iff.2 : ts.length ≤ k → ts.drop k = []))
  have HW := hide (fun n lo hi W => p_wI n lo hi W)
  have HV := hide (fun n lo hi W => p_w64 n lo hi W)
  unfold ctE
  by_cases hz : win6 ts.length 1 64 = true
  · rw [if_pos hz]
    have hb := win6_yes hz
    have h0 : 0 < ts.length := by omega
    have h00 : tok 0 (ts.drop 0) = tok 0 ts := by rw [List.drop_zero]
    rw [List.getElem?_eq_getElem h0]
    simp only [Option.map_some, Option.getD_some]
    obtain ⟨V, hV⟩ : ∃ V, tok 0 ts = V := ⟨_, rfl⟩
    obtain ⟨f, hf⟩ : ∃ f, ts[0].1 = f := ⟨_, rfl⟩
    have Hf := hide hf
    rw [hV] at h00
    rw [hV]
    simp only [hf]
    obtain ⟨R, hR⟩ : ∃ R, (if (V && f == 0) = true then (0 : Int) else 2) = R := ⟨_, rfl⟩
    rw [hR]
    have HR := hide hR
    clear hR
    have H0 := hide h00
    have hw := fun W => p_wI ts.length 1 64 W
    rw [hz] at hw
    have HW1 := hide hw
    clear h h00 hV hf hw HW
    obtain ⟨n, hN⟩ : ∃ n, ts.length = n := ⟨_, rfl⟩
    have HN := hide hN
    rw [hN] at hn hb h0 HW1 ⊢
    clear hN hz
    go_enter Try.func33, Try.ntmps33
    go_wp2_with (go_at_call 47; (with_reducible refine (unhide HW1 _).mono ?_); rintro e w1 ⟨rfl, rfl⟩)
    go_loopw [3, 12] (fun s3 s12 wr => ∃ (k : Nat) (a : Int), k ≤ n ∧ s12 = .int .i64 k ∧ s3 = .int .i64 a ∧ Hid (tok a (ts.drop k) = V) ∧ Up w wr) (fun _ s12 _ => n - (intOf s12).toNat)
    case atStart => exact ⟨0, 0, by omega, rfl, rfl, H0, up_refl _⟩
    case round =>
      obtain ⟨k, a, hk, rfl, rfl, HT, hu⟩ := hrel
      by_cases hlt : k < n
      · have hl : k < ts.length := by rw [unhide HN]; exact hlt
        rcases frs_up (unhide HF) hu with hx | ⟨b, off, rfl, hc⟩
        · rw [hx] at hl; simp at hl
        obtain ⟨c0, c1⟩ := hc k hl
        have st := (unhide HS a k hl).symm.trans (unhide HT)
        generalize ts[k].1 = x at *
        generalize ts[k].2 = p at *
        have hwk : IntKind.i64.wrap ((k : Int) + 1) = (k : Int) + 1 := IntWalk.i64_in _ ⟨by omega, by omega⟩
        have i0 : (0 : Int) ≤ (k : Int) := by omega
        have i1 : (k : Int) < (n : Int) := by omega
        clear hc
        cases e1 : win6 x a 262144 with
        | false =>
          rw [e1, Bool.false_and] at st
          subst st
          have hr : R = 2 := by rw [← unhide HR]; rfl
          subst hr
          have hw1 := fun W => p_w64 x a 262144 W
          rw [e1] at hw1
          have HW1 := hide hw1
          clear e1 HT hw1
          go_wp2_with (go_at_call 37; refine (unhide HW1 _).mono ?_; rintro e w1 ⟨rfl, rfl⟩)
          go_ret
          exact ⟨rfl, (by repeat' (first | (with_reducible exact up_refl _) | (with_reducible assumption) | (with_reducible refine up_alloc ?_ _) | (with_reducible refine up_drewN ?_ _) | (with_reducible refine up_drew ?_) | (with_reducible refine up_set ?_ (by first | (simp; done) | (simp; omega) | omega) _) | (refine up_trans ?_ (by with_reducible assumption))))⟩
        | true =>
          rw [e1, Bool.true_and] at st
          have hw1 := fun W => p_w64 x a 262144 W
          rw [e1] at hw1
          have HW1 := hide hw1
          clear e1 hw1
          cases e2 : win6 p 0 1048576 with
          | false =>
            rw [e2, Bool.false_and] at st
            subst st
            have hr : R = 2 := by rw [← unhide HR]; rfl
            subst hr
            have hw2 := fun W => p_w64 p 0 1048576 W
            rw [e2] at hw2
            have HW2 := hide hw2
            clear e2 HT hw2
            go_wp2_with (first | (go_at_call 37; (with_reducible refine (unhide HW1 _).mono ?_); rintro e w1 ⟨rfl, rfl⟩) | (go_at_call 37; (with_reducible refine (unhide HW2 _).mono ?_); rintro e w1 ⟨rfl, rfl⟩))
            go_ret
            exact ⟨rfl, (by repeat' (first | (with_reducible exact up_refl _) | (with_reducible assumption) | (with_reducible refine up_alloc ?_ _) | (with_reducible refine up_drewN ?_ _) | (with_reducible refine up_drew ?_) | (with_reducible refine up_set ?_ (by first | (simp; done) | (simp; omega) | omega) _) | (refine up_trans ?_ (by with_reducible assumption))))⟩
          | true =>
            rw [e2, Bool.true_and] at st
            have hw2 := fun W => p_w64 p 0 1048576 W
            rw [e2] at hw2
            have HW2 := hide hw2
            have HT2 := hide st
            clear e2 HT hw2 st
            go_wp2_with (first | (go_at_call 37; (with_reducible refine (unhide HW1 _).mono ?_); rintro e w1 ⟨rfl, rfl⟩) | (go_at_call 37; (with_reducible refine (unhide HW2 _).mono ?_); rintro e w1 ⟨rfl, rfl⟩))
            go_roundw
            case rel => exact ⟨k + 1, x, by omega, by first | rfl | trivial | go_num, rfl, HT2, (by repeat' (first | (with_reducible exact up_refl _) | (with_reducible assumption) | (with_reducible refine up_alloc ?_ _) | (with_reducible refine up_drewN ?_ _) | (with_reducible refine up_drew ?_) | (with_reducible refine up_set ?_ (by first | (simp; done) | (simp; omega) | omega) _) | (refine up_trans ?_ (by with_reducible assumption))))⟩
            case measure => simp [intOf]; omega
      · obtain rfl : k = n := by omega
        have hV : V = true := by rw [← unhide HT, unhide HDr k (by rw [unhide HN]; exact Nat.le_refl _)]; rfl
        subst hV
        have hl : 0 < ts.length := by rw [unhide HN]; exact h0
        rcases frs_up (unhide HF) hu with hx | ⟨b, off, rfl, hc⟩
        · rw [hx] at hl; simp at hl
        have c0 := (hc 0 hl).1
        rw [unhide Hf] at c0
        simp only [Nat.zero_mul, Nat.add_zero] at c0
        clear hc HT
        by_cases e : f = 0
        · subst e
          have hr : R = 0 := by rw [← unhide HR]; rfl
          subst hr
          go_wp2_with fail
          go_ret
          exact ⟨rfl, (by repeat' (first | (with_reducible exact up_refl _) | (with_reducible assumption) | (with_reducible refine up_alloc ?_ _) | (with_reducible refine up_drewN ?_ _) | (with_reducible refine up_drew ?_) | (with_reducible refine up_set ?_ (by first | (simp; done) | (simp; omega) | omega) _) | (refine up_trans ?_ (by with_reducible assumption))))⟩
        · have e1 : (f == 0) = false := beq_false_of_ne e
          have e2 : (f != 0) = true := by rw [bne, e1]; rfl
          have hr : R = 2 := by rw [← unhide HR, e1]; rfl
          subst hr
          go_wp2_with fail
          go_ret
          exact ⟨rfl, (by repeat' (first | (with_reducible exact up_refl _) | (with_reducible assumption) | (with_reducible refine up_alloc ?_ _) | (with_reducible refine up_drewN ?_ _) | (with_reducible refine up_drew ?_) | (with_reducible refine up_set ?_ (by first | (simp; done) | (simp; omega) | omega) _) | (refine up_trans ?_ (by with_reducible assumption))))⟩
  · rw [if_neg hz]
    have hz' : win6 ts.length 1 64 = false := by simpa using hz
    have hw := fun W => p_wI ts.length 1 64 W
    rw [hz'] at hw
    have HW1 := hide hw
    clear hz hz' hw HW HS HDr HF h HV
    generalize ts.length = n at *
    go_enter Try.func33, Try.ntmps33
    go_wp2_with (go_at_call 47; (with_reducible refine (unhide HW1 _).mono ?_); rintro e w1 ⟨rfl, rfl⟩)
    go_ret
    exact ⟨rfl, (by repeat' (first | (with_reducible exact up_refl _) | (with_reducible assumption) | (with_reducible refine up_alloc ?_ _) | (with_reducible refine up_drewN ?_ _) | (with_reducible refine up_drew ?_) | (with_reducible refine up_set ?_ (by first | (simp; done) | (simp; omega) | omega) _) | (refine up_trans ?_ (by with_reducible assumption))))⟩
end Go.Proofs.Ytdignnmhiifpgaa
