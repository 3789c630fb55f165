/- Whether a bridge is valid: the program's Check. -/
import Derived.Test.YtdignnmhiifpgaaBrL
namespace Go.Proofs.Ytdignnmhiifpgaa
open Go.RowKit Go.Proofs.Gn
set_option linter.unusedVariables false
/-- A bridge, with where its slices lie. -/
structure Brg where
  sp : List Int
  mo : List Int
  sh : List Int
  A0 : Option Addr
  A1 : Option Addr
  A2 : Option Addr
  k0 : Nat
  k1 : Nat
  k2 : Nat
  dy : Int
  la : Int
  tr : Int
def bgC (b : Brg) : List Value := [.slice b.A0 b.sp.length b.k0, .slice b.A1 b.mo.length b.k1, .slice b.A2 b.sh.length b.k2, .int .i64 b.dy, .int .i64 b.la, .int .i64 b.tr]
def bgV (b : Brg) : Value := .agg #[.slice b.A0 b.sp.length b.k0, .slice b.A1 b.mo.length b.k1, .slice b.A2 b.sh.length b.k2, .int .i64 b.dy, .int .i64 b.la, .int .i64 b.tr]
structure BgAt (w : World) (b : Brg) : Prop where
  s : I6 w b.A0 b.sp
  m : I6 w b.A1 b.mo
  h : I6 w b.A2 b.sh
theorem bgAt_up {w w' : World} {b : Brg} (h : BgAt w b) (u : Up w w') : BgAt w' b := ⟨i6_up h.s u, i6_up h.m u, i6_up h.h u⟩
/-- Whether all are within. -/
def arW (lo hi : Int) : List Int → Bool
  | [] => true
  | x :: xs => win6 x lo hi && arW lo hi xs
theorem arW_step {lo hi : Int} {l : List Int} {k : Nat} (h : k < l.length) : arW lo hi (l.drop k) = (win6 l[k] lo hi && arW lo hi (l.drop (k + 1))) := by
  rw [List.drop_eq_getElem_cons h]; rfl
theorem arW_all {lo hi : Int} : ∀ {l : List Int}, arW lo hi l = true → ∀ k (h : k < l.length), lo ≤ l[k] ∧ l[k] ≤ hi
  | x :: xs, h, k, hk => by
    unfold arW at h
    rw [Bool.and_eq_true] at h
    cases k with
    | zero => exact win6_yes h.1
    | succ k => exact arW_all h.2 k (by simpa using hk)
theorem p_are1 (b1 b2 : Nat) (x lo hi : Int) (w : World) (h1 : w.cell? ⟨b1, 0, none⟩ = some (.int .i64 lo)) (h2 : w.cell? ⟨b2, 0, none⟩ = some (.int .i64 hi)) :
    Calls Try.prog 63 #[.int .i64 x, .pointer (some ⟨b1, 0, none⟩), .pointer (some ⟨b2, 0, none⟩)] w fun e w' => e = .returned (.bool (!(win6 x lo hi))) ∧ w = w' := by
  have HWn := hide (fun W => p_w64 x lo hi W)
  obtain ⟨r, hr⟩ : ∃ r, win6 x lo hi = r := ⟨_, rfl⟩
  rw [hr] at HWn ⊢
  clear hr
  cases r
  · go_enter Try.func63, Try.ntmps63
    go_wp2_with (go_at_call 37; (with_reducible refine (unhide HWn _).mono ?_); rintro e w1 ⟨rfl, rfl⟩)
    go_ret
    exact ⟨rfl, rfl⟩
  · go_enter Try.func63, Try.ntmps63
    go_wp2_with (go_at_call 37; (with_reducible refine (unhide HWn _).mono ?_); rintro e w1 ⟨rfl, rfl⟩)
    go_ret
    exact ⟨rfl, rfl⟩
/-- Where the first one lies that is not within: -1 if there is none. -/
def fxW (lo hi : Int) : Nat → List Int → Int
  | _, [] => -1
  | k, x :: xs => if win6 x lo hi then fxW lo hi (k + 1) xs else (k : Int)
theorem fxW_step {lo hi : Int} {l : List Int} {k : Nat} (h : k < l.length) : fxW lo hi k (l.drop k) = if win6 l[k] lo hi then fxW lo hi (k + 1) (l.drop (k + 1)) else (k : Int) := by
  rw [List.drop_eq_getElem_cons h]; rfl
theorem fxW_ar {lo hi : Int} : ∀ (l : List Int) (k : Nat), (if arW lo hi l then fxW lo hi k l = -1 else 0 ≤ fxW lo hi k l)
  | [], k => by simp [arW, fxW]
  | x :: xs, k => by
    have ih := fxW_ar (lo := lo) (hi := hi) xs (k + 1)
    unfold arW fxW
    cases win6 x lo hi
    · simp
    · simpa using ih
set_option maxRecDepth 100000 in
theorem p_IndexF6 (b1 b2 : Nat) (lo hi : Int) (A : Option Addr) (l : List Int) (cap : Nat) (w : World) (hI : I6 w A l) (hn : l.length ≤ 9223372036854775807) (h1 : w.cell? ⟨b1, 0, none⟩ = some (.int .i64 lo)) (h2 : w.cell? ⟨b2, 0, none⟩ = some (.int .i64 hi)) :
    Calls Try.prog 85 #[.slice A l.length cap, .func (.func 63) #[] #[.pointer (some ⟨b1, 0, none⟩), .pointer (some ⟨b2, 0, none⟩)]] w fun e w' => e = .returned (.int .i64 (fxW lo hi 0 l)) ∧ w = w' := by
  have HC := hide (fun (x : Int) (W : World) (hW : W = w) => (p_are1 b1 b2 x lo hi W (by rw [hW]; exact h1) (by rw [hW]; exact h2)))
  have hf0 : fxW lo hi 0 l = fxW lo hi 0 (l.drop 0) := by rw [List.drop_zero]
  have HS := hide (fun k (h : k < l.length) => fxW_step (lo := lo) (hi := hi) h)
  have hend : fxW lo hi l.length (l.drop l.length) = -1 := by rw [List.drop_length]; rfl
  have HEnd := hide hend
  obtain ⟨F, hF⟩ : ∃ F : Nat → Int, (fun k => fxW lo hi k (l.drop k)) = F := ⟨_, rfl⟩
  have hFk : ∀ k, fxW lo hi k (l.drop k) = F k := fun k => congrFun hF k
  rw [hf0]
  simp only [hFk] at HS HEnd ⊢
  have HI := hide hI
  clear hF hFk hf0 hend hI h1 h2
  obtain ⟨n, hN⟩ : ∃ n, l.length = n := ⟨_, rfl⟩
  have HN := hide hN
  rw [hN] at hn HEnd ⊢
  clear hN
  obtain ⟨wo, rfl⟩ : ∃ wo, wo = w := ⟨_, rfl⟩
  go_enter Try.func85, Try.ntmps85
  go_wp2
  go_loopw [8] (fun s8 wr => ∃ k : Nat, k ≤ n ∧ s8 = .int .i64 k ∧ wr = wo ∧ Hid (F 0 = F k)) (fun s8 _ => n - (intOf s8).toNat)
  case atStart => exact ⟨0, by omega, rfl, rfl, hide rfl⟩
  case round =>
    obtain ⟨k, hk, rfl, rfl, HF⟩ := hrel
    by_cases hlt : k < n
    · have hl : k < l.length := by rw [unhide HN]; exact hlt
      rcases unhide HI with hnil | ⟨b, off, rfl, hcc⟩
      · rw [hnil] at hl; simp at hl
      have c0 := hcc k hl
      have hst := unhide HS k hl
      have HCk := hide (fun W hW => unhide HC l[k] W hW)
      obtain ⟨r, hr⟩ : ∃ r, win6 l[k] lo hi = r := ⟨_, rfl⟩
      rw [hr] at hst HCk
      generalize l[k] = x at *
      have HST := hide hst
      have hwk : IntKind.i64.wrap ((k : Int) + 1) = (k : Int) + 1 := IntWalk.i64_in _ ⟨by omega, by omega⟩
      have i0 : (0 : Int) ≤ (k : Int) := by omega
      have i1 : (k : Int) < (n : Int) := by omega
      have i2 : (k : Int).toNat = k := by omega
      clear hst hcc hr
      cases r
      · go_wp2_with (go_at_call 63; (with_reducible refine (unhide HCk _ rfl).mono ?_); rintro e w1 ⟨rfl, rfl⟩)
        go_ret
        exact ⟨by rw [unhide HF, unhide HST]; rfl, rfl⟩
      · go_wp2_with (go_at_call 63; (with_reducible refine (unhide HCk _ rfl).mono ?_); rintro e w1 ⟨rfl, rfl⟩)
        go_roundw
        case rel => exact ⟨k + 1, by omega, by go_num, by first | rfl | trivial, hide (by rw [unhide HF, unhide HST]; rfl)⟩
        case measure => simp [intOf]; omega
    · obtain rfl : k = n := by omega
      go_wp2
      go_ret
      exact ⟨by rw [unhide HF, unhide HEnd]; rfl, rfl⟩
theorem p_Contains6 (b1 b2 : Nat) (lo hi : Int) (A : Option Addr) (l : List Int) (cap : Nat) (w : World) (hI : I6 w A l) (hn : l.length ≤ 9223372036854775807) (h1 : w.cell? ⟨b1, 0, none⟩ = some (.int .i64 lo)) (h2 : w.cell? ⟨b2, 0, none⟩ = some (.int .i64 hi)) :
    Calls Try.prog 62 #[.slice A l.length cap, .func (.func 63) #[] #[.pointer (some ⟨b1, 0, none⟩), .pointer (some ⟨b2, 0, none⟩)]] w fun e w' => e = .returned (.bool (!(arW lo hi l))) ∧ w = w' := by
  have HC := hide (p_IndexF6 b1 b2 lo hi A l cap w hI hn h1 h2)
  have hx := fxW_ar (lo := lo) (hi := hi) l 0
  obtain ⟨x, hX⟩ : ∃ x, fxW lo hi 0 l = x := ⟨_, rfl⟩
  obtain ⟨r, hR⟩ : ∃ x, arW lo hi l = x := ⟨_, rfl⟩
  rw [hX] at HC hx
  rw [hR] at hx ⊢
  clear hX hR h1 h2 hI hn
  cases r
  · simp only [Bool.false_eq_true, if_false] at hx
    have e1 : decide (x ≥ 0) = true := decide_eq_true hx
    have e2 : decide (0 ≤ x) = true := decide_eq_true hx
    go_enter Try.func62, Try.ntmps62
    go_wp2_with (go_at_call 85; (with_reducible refine (unhide HC).mono ?_); rintro e w1 ⟨rfl, rfl⟩)
    go_ret
    exact ⟨by first | rfl | (simp; omega), rfl⟩
  · simp only [if_true] at hx
    subst hx
    go_enter Try.func62, Try.ntmps62
    go_wp2_with (go_at_call 85; (with_reducible refine (unhide HC).mono ?_); rintro e w1 ⟨rfl, rfl⟩)
    go_ret
    exact ⟨by first | rfl | simp, rfl⟩
theorem p_are (lo hi : Int) (A : Option Addr) (l : List Int) (cap : Nat) (w : World) (hI : I6 w A l) (hn : l.length ≤ 9223372036854775807) :
    Calls Try.prog 31 #[.slice A l.length cap, .int .i64 lo, .int .i64 hi] w fun e w' => e = .returned (.bool (arW lo hi l)) ∧ Up w w' := by
  have HC := hide (fun (W : World) (b1 b2 : Nat) (h1 : W.cell? ⟨b1, 0, none⟩ = some (.int .i64 lo)) (h2 : W.cell? ⟨b2, 0, none⟩ = some (.int .i64 hi)) (hU : Up w W) => p_Contains6 b1 b2 lo hi A l cap W (i6_up hI hU) hn h1 h2)
  obtain ⟨r, hR⟩ : ∃ x, arW lo hi l = x := ⟨_, rfl⟩
  rw [hR] at HC ⊢
  obtain ⟨n, hN⟩ : ∃ n, l.length = n := ⟨_, rfl⟩
  rw [hN] at HC ⊢
  clear hI hn hR hN
  cases r
  · go_enter Try.func31, Try.ntmps31
    go_wp2_with (go_at_call 62; (with_reducible refine (unhide HC _ _ _ (by go_cell) (by go_cell) (by repeat' (first | (with_reducible exact up_refl _) | (with_reducible assumption) | (with_reducible refine up_alloc ?_ _) | (with_reducible refine up_drewN ?_ _) | (with_reducible refine up_drew ?_) | (with_reducible refine up_set ?_ (by first | (simp; done) | (simp; omega) | omega) _) | (refine up_trans ?_ (by with_reducible assumption))))).mono ?_); rintro e w1 ⟨rfl, rfl⟩)
    go_ret
    exact ⟨rfl, (by repeat' (first | (with_reducible exact up_refl _) | (with_reducible assumption) | (with_reducible refine up_alloc ?_ _) | (with_reducible refine up_drewN ?_ _) | (with_reducible refine up_drew ?_) | (with_reducible refine up_set ?_ (by first | (simp; done) | (simp; omega) | omega) _) | (refine up_trans ?_ (by with_reducible assumption))))⟩
  · go_enter Try.func31, Try.ntmps31
    go_wp2_with (go_at_call 62; (with_reducible refine (unhide HC _ _ _ (by go_cell) (by go_cell) (by repeat' (first | (with_reducible exact up_refl _) | (with_reducible assumption) | (with_reducible refine up_alloc ?_ _) | (with_reducible refine up_drewN ?_ _) | (with_reducible refine up_drew ?_) | (with_reducible refine up_set ?_ (by first | (simp; done) | (simp; omega) | omega) _) | (refine up_trans ?_ (by with_reducible assumption))))).mono ?_); rintro e w1 ⟨rfl, rfl⟩)
    go_ret
    exact ⟨rfl, (by repeat' (first | (with_reducible exact up_refl _) | (with_reducible assumption) | (with_reducible refine up_alloc ?_ _) | (with_reducible refine up_drewN ?_ _) | (with_reducible refine up_drew ?_) | (with_reducible refine up_set ?_ (by first | (simp; done) | (simp; omega) | omega) _) | (refine up_trans ?_ (by with_reducible assumption))))⟩
end Go.Proofs.Ytdignnmhiifpgaa
