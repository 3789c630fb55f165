/- Where a span begins. A load of at most four boxes, as the laws of the top make it. Whether a bridge is valid, and whether a span and a point are. Whether a bridge is valid: the program's Check. -/
import Derived.Test.YthifcalemhpmoaaGreatPkRefDown
import Derived.Test.YthifcalemhpmoaaGreatPkMom
import Derived.Test.YthifcalemhpmoaaGreatPkOwn
import Derived.Test.YthifcalemhpmoaaGreatPkChR
import Derived.Maps.AppendAt
namespace Go.Proofs.YthifcalemhpmoaaGreat
open Go.RowKit Go.Proofs.Gn
set_option linter.unusedVariables false
/-- A bridge, with where its slices lie. -/
structure Brg where
  sp : List Int
  mo : List Int
  sh : List Int
  A0 : Option Addr
  A1 : Option Addr
  A2 : Option Addr
  k0 : Nat
  k1 : Nat
  k2 : Nat
  dy : Int
  la : Int
  tr : Int
def bgC (b : Brg) : List Value := [.slice b.A0 b.sp.length b.k0, .slice b.A1 b.mo.length b.k1, .slice b.A2 b.sh.length b.k2, .int .i64 b.dy, .int .i64 b.la, .int .i64 b.tr]
def bgV (b : Brg) : Value := .agg #[.slice b.A0 b.sp.length b.k0, .slice b.A1 b.mo.length b.k1, .slice b.A2 b.sh.length b.k2, .int .i64 b.dy, .int .i64 b.la, .int .i64 b.tr]
structure BgAt (w : World) (b : Brg) : Prop where
  s : I6 w b.A0 b.sp
  m : I6 w b.A1 b.mo
  h : I6 w b.A2 b.sh
theorem bgAt_up {w w' : World} {b : Brg} (h : BgAt w b) (u : Up w w') : BgAt w' b := ⟨i6_up h.s u, i6_up h.m u, i6_up h.h u⟩
/-- Whether all are within. -/
def arW (lo hi : Int) : List Int → Bool
  | [] => true
  | x :: xs => win6 x lo hi && arW lo hi xs
theorem arW_step {lo hi : Int} {l : List Int} {k : Nat} (h : k < l.length) : arW lo hi (l.drop k) = (win6 l[k] lo hi && arW lo hi (l.drop (k + 1))) := by
  rw [List.drop_eq_getElem_cons h]; rfl
theorem arW_all {lo hi : Int} : ∀ {l : List Int}, arW lo hi l = true → ∀ k (h : k < l.length), lo ≤ l[k] ∧ l[k] ≤ hi
  | x :: xs, h, k, hk => by
    unfold arW at h
    rw [Bool.and_eq_true] at h
    cases k with
    | zero => exact win6_yes h.1
    | succ k => exact arW_all h.2 k (by simpa using hk)
theorem p_are1 (b1 b2 : Nat) (x lo hi : Int) (w : World) (h1 : w.cell? ⟨b1, 0, none⟩ = some (.int .i64 lo)) (h2 : w.cell? ⟨b2, 0, none⟩ = some (.int .i64 hi)) :
    Calls Tryz.prog 102 #[.int .i64 x, .pointer (some ⟨b1, 0, none⟩), .pointer (some ⟨b2, 0, none⟩)] w fun e w' => e = .returned (.bool (!(win6 x lo hi))) ∧ w = w' := by
  have HWn := hide (fun W => p_w64 x lo hi W)
  obtain ⟨r, hr⟩ : ∃ r, win6 x lo hi = r := ⟨_, rfl⟩
  rw [hr] at HWn ⊢
  clear hr
  cases r
  · go_enter Tryz.func102, Tryz.ntmps102
    go_wp2_with (go_at_call 34; (with_reducible refine (unhide HWn _).mono ?_); rintro e w1 ⟨rfl, rfl⟩)
    go_ret
    exact ⟨rfl, rfl⟩
  · go_enter Tryz.func102, Tryz.ntmps102
    go_wp2_with (go_at_call 34; (with_reducible refine (unhide HWn _).mono ?_); rintro e w1 ⟨rfl, rfl⟩)
    go_ret
    exact ⟨rfl, rfl⟩
/-- Where the first one lies that is not within: -1 if there is none. -/
def fxW (lo hi : Int) : Nat → List Int → Int
  | _, [] => -1
  | k, x :: xs => if win6 x lo hi then fxW lo hi (k + 1) xs else (k : Int)
theorem fxW_step {lo hi : Int} {l : List Int} {k : Nat} (h : k < l.length) : fxW lo hi k (l.drop k) = if win6 l[k] lo hi then fxW lo hi (k + 1) (l.drop (k + 1)) else (k : Int) := by
  rw [List.drop_eq_getElem_cons h]; rfl
theorem fxW_ar {lo hi : Int} : ∀ (l : List Int) (k : Nat), (if arW lo hi l then fxW lo hi k l = -1 else 0 ≤ fxW lo hi k l)
  | [], k => by simp [arW, fxW]
  | x :: xs, k => by
    have ih := fxW_ar (lo := lo) (hi := hi) xs (k + 1)
    unfold arW fxW
    cases win6 x lo hi
    · simp
    · simpa using ih
set_option maxRecDepth 100000 in
theorem p_IndexF6 (b1 b2 : Nat) (lo hi : Int) (A : Option Addr) (l : List Int) (cap : Nat) (w : World) (hI : I6 w A l) (hn : l.length ≤ 9223372036854775807) (h1 : w.cell? ⟨b1, 0, none⟩ = some (.int .i64 lo)) (h2 : w.cell? ⟨b2, 0, none⟩ = some (.int .i64 hi)) :
    Calls Tryz.prog 98 #[.slice A l.length cap, .func (.func 102) #[] #[.pointer (some ⟨b1, 0, none⟩), .pointer (some ⟨b2, 0, none⟩)]] w fun e w' => e = .returned (.int .i64 (fxW lo hi 0 l)) ∧ w = w' := by
  have HC := hide (fun (x : Int) (W : World) (hW : W = w) => (p_are1 b1 b2 x lo hi W (by rw [hW]; exact h1) (by rw [hW]; exact h2)))
  have hf0 : fxW lo hi 0 l = fxW lo hi 0 (l.drop 0) := by rw [List.drop_zero]
  have HS := hide (fun k (h : k < l.length) => fxW_step (lo := lo) (hi := hi) h)
  have hend : fxW lo hi l.length (l.drop l.length) = -1 := by rw [List.drop_length]; rfl
  have HEnd := hide hend
  obtain ⟨F, hF⟩ : ∃ F : Nat → Int, (fun k => fxW lo hi k (l.drop k)) = F := ⟨_, rfl⟩
  have hFk : ∀ k, fxW lo hi k (l.drop k) = F k := fun k => congrFun hF k
  rw [hf0]
  simp only [hFk] at HS HEnd ⊢
  have HI := hide hI
  clear hF hFk hf0 hend hI h1 h2
  obtain ⟨n, hN⟩ : ∃ n, l.length = n := ⟨_, rfl⟩
  have HN := hide hN
  rw [hN] at hn HEnd ⊢
  clear hN
  obtain ⟨wo, rfl⟩ : ∃ wo, wo = w := ⟨_, rfl⟩
  go_enter Tryz.func98, Tryz.ntmps98
  go_wp2
  go_loopw [8] (fun s8 wr => ∃ k : Nat, k ≤ n ∧ s8 = .int .i64 k ∧ wr = wo ∧ Hid (F 0 = F k)) (fun s8 _ => n - (intOf s8).toNat)
  case atStart => exact ⟨0, by omega, rfl, rfl, hide rfl⟩
  case round =>
    obtain ⟨k, hk, rfl, rfl, HF⟩ := hrel
    by_cases hlt : k < n
    · have hl : k < l.length := by rw [unhide HN]; exact hlt
      rcases unhide HI with hnil | ⟨b, off, rfl, hcc⟩
      · rw [hnil] at hl; simp at hl
      have c0 := hcc k hl
      have hst := unhide HS k hl
      have HCk := hide (fun W hW => unhide HC l[k] W hW)
      obtain ⟨r, hr⟩ : ∃ r, win6 l[k] lo hi = r := ⟨_, rfl⟩
      rw [hr] at hst HCk
      generalize l[k] = x at *
      have HST := hide hst
      have hwk : IntKind.i64.wrap ((k : Int) + 1) = (k : Int) + 1 := IntWalk.i64_in _ ⟨by omega, by omega⟩
      have i0 : (0 : Int) ≤ (k : Int) := by omega
      have i1 : (k : Int) < (n : Int) := by omega
      have i2 : (k : Int).toNat = k := by omega
      clear hst hcc hr
      cases r
      · go_wp2_with (go_at_call 102; (with_reducible refine (unhide HCk _ rfl).mono ?_); rintro e w1 ⟨rfl, rfl⟩)
        go_ret
        exact ⟨by rw [unhide HF, unhide HST]; rfl, rfl⟩
      · go_wp2_with (go_at_call 102; (with_reducible refine (unhide HCk _ rfl).mono ?_); rintro e w1 ⟨rfl, rfl⟩)
        go_roundw
        case rel => exact ⟨k + 1, by omega, by go_num, by first | rfl | trivial, hide (by rw [unhide HF, unhide HST]; rfl)⟩
        case measure => simp [intOf]; omega
    · obtain rfl : k = n := by omega
      go_wp2
      go_ret
      exact ⟨by rw [unhide HF, unhide HEnd]; rfl, rfl⟩
theorem p_Contains6 (b1 b2 : Nat) (lo hi : Int) (A : Option Addr) (l : List Int) (cap : Nat) (w : World) (hI : I6 w A l) (hn : l.length ≤ 9223372036854775807) (h1 : w.cell? ⟨b1, 0, none⟩ = some (.int .i64 lo)) (h2 : w.cell? ⟨b2, 0, none⟩ = some (.int .i64 hi)) :
    Calls Tryz.prog 101 #[.slice A l.length cap, .func (.func 102) #[] #[.pointer (some ⟨b1, 0, none⟩), .pointer (some ⟨b2, 0, none⟩)]] w fun e w' => e = .returned (.bool (!(arW lo hi l))) ∧ w = w' := by
  have HC := hide (p_IndexF6 b1 b2 lo hi A l cap w hI hn h1 h2)
  have hx := fxW_ar (lo := lo) (hi := hi) l 0
  obtain ⟨x, hX⟩ : ∃ x, fxW lo hi 0 l = x := ⟨_, rfl⟩
  obtain ⟨r, hR⟩ : ∃ x, arW lo hi l = x := ⟨_, rfl⟩
  rw [hX] at HC hx
  rw [hR] at hx ⊢
  clear hX hR h1 h2 hI hn
  cases r
  · simp only [Bool.false_eq_true, if_false] at hx
    have e1 : decide (x ≥ 0) = true := decide_eq_true hx
    have e2 : decide (0 ≤ x) = true := decide_eq_true hx
    go_enter Tryz.func101, Tryz.ntmps101
    go_wp2_with (go_at_call 98; (with_reducible refine (unhide HC).mono ?_); rintro e w1 ⟨rfl, rfl⟩)
    go_ret
    exact ⟨by first | rfl | (simp; omega), rfl⟩
  · simp only [if_true] at hx
    subst hx
    go_enter Tryz.func101, Tryz.ntmps101
    go_wp2_with (go_at_call 98; (with_reducible refine (unhide HC).mono ?_); rintro e w1 ⟨rfl, rfl⟩)
    go_ret
    exact ⟨by first | rfl | simp, rfl⟩
theorem p_are (lo hi : Int) (A : Option Addr) (l : List Int) (cap : Nat) (w : World) (hI : I6 w A l) (hn : l.length ≤ 9223372036854775807) :
    Calls Tryz.prog 65 #[.slice A l.length cap, .int .i64 lo, .int .i64 hi] w fun e w' => e = .returned (.bool (arW lo hi l)) ∧ Up w w' := by
  have HC := hide (fun (W : World) (b1 b2 : Nat) (h1 : W.cell? ⟨b1, 0, none⟩ = some (.int .i64 lo)) (h2 : W.cell? ⟨b2, 0, none⟩ = some (.int .i64 hi)) (hU : Up w W) => p_Contains6 b1 b2 lo hi A l cap W (i6_up hI hU) hn h1 h2)
  obtain ⟨r, hR⟩ : ∃ x, arW lo hi l = x := ⟨_, rfl⟩
  rw [hR] at HC ⊢
  obtain ⟨n, hN⟩ : ∃ n, l.length = n := ⟨_, rfl⟩
  rw [hN] at HC ⊢
  clear hI hn hR hN
  cases r
  · go_enter Tryz.func65, Tryz.ntmps65
    go_wp2_with (go_at_call 101; (with_reducible refine (unhide HC _ _ _ (by go_cell) (by go_cell) (by repeat' (first | (with_reducible exact up_refl _) | (with_reducible assumption) | (with_reducible refine up_alloc ?_ _) | (with_reducible refine up_drewN ?_ _) | (with_reducible refine up_drew ?_) | (with_reducible refine up_set ?_ (by first | (simp; done) | (simp; omega) | omega) _) | (refine up_trans ?_ (by with_reducible assumption))))).mono ?_); rintro e w1 ⟨rfl, rfl⟩)
    go_ret
    exact ⟨rfl, (by repeat' (first | (with_reducible exact up_refl _) | (with_reducible assumption) | (with_reducible refine up_alloc ?_ _) | (with_reducible refine up_drewN ?_ _) | (with_reducible refine up_drew ?_) | (with_reducible refine up_set ?_ (by first | (simp; done) | (simp; omega) | omega) _) | (refine up_trans ?_ (by with_reducible assumption))))⟩
  · go_enter Tryz.func65, Tryz.ntmps65
    go_wp2_with (go_at_call 101; (with_reducible refine (unhide HC _ _ _ (by go_cell) (by go_cell) (by repeat' (first | (with_reducible exact up_refl _) | (with_reducible assumption) | (with_reducible refine up_alloc ?_ _) | (with_reducible refine up_drewN ?_ _) | (with_reducible refine up_drew ?_) | (with_reducible refine up_set ?_ (by first | (simp; done) | (simp; omega) | omega) _) | (refine up_trans ?_ (by with_reducible assumption))))).mono ?_); rintro e w1 ⟨rfl, rfl⟩)
    go_ret
    exact ⟨rfl, (by repeat' (first | (with_reducible exact up_refl _) | (with_reducible assumption) | (with_reducible refine up_alloc ?_ _) | (with_reducible refine up_drewN ?_ _) | (with_reducible refine up_drew ?_) | (with_reducible refine up_set ?_ (by first | (simp; done) | (simp; omega) | omega) _) | (refine up_trans ?_ (by with_reducible assumption))))⟩
end Go.Proofs.YthifcalemhpmoaaGreat
namespace Go.Proofs.YthifcalemhpmoaaGreat
open Go.RowKit Go.Proofs.Gn
set_option linter.unusedVariables false
def bgF (r0 n1 n2 r1 r2 r3 r4 r5 r6 : Bool) : Int := if r0 then (if n1 && n2 then (if r1 && r2 && r3 then (if r4 && r5 && r6 then 0 else 2) else 2) else 17) else 6
def bgE (b : Brg) : Int := bgF (win6 b.sp.length 1 6) (b.mo.length == b.sp.length) (b.sh.length == b.sp.length) (arW 100 131072 b.sp) (arW 1 1073741824 b.mo) (arW 1 1073741824 b.sh) (win6 b.dy 0 1000) (win6 b.la 1 4) (win6 b.tr 0 4096)
theorem bgE_ok {b : Brg} (h : bgE b = 0) : (1 ≤ b.sp.length ∧ b.sp.length ≤ 6) ∧ (b.mo.length = b.sp.length ∧ b.sh.length = b.sp.length) ∧ (∀ k (h : k < b.sp.length), 100 ≤ b.sp[k] ∧ b.sp[k] ≤ 131072) := by
  unfold bgE bgF at h
  split at h
  · rename_i h0
    split at h
    · rename_i h1
      split at h
      · rename_i h2
        rw [Bool.and_eq_true, Bool.and_eq_true] at h2
        rw [Bool.and_eq_true] at h1
        have t := win6_yes h0
        exact ⟨by omega, ⟨by simpa using h1.1, by simpa using h1.2⟩, arW_all h2.1.1⟩
      · cases h
    · cases h
  · cases h
theorem bgc {W : World} {g n0 n1 n2 : Nat} {A0 A1 A2 : Option Addr} {k0 k1 k2 : Nat} {dy la tr : Int} (h : Bx W g [.slice A0 n0 k0, .slice A1 n1 k1, .slice A2 n2 k2, .int .i64 dy, .int .i64 la, .int .i64 tr]) :
    W.cell? ⟨g, 0, none⟩ = some (.slice A0 n0 k0) ∧ W.cell? ⟨g, 1, none⟩ = some (.slice A1 n1 k1) ∧ W.cell? ⟨g, 2, none⟩ = some (.slice A2 n2 k2) ∧ W.cell? ⟨g, 3, none⟩ = some (.int .i64 dy) ∧ W.cell? ⟨g, 4, none⟩ = some (.int .i64 la) ∧ W.cell? ⟨g, 5, none⟩ = some (.int .i64 tr) :=
  ⟨(h 0 _ rfl).1, (h 1 _ rfl).1, (h 2 _ rfl).1, (h 3 _ rfl).1, (h 4 _ rfl).1, (h 5 _ rfl).1⟩
set_option maxRecDepth 100000 in
set_option maxHeartbeats 4000000 in
theorem p_Check6 (b : Brg) (w : World) (h : BgAt w b) (hn : b.sp.length ≤ 9223372036854775807 ∧ b.mo.length ≤ 9223372036854775807 ∧ b.sh.length ≤ 9223372036854775807) :
    Calls Tryz.prog 67 #[bgV b] w fun e w' => e = .returned (.int .i64 (bgE b)) ∧ Up w w' := by
  have H0 := hide (fun W => p_wI b.sp.length 1 6 W)
  have H1 := hide (fun W (hU : Up w W) => p_are 100 131072 b.A0 b.sp b.k0 W (i6_up h.s hU) hn.1)
  have H2 := hide (fun W (hU : Up w W) => p_are 1 1073741824 b.A1 b.mo b.k1 W (i6_up h.m hU) hn.2.1)
  have H3 := hide (fun W (hU : Up w W) => p_are 1 1073741824 b.A2 b.sh b.k2 W (i6_up h.h hU) hn.2.2)
  have H4 := hide (fun W => p_w64 b.dy 0 1000 W)
  have H5 := hide (fun W => p_wI b.la 1 4 W)
  have H6 := hide (fun W => p_w64 b.tr 0 4096 W)
  unfold bgE bgV
  obtain ⟨sp, mo, sh, A0, A1, A2, k0, k1, k2, dy, la, tr⟩ := b
  dsimp only at *
  obtain ⟨n0, hn0⟩ : ∃ n, sp.length = n := ⟨_, rfl⟩
  obtain ⟨n1, hn1⟩ : ∃ n, mo.length = n := ⟨_, rfl⟩
  obtain ⟨n2, hn2⟩ : ∃ n, sh.length = n := ⟨_, rfl⟩
  rw [hn0] at H0 H1 ⊢
  rw [hn1] at H2 ⊢
  rw [hn2] at H3 ⊢
  generalize win6 (n0 : Int) 1 6 = r0 at *
  generalize arW 100 131072 sp = r1 at *
  generalize arW 1 1073741824 mo = r2 at *
  generalize arW 1 1073741824 sh = r3 at *
  generalize win6 dy 0 1000 = r4 at *
  generalize win6 la 1 4 = r5 at *
  generalize win6 tr 0 4096 = r6 at *
  clear h hn hn0 hn1 hn2
  cases r0
  · go_enter Tryz.func67, Tryz.ntmps67
    go_upto_region 1 with fail
    refine at_wpB (fun W hW => ?_)
    have hB : Bx W w.heap.size [.slice A0 n0 k0, .slice A1 n1 k1, .slice A2 n2 k2, .int .i64 dy, .int .i64 la, .int .i64 tr] := by rw [hW]; exact bx_new w _ _
    have U : Up w W := by rw [hW]; exact (by repeat' (first | (with_reducible exact up_refl _) | (with_reducible assumption) | (with_reducible refine up_alloc ?_ _) | (with_reducible refine up_drewN ?_ _) | (with_reducible refine up_drew ?_) | (with_reducible refine up_set ?_ (by first | (simp; done) | (simp; omega) | omega) _) | (refine up_trans ?_ (by with_reducible assumption))))
    obtain ⟨c0, c1, c2, c3, c4, c5⟩ := bgc hB
    clear hW
    go_wp2_with (first | (go_at_call 71; (with_reducible refine (unhide H0 _).mono ?_); rintro e w1 ⟨rfl, rfl⟩) | (go_at_call 71; (with_reducible refine (unhide H5 _).mono ?_); rintro e w1 ⟨rfl, rfl⟩) | (go_at_call 34; (with_reducible refine (unhide H4 _).mono ?_); rintro e w1 ⟨rfl, rfl⟩) | (go_at_call 34; (with_reducible refine (unhide H6 _).mono ?_); rintro e w1 ⟨rfl, rfl⟩) | (go_at_call 65; (with_reducible refine (unhide H1 _ (by repeat' (first | (with_reducible exact up_refl _) | (with_reducible assumption) | (with_reducible refine up_alloc ?_ _) | (with_reducible refine up_drewN ?_ _) | (with_reducible refine up_drew ?_) | (with_reducible refine up_set ?_ (by first | (simp; done) | (simp; omega) | omega) _) | (refine up_trans ?_ (by with_reducible assumption))))).mono ?_); rintro e w1 ⟨rfl, hu1⟩; obtain ⟨d0, d1, d2, d3, d4, d5⟩ := bgc (bx_up hB (show Up W w1 from (by repeat' (first | (with_reducible exact up_refl _) | (with_reducible assumption) | (with_reducible refine up_alloc ?_ _) | (with_reducible refine up_drewN ?_ _) | (with_reducible refine up_drew ?_) | (with_reducible refine up_set ?_ (by first | (simp; done) | (simp; omega) | omega) _) | (refine up_trans ?_ (by with_reducible assumption))))))) | (go_at_call 65; (with_reducible refine (unhide H2 _ (by repeat' (first | (with_reducible exact up_refl _) | (with_reducible assumption) | (with_reducible refine up_alloc ?_ _) | (with_reducible refine up_drewN ?_ _) | (with_reducible refine up_drew ?_) | (with_reducible refine up_set ?_ (by first | (simp; done) | (simp; omega) | omega) _) | (refine up_trans ?_ (by with_reducible assumption))))).mono ?_); rintro e w2 ⟨rfl, hu2⟩; obtain ⟨e0, e1, e2, e3, e4, e5⟩ := bgc (bx_up hB (show Up W w2 from (by repeat' (first | (with_reducible exact up_refl _) | (with_reducible assumption) | (with_reducible refine up_alloc ?_ _) | (with_reducible refine up_drewN ?_ _) | (with_reducible refine up_drew ?_) | (with_reducible refine up_set ?_ (by first | (simp; done) | (simp; omega) | omega) _) | (refine up_trans ?_ (by with_reducible assumption))))))) | (go_at_call 65; (with_reducible refine (unhide H3 _ (by repeat' (first | (with_reducible exact up_refl _) | (with_reducible assumption) | (with_reducible refine up_alloc ?_ _) | (with_reducible refine up_drewN ?_ _) | (with_reducible refine up_drew ?_) | (with_reducible refine up_set ?_ (by first | (simp; done) | (simp; omega) | omega) _) | (refine up_trans ?_ (by with_reducible assumption))))).mono ?_); rintro e w3 ⟨rfl, hu3⟩; obtain ⟨f0, f1, f2, f3, f4, f5⟩ := bgc (bx_up hB (show Up W w3 from (by repeat' (first | (with_reducible exact up_refl _) | (with_reducible assumption) | (with_reducible refine up_alloc ?_ _) | (with_reducible refine up_drewN ?_ _) | (with_reducible refine up_drew ?_) | (with_reducible refine up_set ?_ (by first | (simp; done) | (simp; omega) | omega) _) | (refine up_trans ?_ (by with_reducible assumption))))))))
    go_ret
    exact ⟨by first | rfl | (simp [bgF, x1]; done) | (simp [bgF, x2]; done) | (simp [bgF]; done), (by repeat' (first | (with_reducible exact up_refl _) | (with_reducible assumption) | (with_reducible refine up_alloc ?_ _) | (with_reducible refine up_drewN ?_ _) | (with_reducible refine up_drew ?_) | (with_reducible refine up_set ?_ (by first | (simp; done) | (simp; omega) | omega) _) | (refine up_trans ?_ (by with_reducible assumption))))⟩
  · by_cases x1 : n1 = n0
    · subst x1
      by_cases x2 : n2 = n1
      · subst x2
        cases r1
        · go_enter Tryz.func67, Tryz.ntmps67
          go_upto_region 1 with fail
          refine at_wpB (fun W hW => ?_)
          have hB : Bx W w.heap.size [.slice A0 n2 k0, .slice A1 n2 k1, .slice A2 n2 k2, .int .i64 dy, .int .i64 la, .int .i64 tr] := by rw [hW]; exact bx_new w _ _
          have U : Up w W := by rw [hW]; exact (by repeat' (first | (with_reducible exact up_refl _) | (with_reducible assumption) | (with_reducible refine up_alloc ?_ _) | (with_reducible refine up_drewN ?_ _) | (with_reducible refine up_drew ?_) | (with_reducible refine up_set ?_ (by first | (simp; done) | (simp; omega) | omega) _) | (refine up_trans ?_ (by with_reducible assumption))))
          obtain ⟨c0, c1, c2, c3, c4, c5⟩ := bgc hB
          clear hW
          go_wp2_with (first | (go_at_call 71; (with_reducible refine (unhide H0 _).mono ?_); rintro e w1 ⟨rfl, rfl⟩) | (go_at_call 71; (with_reducible refine (unhide H5 _).mono ?_); rintro e w1 ⟨rfl, rfl⟩) | (go_at_call 34; (with_reducible refine (unhide H4 _).mono ?_); rintro e w1 ⟨rfl, rfl⟩) | (go_at_call 34; (with_reducible refine (unhide H6 _).mono ?_); rintro e w1 ⟨rfl, rfl⟩) | (go_at_call 65; (with_reducible refine (unhide H1 _ (by repeat' (first | (with_reducible exact up_refl _) | (with_reducible assumption) | (with_reducible refine up_alloc ?_ _) | (with_reducible refine up_drewN ?_ _) | (with_reducible refine up_drew ?_) | (with_reducible refine up_set ?_ (by first | (simp; done) | (simp; omega) | omega) _) | (refine up_trans ?_ (by with_reducible assumption))))).mono ?_); rintro e w1 ⟨rfl, hu1⟩; obtain ⟨d0, d1, d2, d3, d4, d5⟩ := bgc (bx_up hB (show Up W w1 from (by repeat' (first | (with_reducible exact up_refl _) | (with_reducible assumption) | (with_reducible refine up_alloc ?_ _) | (with_reducible refine up_drewN ?_ _) | (with_reducible refine up_drew ?_) | (with_reducible refine up_set ?_ (by first | (simp; done) | (simp; omega) | omega) _) | (refine up_trans ?_ (by with_reducible assumption))))))) | (go_at_call 65; (with_reducible refine (unhide H2 _ (by repeat' (first | (with_reducible exact up_refl _) | (with_reducible assumption) | (with_reducible refine up_alloc ?_ _) | (with_reducible refine up_drewN ?_ _) | (with_reducible refine up_drew ?_) | (with_reducible refine up_set ?_ (by first | (simp; done) | (simp; omega) | omega) _) | (refine up_trans ?_ (by with_reducible assumption))))).mono ?_); rintro e w2 ⟨rfl, hu2⟩; obtain ⟨e0, e1, e2, e3, e4, e5⟩ := bgc (bx_up hB (show Up W w2 from (by repeat' (first | (with_reducible exact up_refl _) | (with_reducible assumption) | (with_reducible refine up_alloc ?_ _) | (with_reducible refine up_drewN ?_ _) | (with_reducible refine up_drew ?_) | (with_reducible refine up_set ?_ (by first | (simp; done) | (simp; omega) | omega) _) | (refine up_trans ?_ (by with_reducible assumption))))))) | (go_at_call 65; (with_reducible refine (unhide H3 _ (by repeat' (first | (with_reducible exact up_refl _) | (with_reducible assumption) | (with_reducible refine up_alloc ?_ _) | (with_reducible refine up_drewN ?_ _) | (with_reducible refine up_drew ?_) | (with_reducible refine up_set ?_ (by first | (simp; done) | (simp; omega) | omega) _) | (refine up_trans ?_ (by with_reducible assumption))))).mono ?_); rintro e w3 ⟨rfl, hu3⟩; obtain ⟨f0, f1, f2, f3, f4, f5⟩ := bgc (bx_up hB (show Up W w3 from (by repeat' (first | (with_reducible exact up_refl _) | (with_reducible assumption) | (with_reducible refine up_alloc ?_ _) | (with_reducible refine up_drewN ?_ _) | (with_reducible refine up_drew ?_) | (with_reducible refine up_set ?_ (by first | (simp; done) | (simp; omega) | omega) _) | (refine up_trans ?_ (by with_reducible assumption))))))))
          go_ret
          exact ⟨by first | rfl | (simp [bgF, x1]; done) | (simp [bgF, x2]; done) | (simp [bgF]; done), (by repeat' (first | (with_reducible exact up_refl _) | (with_reducible assumption) | (with_reducible refine up_alloc ?_ _) | (with_reducible refine up_drewN ?_ _) | (with_reducible refine up_drew ?_) | (with_reducible refine up_set ?_ (by first | (simp; done) | (simp; omega) | omega) _) | (refine up_trans ?_ (by with_reducible assumption))))⟩
        · skip
          cases r2
          · go_enter Tryz.func67, Tryz.ntmps67
            go_upto_region 1 with fail
            refine at_wpB (fun W hW => ?_)
            have hB : Bx W w.heap.size [.slice A0 n2 k0, .slice A1 n2 k1, .slice A2 n2 k2, .int .i64 dy, .int .i64 la, .int .i64 tr] := by rw [hW]; exact bx_new w _ _
            have U : Up w W := by rw [hW]; exact (by repeat' (first | (with_reducible exact up_refl _) | (with_reducible assumption) | (with_reducible refine up_alloc ?_ _) | (with_reducible refine up_drewN ?_ _) | (with_reducible refine up_drew ?_) | (with_reducible refine up_set ?_ (by first | (simp; done) | (simp; omega) | omega) _) | (refine up_trans ?_ (by with_reducible assumption))))
            obtain ⟨c0, c1, c2, c3, c4, c5⟩ := bgc hB
            clear hW
            go_wp2_with (first | (go_at_call 71; (with_reducible refine (unhide H0 _).mono ?_); rintro e w1 ⟨rfl, rfl⟩) | (go_at_call 71; (with_reducible refine (unhide H5 _).mono ?_); rintro e w1 ⟨rfl, rfl⟩) | (go_at_call 34; (with_reducible refine (unhide H4 _).mono ?_); rintro e w1 ⟨rfl, rfl⟩) | (go_at_call 34; (with_reducible refine (unhide H6 _).mono ?_); rintro e w1 ⟨rfl, rfl⟩) | (go_at_call 65; (with_reducible refine (unhide H1 _ (by repeat' (first | (with_reducible exact up_refl _) | (with_reducible assumption) | (with_reducible refine up_alloc ?_ _) | (with_reducible refine up_drewN ?_ _) | (with_reducible refine up_drew ?_) | (with_reducible refine up_set ?_ (by first | (simp; done) | (simp; omega) | omega) _) | (refine up_trans ?_ (by with_reducible assumption))))).mono ?_); rintro e w1 ⟨rfl, hu1⟩; obtain ⟨d0, d1, d2, d3, d4, d5⟩ := bgc (bx_up hB (show Up W w1 from (by repeat' (first | (with_reducible exact up_refl _) | (with_reducible assumption) | (with_reducible refine up_alloc ?_ _) | (with_reducible refine up_drewN ?_ _) | (with_reducible refine up_drew ?_) | (with_reducible refine up_set ?_ (by first | (simp; done) | (simp; omega) | omega) _) | (refine up_trans ?_ (by with_reducible assumption))))))) | (go_at_call 65; (with_reducible refine (unhide H2 _ (by repeat' (first | (with_reducible exact up_refl _) | (with_reducible assumption) | (with_reducible refine up_alloc ?_ _) | (with_reducible refine up_drewN ?_ _) | (with_reducible refine up_drew ?_) | (with_reducible refine up_set ?_ (by first | (simp; done) | (simp; omega) | omega) _) | (refine up_trans ?_ (by with_reducible assumption))))).mono ?_); rintro e w2 ⟨rfl, hu2⟩; obtain ⟨e0, e1, e2, e3, e4, e5⟩ := bgc (bx_up hB (show Up W w2 from (by repeat' (first | (with_reducible exact up_refl _) | (with_reducible assumption) | (with_reducible refine up_alloc ?_ _) | (with_reducible refine up_drewN ?_ _) | (with_reducible refine up_drew ?_) | (with_reducible refine up_set ?_ (by first | (simp; done) | (simp; omega) | omega) _) | (refine up_trans ?_ (by with_reducible assumption))))))) | (go_at_call 65; (with_reducible refine (unhide H3 _ (by repeat' (first | (with_reducible exact up_refl _) | (with_reducible assumption) | (with_reducible refine up_alloc ?_ _) | (with_reducible refine up_drewN ?_ _) | (with_reducible refine up_drew ?_) | (with_reducible refine up_set ?_ (by first | (simp; done) | (simp; omega) | omega) _) | (refine up_trans ?_ (by with_reducible assumption))))).mono ?_); rintro e w3 ⟨rfl, hu3⟩; obtain ⟨f0, f1, f2, f3, f4, f5⟩ := bgc (bx_up hB (show Up W w3 from (by repeat' (first | (with_reducible exact up_refl _) | (with_reducible assumption) | (with_reducible refine up_alloc ?_ _) | (with_reducible refine up_drewN ?_ _) | (with_reducible refine up_drew ?_) | (with_reducible refine up_set ?_ (by first | (simp; done) | (simp; omega) | omega) _) | (refine up_trans ?_ (by with_reducible assumption))))))))
            go_ret
            exact ⟨by first | rfl | (simp [bgF, x1]; done) | (simp [bgF, x2]; done) | (simp [bgF]; done), (by repeat' (first | (with_reducible exact up_refl _) | (with_reducible assumption) | (with_reducible refine up_alloc ?_ _) | (with_reducible refine up_drewN ?_ _) | (with_reducible refine up_drew ?_) | (with_reducible refine up_set ?_ (by first | (simp; done) | (simp; omega) | omega) _) | (refine up_trans ?_ (by with_reducible assumption))))⟩
          · skip
            cases r3
            · go_enter Tryz.func67, Tryz.ntmps67
              go_upto_region 1 with fail
              refine at_wpB (fun W hW => ?_)
              have hB : Bx W w.heap.size [.slice A0 n2 k0, .slice A1 n2 k1, .slice A2 n2 k2, .int .i64 dy, .int .i64 la, .int .i64 tr] := by rw [hW]; exact bx_new w _ _
              have U : Up w W := by rw [hW]; exact (by repeat' (first | (with_reducible exact up_refl _) | (with_reducible assumption) | (with_reducible refine up_alloc ?_ _) | (with_reducible refine up_drewN ?_ _) | (with_reducible refine up_drew ?_) | (with_reducible refine up_set ?_ (by first | (simp; done) | (simp; omega) | omega) _) | (refine up_trans ?_ (by with_reducible assumption))))
              obtain ⟨c0, c1, c2, c3, c4, c5⟩ := bgc hB
              clear hW
              go_wp2_with (first | (go_at_call 71; (with_reducible refine (unhide H0 _).mono ?_); rintro e w1 ⟨rfl, rfl⟩) | (go_at_call 71; (with_reducible refine (unhide H5 _).mono ?_); rintro e w1 ⟨rfl, rfl⟩) | (go_at_call 34; (with_reducible refine (unhide H4 _).mono ?_); rintro e w1 ⟨rfl, rfl⟩) | (go_at_call 34; (with_reducible refine (unhide H6 _).mono ?_); rintro e w1 ⟨rfl, rfl⟩) | (go_at_call 65; (with_reducible refine (unhide H1 _ (by repeat' (first | (with_reducible exact up_refl _) | (with_reducible assumption) | (with_reducible refine up_alloc ?_ _) | (with_reducible refine up_drewN ?_ _) | (with_reducible refine up_drew ?_) | (with_reducible refine up_set ?_ (by first | (simp; done) | (simp; omega) | omega) _) | (refine up_trans ?_ (by with_reducible assumption))))).mono ?_); rintro e w1 ⟨rfl, hu1⟩; obtain ⟨d0, d1, d2, d3, d4, d5⟩ := bgc (bx_up hB (show Up W w1 from (by repeat' (first | (with_reducible exact up_refl _) | (with_reducible assumption) | (with_reducible refine up_alloc ?_ _) | (with_reducible refine up_drewN ?_ _) | (with_reducible refine up_drew ?_) | (with_reducible refine up_set ?_ (by first | (simp; done) | (simp; omega) | omega) _) | (refine up_trans ?_ (by with_reducible assumption))))))) | (go_at_call 65; (with_reducible refine (unhide H2 _ (by repeat' (first | (with_reducible exact up_refl _) | (with_reducible assumption) | (with_reducible refine up_alloc ?_ _) | (with_reducible refine up_drewN ?_ _) | (with_reducible refine up_drew ?_) | (with_reducible refine up_set ?_ (by first | (simp; done) | (simp; omega) | omega) _) | (refine up_trans ?_ (by with_reducible assumption))))).mono ?_); rintro e w2 ⟨rfl, hu2⟩; obtain ⟨e0, e1, e2, e3, e4, e5⟩ := bgc (bx_up hB (show Up W w2 from (by repeat' (first | (with_reducible exact up_refl _) | (with_reducible assumption) | (with_reducible refine up_alloc ?_ _) | (with_reducible refine up_drewN ?_ _) | (with_reducible refine up_drew ?_) | (with_reducible refine up_set ?_ (by first | (simp; done) | (simp; omega) | omega) _) | (refine up_trans ?_ (by with_reducible assumption))))))) | (go_at_call 65; (with_reducible refine (unhide H3 _ (by repeat' (first | (with_reducible exact up_refl _) | (with_reducible assumption) | (with_reducible refine up_alloc ?_ _) | (with_reducible refine up_drewN ?_ _) | (with_reducible refine up_drew ?_) | (with_reducible refine up_set ?_ (by first | (simp; done) | (simp; omega) | omega) _) | (refine up_trans ?_ (by with_reducible assumption))))).mono ?_); rintro e w3 ⟨rfl, hu3⟩; obtain ⟨f0, f1, f2, f3, f4, f5⟩ := bgc (bx_up hB (show Up W w3 from (by repeat' (first | (with_reducible exact up_refl _) | (with_reducible assumption) | (with_reducible refine up_alloc ?_ _) | (with_reducible refine up_drewN ?_ _) | (with_reducible refine up_drew ?_) | (with_reducible refine up_set ?_ (by first | (simp; done) | (simp; omega) | omega) _) | (refine up_trans ?_ (by with_reducible assumption))))))))
              go_ret
              exact ⟨by first | rfl | (simp [bgF, x1]; done) | (simp [bgF, x2]; done) | (simp [bgF]; done), (by repeat' (first | (with_reducible exact up_refl _) | (with_reducible assumption) | (with_reducible refine up_alloc ?_ _) | (with_reducible refine up_drewN ?_ _) | (with_reducible refine up_drew ?_) | (with_reducible refine up_set ?_ (by first | (simp; done) | (simp; omega) | omega) _) | (refine up_trans ?_ (by with_reducible assumption))))⟩
            · skip
              cases r4
              · go_enter Tryz.func67, Tryz.ntmps67
                go_upto_region 1 with fail
                refine at_wpB (fun W hW => ?_)
                have hB : Bx W w.heap.size [.slice A0 n2 k0, .slice A1 n2 k1, .slice A2 n2 k2, .int .i64 dy, .int .i64 la, .int .i64 tr] := by rw [hW]; exact bx_new w _ _
                have U : Up w W := by rw [hW]; exact (by repeat' (first | (with_reducible exact up_refl _) | (with_reducible assumption) | (with_reducible refine up_alloc ?_ _) | (with_reducible refine up_drewN ?_ _) | (with_reducible refine up_drew ?_) | (with_reducible refine up_set ?_ (by first | (simp; done) | (simp; omega) | omega) _) | (refine up_trans ?_ (by with_reducible assumption))))
                obtain ⟨c0, c1, c2, c3, c4, c5⟩ := bgc hB
                clear hW
                go_wp2_with (first | (go_at_call 71; (with_reducible refine (unhide H0 _).mono ?_); rintro e w1 ⟨rfl, rfl⟩) | (go_at_call 71; (with_reducible refine (unhide H5 _).mono ?_); rintro e w1 ⟨rfl, rfl⟩) | (go_at_call 34; (with_reducible refine (unhide H4 _).mono ?_); rintro e w1 ⟨rfl, rfl⟩) | (go_at_call 34; (with_reducible refine (unhide H6 _).mono ?_); rintro e w1 ⟨rfl, rfl⟩) | (go_at_call 65; (with_reducible refine (unhide H1 _ (by repeat' (first | (with_reducible exact up_refl _) | (with_reducible assumption) | (with_reducible refine up_alloc ?_ _) | (with_reducible refine up_drewN ?_ _) | (with_reducible refine up_drew ?_) | (with_reducible refine up_set ?_ (by first | (simp; done) | (simp; omega) | omega) _) | (refine up_trans ?_ (by with_reducible assumption))))).mono ?_); rintro e w1 ⟨rfl, hu1⟩; obtain ⟨d0, d1, d2, d3, d4, d5⟩ := bgc (bx_up hB (show Up W w1 from (by repeat' (first | (with_reducible exact up_refl _) | (with_reducible assumption) | (with_reducible refine up_alloc ?_ _) | (with_reducible refine up_drewN ?_ _) | (with_reducible refine up_drew ?_) | (with_reducible refine up_set ?_ (by first | (simp; done) | (simp; omega) | omega) _) | (refine up_trans ?_ (by with_reducible assumption))))))) | (go_at_call 65; (with_reducible refine (unhide H2 _ (by repeat' (first | (with_reducible exact up_refl _) | (with_reducible assumption) | (with_reducible refine up_alloc ?_ _) | (with_reducible refine up_drewN ?_ _) | (with_reducible refine up_drew ?_) | (with_reducible refine up_set ?_ (by first | (simp; done) | (simp; omega) | omega) _) | (refine up_trans ?_ (by with_reducible assumption))))).mono ?_); rintro e w2 ⟨rfl, hu2⟩; obtain ⟨e0, e1, e2, e3, e4, e5⟩ := bgc (bx_up hB (show Up W w2 from (by repeat' (first | (with_reducible exact up_refl _) | (with_reducible assumption) | (with_reducible refine up_alloc ?_ _) | (with_reducible refine up_drewN ?_ _) | (with_reducible refine up_drew ?_) | (with_reducible refine up_set ?_ (by first | (simp; done) | (simp; omega) | omega) _) | (refine up_trans ?_ (by with_reducible assumption))))))) | (go_at_call 65; (with_reducible refine (unhide H3 _ (by repeat' (first | (with_reducible exact up_refl _) | (with_reducible assumption) | (with_reducible refine up_alloc ?_ _) | (with_reducible refine up_drewN ?_ _) | (with_reducible refine up_drew ?_) | (with_reducible refine up_set ?_ (by first | (simp; done) | (simp; omega) | omega) _) | (refine up_trans ?_ (by with_reducible assumption))))).mono ?_); rintro e w3 ⟨rfl, hu3⟩; obtain ⟨f0, f1, f2, f3, f4, f5⟩ := bgc (bx_up hB (show Up W w3 from (by repeat' (first | (with_reducible exact up_refl _) | (with_reducible assumption) | (with_reducible refine up_alloc ?_ _) | (with_reducible refine up_drewN ?_ _) | (with_reducible refine up_drew ?_) | (with_reducible refine up_set ?_ (by first | (simp; done) | (simp; omega) | omega) _) | (refine up_trans ?_ (by with_reducible assumption))))))))
                go_ret
                exact ⟨by first | rfl | (simp [bgF, x1]; done) | (simp [bgF, x2]; done) | (simp [bgF]; done), (by repeat' (first | (with_reducible exact up_refl _) | (with_reducible assumption) | (with_reducible refine up_alloc ?_ _) | (with_reducible refine up_drewN ?_ _) | (with_reducible refine up_drew ?_) | (with_reducible refine up_set ?_ (by first | (simp; done) | (simp; omega) | omega) _) | (refine up_trans ?_ (by with_reducible assumption))))⟩
              · skip
                cases r5
                · go_enter Tryz.func67, Tryz.ntmps67
                  go_upto_region 1 with fail
                  refine at_wpB (fun W hW => ?_)
                  have hB : Bx W w.heap.size [.slice A0 n2 k0, .slice A1 n2 k1, .slice A2 n2 k2, .int .i64 dy, .int .i64 la, .int .i64 tr] := by rw [hW]; exact bx_new w _ _
                  have U : Up w W := by rw [hW]; exact (by repeat' (first | (with_reducible exact up_refl _) | (with_reducible assumption) | (with_reducible refine up_alloc ?_ _) | (with_reducible refine up_drewN ?_ _) | (with_reducible refine up_drew ?_) | (with_reducible refine up_set ?_ (by first | (simp; done) | (simp; omega) | omega) _) | (refine up_trans ?_ (by with_reducible assumption))))
                  obtain ⟨c0, c1, c2, c3, c4, c5⟩ := bgc hB
                  clear hW
                  go_wp2_with (first | (go_at_call 71; (with_reducible refine (unhide H0 _).mono ?_); rintro e w1 ⟨rfl, rfl⟩) | (go_at_call 71; (with_reducible refine (unhide H5 _).mono ?_); rintro e w1 ⟨rfl, rfl⟩) | (go_at_call 34; (with_reducible refine (unhide H4 _).mono ?_); rintro e w1 ⟨rfl, rfl⟩) | (go_at_call 34; (with_reducible refine (unhide H6 _).mono ?_); rintro e w1 ⟨rfl, rfl⟩) | (go_at_call 65; (with_reducible refine (unhide H1 _ (by repeat' (first | (with_reducible exact up_refl _) | (with_reducible assumption) | (with_reducible refine up_alloc ?_ _) | (with_reducible refine up_drewN ?_ _) | (with_reducible refine up_drew ?_) | (with_reducible refine up_set ?_ (by first | (simp; done) | (simp; omega) | omega) _) | (refine up_trans ?_ (by with_reducible assumption))))).mono ?_); rintro e w1 ⟨rfl, hu1⟩; obtain ⟨d0, d1, d2, d3, d4, d5⟩ := bgc (bx_up hB (show Up W w1 from (by repeat' (first | (with_reducible exact up_refl _) | (with_reducible assumption) | (with_reducible refine up_alloc ?_ _) | (with_reducible refine up_drewN ?_ _) | (with_reducible refine up_drew ?_) | (with_reducible refine up_set ?_ (by first | (simp; done) | (simp; omega) | omega) _) | (refine up_trans ?_ (by with_reducible assumption))))))) | (go_at_call 65; (with_reducible refine (unhide H2 _ (by repeat' (first | (with_reducible exact up_refl _) | (with_reducible assumption) | (with_reducible refine up_alloc ?_ _) | (with_reducible refine up_drewN ?_ _) | (with_reducible refine up_drew ?_) | (with_reducible refine up_set ?_ (by first | (simp; done) | (simp; omega) | omega) _) | (refine up_trans ?_ (by with_reducible assumption))))).mono ?_); rintro e w2 ⟨rfl, hu2⟩; obtain ⟨e0, e1, e2, e3, e4, e5⟩ := bgc (bx_up hB (show Up W w2 from (by repeat' (first | (with_reducible exact up_refl _) | (with_reducible assumption) | (with_reducible refine up_alloc ?_ _) | (with_reducible refine up_drewN ?_ _) | (with_reducible refine up_drew ?_) | (with_reducible refine up_set ?_ (by first | (simp; done) | (simp; omega) | omega) _) | (refine up_trans ?_ (by with_reducible assumption))))))) | (go_at_call 65; (with_reducible refine (unhide H3 _ (by repeat' (first | (with_reducible exact up_refl _) | (with_reducible assumption) | (with_reducible refine up_alloc ?_ _) | (with_reducible refine up_drewN ?_ _) | (with_reducible refine up_drew ?_) | (with_reducible refine up_set ?_ (by first | (simp; done) | (simp; omega) | omega) _) | (refine up_trans ?_ (by with_reducible assumption))))).mono ?_); rintro e w3 ⟨rfl, hu3⟩; obtain ⟨f0, f1, f2, f3, f4, f5⟩ := bgc (bx_up hB (show Up W w3 from (by repeat' (first | (with_reducible exact up_refl _) | (with_reducible assumption) | (with_reducible refine up_alloc ?_ _) | (with_reducible refine up_drewN ?_ _) | (with_reducible refine up_drew ?_) | (with_reducible refine up_set ?_ (by first | (simp; done) | (simp; omega) | omega) _) | (refine up_trans ?_ (by with_reducible assumption))))))))
                  go_ret
                  exact ⟨by first | rfl | (simp [bgF, x1]; done) | (simp [bgF, x2]; done) | (simp [bgF]; done), (by repeat' (first | (with_reducible exact up_refl _) | (with_reducible assumption) | (with_reducible refine up_alloc ?_ _) | (with_reducible refine up_drewN ?_ _) | (with_reducible refine up_drew ?_) | (with_reducible refine up_set ?_ (by first | (simp; done) | (simp; omega) | omega) _) | (refine up_trans ?_ (by with_reducible assumption))))⟩
                · skip
                  cases r6
                  · go_enter Tryz.func67, Tryz.ntmps67
                    go_upto_region 1 with fail
                    refine at_wpB (fun W hW => ?_)
                    have hB : Bx W w.heap.size [.slice A0 n2 k0, .slice A1 n2 k1, .slice A2 n2 k2, .int .i64 dy, .int .i64 la, .int .i64 tr] := by rw [hW]; exact bx_new w _ _
                    have U : Up w W := by rw [hW]; exact (by repeat' (first | (with_reducible exact up_refl _) | (with_reducible assumption) | (with_reducible refine up_alloc ?_ _) | (with_reducible refine up_drewN ?_ _) | (with_reducible refine up_drew ?_) | (with_reducible refine up_set ?_ (by first | (simp; done) | (simp; omega) | omega) _) | (refine up_trans ?_ (by with_reducible assumption))))
                    obtain ⟨c0, c1, c2, c3, c4, c5⟩ := bgc hB
                    clear hW
                    go_wp2_with (first | (go_at_call 71; (with_reducible refine (unhide H0 _).mono ?_); rintro e w1 ⟨rfl, rfl⟩) | (go_at_call 71; (with_reducible refine (unhide H5 _).mono ?_); rintro e w1 ⟨rfl, rfl⟩) | (go_at_call 34; (with_reducible refine (unhide H4 _).mono ?_); rintro e w1 ⟨rfl, rfl⟩) | (go_at_call 34; (with_reducible refine (unhide H6 _).mono ?_); rintro e w1 ⟨rfl, rfl⟩) | (go_at_call 65; (with_reducible refine (unhide H1 _ (by repeat' (first | (with_reducible exact up_refl _) | (with_reducible assumption) | (with_reducible refine up_alloc ?_ _) | (with_reducible refine up_drewN ?_ _) | (with_reducible refine up_drew ?_) | (with_reducible refine up_set ?_ (by first | (simp; done) | (simp; omega) | omega) _) | (refine up_trans ?_ (by with_reducible assumption))))).mono ?_); rintro e w1 ⟨rfl, hu1⟩; obtain ⟨d0, d1, d2, d3, d4, d5⟩ := bgc (bx_up hB (show Up W w1 from (by repeat' (first | (with_reducible exact up_refl _) | (with_reducible assumption) | (with_reducible refine up_alloc ?_ _) | (with_reducible refine up_drewN ?_ _) | (with_reducible refine up_drew ?_) | (with_reducible refine up_set ?_ (by first | (simp; done) | (simp; omega) | omega) _) | (refine up_trans ?_ (by with_reducible assumption))))))) | (go_at_call 65; (with_reducible refine (unhide H2 _ (by repeat' (first | (with_reducible exact up_refl _) | (with_reducible assumption) | (with_reducible refine up_alloc ?_ _) | (with_reducible refine up_drewN ?_ _) | (with_reducible refine up_drew ?_) | (with_reducible refine up_set ?_ (by first | (simp; done) | (simp; omega) | omega) _) | (refine up_trans ?_ (by with_reducible assumption))))).mono ?_); rintro e w2 ⟨rfl, hu2⟩; obtain ⟨e0, e1, e2, e3, e4, e5⟩ := bgc (bx_up hB (show Up W w2 from (by repeat' (first | (with_reducible exact up_refl _) | (with_reducible assumption) | (with_reducible refine up_alloc ?_ _) | (with_reducible refine up_drewN ?_ _) | (with_reducible refine up_drew ?_) | (with_reducible refine up_set ?_ (by first | (simp; done) | (simp; omega) | omega) _) | (refine up_trans ?_ (by with_reducible assumption))))))) | (go_at_call 65; (with_reducible refine (unhide H3 _ (by repeat' (first | (with_reducible exact up_refl _) | (with_reducible assumption) | (with_reducible refine up_alloc ?_ _) | (with_reducible refine up_drewN ?_ _) | (with_reducible refine up_drew ?_) | (with_reducible refine up_set ?_ (by first | (simp; done) | (simp; omega) | omega) _) | (refine up_trans ?_ (by with_reducible assumption))))).mono ?_); rintro e w3 ⟨rfl, hu3⟩; obtain ⟨f0, f1, f2, f3, f4, f5⟩ := bgc (bx_up hB (show Up W w3 from (by repeat' (first | (with_reducible exact up_refl _) | (with_reducible assumption) | (with_reducible refine up_alloc ?_ _) | (with_reducible refine up_drewN ?_ _) | (with_reducible refine up_drew ?_) | (with_reducible refine up_set ?_ (by first | (simp; done) | (simp; omega) | omega) _) | (refine up_trans ?_ (by with_reducible assumption))))))))
                    go_ret
                    exact ⟨by first | rfl | (simp [bgF, x1]; done) | (simp [bgF, x2]; done) | (simp [bgF]; done), (by repeat' (first | (with_reducible exact up_refl _) | (with_reducible assumption) | (with_reducible refine up_alloc ?_ _) | (with_reducible refine up_drewN ?_ _) | (with_reducible refine up_drew ?_) | (with_reducible refine up_set ?_ (by first | (simp; done) | (simp; omega) | omega) _) | (refine up_trans ?_ (by with_reducible assumption))))⟩
                  · go_enter Tryz.func67, Tryz.ntmps67
                    go_upto_region 1 with fail
                    refine at_wpB (fun W hW => ?_)
                    have hB : Bx W w.heap.size [.slice A0 n2 k0, .slice A1 n2 k1, .slice A2 n2 k2, .int .i64 dy, .int .i64 la, .int .i64 tr] := by rw [hW]; exact bx_new w _ _
                    have U : Up w W := by rw [hW]; exact (by repeat' (first | (with_reducible exact up_refl _) | (with_reducible assumption) | (with_reducible refine up_alloc ?_ _) | (with_reducible refine up_drewN ?_ _) | (with_reducible refine up_drew ?_) | (with_reducible refine up_set ?_ (by first | (simp; done) | (simp; omega) | omega) _) | (refine up_trans ?_ (by with_reducible assumption))))
                    obtain ⟨c0, c1, c2, c3, c4, c5⟩ := bgc hB
                    clear hW
                    go_wp2_with (first | (go_at_call 71; (with_reducible refine (unhide H0 _).mono ?_); rintro e w1 ⟨rfl, rfl⟩) | (go_at_call 71; (with_reducible refine (unhide H5 _).mono ?_); rintro e w1 ⟨rfl, rfl⟩) | (go_at_call 34; (with_reducible refine (unhide H4 _).mono ?_); rintro e w1 ⟨rfl, rfl⟩) | (go_at_call 34; (with_reducible refine (unhide H6 _).mono ?_); rintro e w1 ⟨rfl, rfl⟩) | (go_at_call 65; (with_reducible refine (unhide H1 _ (by repeat' (first | (with_reducible exact up_refl _) | (with_reducible assumption) | (with_reducible refine up_alloc ?_ _) | (with_reducible refine up_drewN ?_ _) | (with_reducible refine up_drew ?_) | (with_reducible refine up_set ?_ (by first | (simp; done) | (simp; omega) | omega) _) | (refine up_trans ?_ (by with_reducible assumption))))).mono ?_); rintro e w1 ⟨rfl, hu1⟩; obtain ⟨d0, d1, d2, d3, d4, d5⟩ := bgc (bx_up hB (show Up W w1 from (by repeat' (first | (with_reducible exact up_refl _) | (with_reducible assumption) | (with_reducible refine up_alloc ?_ _) | (with_reducible refine up_drewN ?_ _) | (with_reducible refine up_drew ?_) | (with_reducible refine up_set ?_ (by first | (simp; done) | (simp; omega) | omega) _) | (refine up_trans ?_ (by with_reducible assumption))))))) | (go_at_call 65; (with_reducible refine (unhide H2 _ (by repeat' (first | (with_reducible exact up_refl _) | (with_reducible assumption) | (with_reducible refine up_alloc ?_ _) | (with_reducible refine up_drewN ?_ _) | (with_reducible refine up_drew ?_) | (with_reducible refine up_set ?_ (by first | (simp; done) | (simp; omega) | omega) _) | (refine up_trans ?_ (by with_reducible assumption))))).mono ?_); rintro e w2 ⟨rfl, hu2⟩; obtain ⟨e0, e1, e2, e3, e4, e5⟩ := bgc (bx_up hB (show Up W w2 from (by repeat' (first | (with_reducible exact up_refl _) | (with_reducible assumption) | (with_reducible refine up_alloc ?_ _) | (with_reducible refine up_drewN ?_ _) | (with_reducible refine up_drew ?_) | (with_reducible refine up_set ?_ (by first | (simp; done) | (simp; omega) | omega) _) | (refine up_trans ?_ (by with_reducible assumption))))))) | (go_at_call 65; (with_reducible refine (unhide H3 _ (by repeat' (first | (with_reducible exact up_refl _) | (with_reducible assumption) | (with_reducible refine up_alloc ?_ _) | (with_reducible refine up_drewN ?_ _) | (with_reducible refine up_drew ?_) | (with_reducible refine up_set ?_ (by first | (simp; done) | (simp; omega) | omega) _) | (refine up_trans ?_ (by with_reducible assumption))))).mono ?_); rintro e w3 ⟨rfl, hu3⟩; obtain ⟨f0, f1, f2, f3, f4, f5⟩ := bgc (bx_up hB (show Up W w3 from (by repeat' (first | (with_reducible exact up_refl _) | (with_reducible assumption) | (with_reducible refine up_alloc ?_ _) | (with_reducible refine up_drewN ?_ _) | (with_reducible refine up_drew ?_) | (with_reducible refine up_set ?_ (by first | (simp; done) | (simp; omega) | omega) _) | (refine up_trans ?_ (by with_reducible assumption))))))))
                    go_ret
                    exact ⟨by first | rfl | (simp [bgF, x1]; done) | (simp [bgF, x2]; done) | (simp [bgF]; done), (by repeat' (first | (with_reducible exact up_refl _) | (with_reducible assumption) | (with_reducible refine up_alloc ?_ _) | (with_reducible refine up_drewN ?_ _) | (with_reducible refine up_drew ?_) | (with_reducible refine up_set ?_ (by first | (simp; done) | (simp; omega) | omega) _) | (refine up_trans ?_ (by with_reducible assumption))))⟩
      · have y2 : ((n2 : Int) == (n1 : Int)) = false := by simp; omega
        have y3 : (n2 == n1) = false := by simp; omega
        go_enter Tryz.func67, Tryz.ntmps67
        go_upto_region 1 with fail
        refine at_wpB (fun W hW => ?_)
        have hB : Bx W w.heap.size [.slice A0 n1 k0, .slice A1 n1 k1, .slice A2 n2 k2, .int .i64 dy, .int .i64 la, .int .i64 tr] := by rw [hW]; exact bx_new w _ _
        have U : Up w W := by rw [hW]; exact (by repeat' (first | (with_reducible exact up_refl _) | (with_reducible assumption) | (with_reducible refine up_alloc ?_ _) | (with_reducible refine up_drewN ?_ _) | (with_reducible refine up_drew ?_) | (with_reducible refine up_set ?_ (by first | (simp; done) | (simp; omega) | omega) _) | (refine up_trans ?_ (by with_reducible assumption))))
        obtain ⟨c0, c1, c2, c3, c4, c5⟩ := bgc hB
        clear hW
        go_wp2_with (first | (go_at_call 71; (with_reducible refine (unhide H0 _).mono ?_); rintro e w1 ⟨rfl, rfl⟩) | (go_at_call 71; (with_reducible refine (unhide H5 _).mono ?_); rintro e w1 ⟨rfl, rfl⟩) | (go_at_call 34; (with_reducible refine (unhide H4 _).mono ?_); rintro e w1 ⟨rfl, rfl⟩) | (go_at_call 34; (with_reducible refine (unhide H6 _).mono ?_); rintro e w1 ⟨rfl, rfl⟩) | (go_at_call 65; (with_reducible refine (unhide H1 _ (by repeat' (first | (with_reducible exact up_refl _) | (with_reducible assumption) | (with_reducible refine up_alloc ?_ _) | (with_reducible refine up_drewN ?_ _) | (with_reducible refine up_drew ?_) | (with_reducible refine up_set ?_ (by first | (simp; done) | (simp; omega) | omega) _) | (refine up_trans ?_ (by with_reducible assumption))))).mono ?_); rintro e w1 ⟨rfl, hu1⟩; obtain ⟨d0, d1, d2, d3, d4, d5⟩ := bgc (bx_up hB (show Up W w1 from (by repeat' (first | (with_reducible exact up_refl _) | (with_reducible assumption) | (with_reducible refine up_alloc ?_ _) | (with_reducible refine up_drewN ?_ _) | (with_reducible refine up_drew ?_) | (with_reducible refine up_set ?_ (by first | (simp; done) | (simp; omega) | omega) _) | (refine up_trans ?_ (by with_reducible assumption))))))) | (go_at_call 65; (with_reducible refine (unhide H2 _ (by repeat' (first | (with_reducible exact up_refl _) | (with_reducible assumption) | (with_reducible refine up_alloc ?_ _) | (with_reducible refine up_drewN ?_ _) | (with_reducible refine up_drew ?_) | (with_reducible refine up_set ?_ (by first | (simp; done) | (simp; omega) | omega) _) | (refine up_trans ?_ (by with_reducible assumption))))).mono ?_); rintro e w2 ⟨rfl, hu2⟩; obtain ⟨e0, e1, e2, e3, e4, e5⟩ := bgc (bx_up hB (show Up W w2 from (by repeat' (first | (with_reducible exact up_refl _) | (with_reducible assumption) | (with_reducible refine up_alloc ?_ _) | (with_reducible refine up_drewN ?_ _) | (with_reducible refine up_drew ?_) | (with_reducible refine up_set ?_ (by first | (simp; done) | (simp; omega) | omega) _) | (refine up_trans ?_ (by with_reducible assumption))))))) | (go_at_call 65; (with_reducible refine (unhide H3 _ (by repeat' (first | (with_reducible exact up_refl _) | (with_reducible assumption) | (with_reducible refine up_alloc ?_ _) | (with_reducible refine up_drewN ?_ _) | (with_reducible refine up_drew ?_) | (with_reducible refine up_set ?_ (by first | (simp; done) | (simp; omega) | omega) _) | (refine up_trans ?_ (by with_reducible assumption))))).mono ?_); rintro e w3 ⟨rfl, hu3⟩; obtain ⟨f0, f1, f2, f3, f4, f5⟩ := bgc (bx_up hB (show Up W w3 from (by repeat' (first | (with_reducible exact up_refl _) | (with_reducible assumption) | (with_reducible refine up_alloc ?_ _) | (with_reducible refine up_drewN ?_ _) | (with_reducible refine up_drew ?_) | (with_reducible refine up_set ?_ (by first | (simp; done) | (simp; omega) | omega) _) | (refine up_trans ?_ (by with_reducible assumption))))))))
        go_ret
        exact ⟨by first | rfl | (simp [bgF, y3]; done) | (simp [bgF, x2]; done) | (simp [bgF]; done), (by repeat' (first | (with_reducible exact up_refl _) | (with_reducible assumption) | (with_reducible refine up_alloc ?_ _) | (with_reducible refine up_drewN ?_ _) | (with_reducible refine up_drew ?_) | (with_reducible refine up_set ?_ (by first | (simp; done) | (simp; omega) | omega) _) | (refine up_trans ?_ (by with_reducible assumption))))⟩
    · have y2 : ((n1 : Int) == (n0 : Int)) = false := by simp; omega
      have y3 : (n1 == n0) = false := by simp; omega
      go_enter Tryz.func67, Tryz.ntmps67
      go_upto_region 1 with fail
      refine at_wpB (fun W hW => ?_)
      have hB : Bx W w.heap.size [.slice A0 n0 k0, .slice A1 n1 k1, .slice A2 n2 k2, .int .i64 dy, .int .i64 la, .int .i64 tr] := by rw [hW]; exact bx_new w _ _
      have U : Up w W := by rw [hW]; exact (by repeat' (first | (with_reducible exact up_refl _) | (with_reducible assumption) | (with_reducible refine up_alloc ?_ _) | (with_reducible refine up_drewN ?_ _) | (with_reducible refine up_drew ?_) | (with_reducible refine up_set ?_ (by first | (simp; done) | (simp; omega) | omega) _) | (refine up_trans ?_ (by with_reducible assumption))))
      obtain ⟨c0, c1, c2, c3, c4, c5⟩ := bgc hB
      clear hW
      go_wp2_with (first | (go_at_call 71; (with_reducible refine (unhide H0 _).mono ?_); rintro e w1 ⟨rfl, rfl⟩) | (go_at_call 71; (with_reducible refine (unhide H5 _).mono ?_); rintro e w1 ⟨rfl, rfl⟩) | (go_at_call 34; (with_reducible refine (unhide H4 _).mono ?_); rintro e w1 ⟨rfl, rfl⟩) | (go_at_call 34; (with_reducible refine (unhide H6 _).mono ?_); rintro e w1 ⟨rfl, rfl⟩) | (go_at_call 65; (with_reducible refine (unhide H1 _ (by repeat' (first | (with_reducible exact up_refl _) | (with_reducible assumption) | (with_reducible refine up_alloc ?_ _) | (with_reducible refine up_drewN ?_ _) | (with_reducible refine up_drew ?_) | (with_reducible refine up_set ?_ (by first | (simp; done) | (simp; omega) | omega) _) | (refine up_trans ?_ (by with_reducible assumption))))).mono ?_); rintro e w1 ⟨rfl, hu1⟩; obtain ⟨d0, d1, d2, d3, d4, d5⟩ := bgc (bx_up hB (show Up W w1 from (by repeat' (first | (with_reducible exact up_refl _) | (with_reducible assumption) | (with_reducible refine up_alloc ?_ _) | (with_reducible refine up_drewN ?_ _) | (with_reducible refine up_drew ?_) | (with_reducible refine up_set ?_ (by first | (simp; done) | (simp; omega) | omega) _) | (refine up_trans ?_ (by with_reducible assumption))))))) | (go_at_call 65; (with_reducible refine (unhide H2 _ (by repeat' (first | (with_reducible exact up_refl _) | (with_reducible assumption) | (with_reducible refine up_alloc ?_ _) | (with_reducible refine up_drewN ?_ _) | (with_reducible refine up_drew ?_) | (with_reducible refine up_set ?_ (by first | (simp; done) | (simp; omega) | omega) _) | (refine up_trans ?_ (by with_reducible assumption))))).mono ?_); rintro e w2 ⟨rfl, hu2⟩; obtain ⟨e0, e1, e2, e3, e4, e5⟩ := bgc (bx_up hB (show Up W w2 from (by repeat' (first | (with_reducible exact up_refl _) | (with_reducible assumption) | (with_reducible refine up_alloc ?_ _) | (with_reducible refine up_drewN ?_ _) | (with_reducible refine up_drew ?_) | (with_reducible refine up_set ?_ (by first | (simp; done) | (simp; omega) | omega) _) | (refine up_trans ?_ (by with_reducible assumption))))))) | (go_at_call 65; (with_reducible refine (unhide H3 _ (by repeat' (first | (with_reducible exact up_refl _) | (with_reducible assumption) | (with_reducible refine up_alloc ?_ _) | (with_reducible refine up_drewN ?_ _) | (with_reducible refine up_drew ?_) | (with_reducible refine up_set ?_ (by first | (simp; done) | (simp; omega) | omega) _) | (refine up_trans ?_ (by with_reducible assumption))))).mono ?_); rintro e w3 ⟨rfl, hu3⟩; obtain ⟨f0, f1, f2, f3, f4, f5⟩ := bgc (bx_up hB (show Up W w3 from (by repeat' (first | (with_reducible exact up_refl _) | (with_reducible assumption) | (with_reducible refine up_alloc ?_ _) | (with_reducible refine up_drewN ?_ _) | (with_reducible refine up_drew ?_) | (with_reducible refine up_set ?_ (by first | (simp; done) | (simp; omega) | omega) _) | (refine up_trans ?_ (by with_reducible assumption))))))))
      go_ret
      exact ⟨by first | rfl | (simp [bgF, y3]; done) | (simp [bgF, x2]; done) | (simp [bgF]; done), (by repeat' (first | (with_reducible exact up_refl _) | (with_reducible assumption) | (with_reducible refine up_alloc ?_ _) | (with_reducible refine up_drewN ?_ _) | (with_reducible refine up_drew ?_) | (with_reducible refine up_set ?_ (by first | (simp; done) | (simp; omega) | omega) _) | (refine up_trans ?_ (by with_reducible assumption))))⟩
def csE (b : Brg) (span : Int) : Int := if win6 span 0 ((b.sp.length : Int) - 1) then 0 else 5
theorem p_checkSpan (b : Brg) (span : Int) (w : World) (hn : b.sp.length ≤ 9223372036854775807) :
    Calls Tryz.prog 105 #[bgV b, .int .i64 span] w fun e w' => e = .returned (.int .i64 (csE b span)) ∧ Up w w' := by
  unfold csE bgV
  obtain ⟨n, hN⟩ : ∃ n, b.sp.length = n := ⟨_, rfl⟩
  rw [hN] at hn ⊢
  have H0 := hide (fun W => p_wI span 0 ((n : Int) - 1) W)
  have hw : IntKind.i64.wrap ((n : Int) - 1) = (n : Int) - 1 := IntWalk.i64_in _ ⟨by omega, by omega⟩
  obtain ⟨r, hr⟩ : ∃ r, win6 span 0 ((n : Int) - 1) = r := ⟨_, rfl⟩
  rw [hr] at H0 ⊢
  clear hr hN hn
  cases r
  all_goals
    go_enter Tryz.func105, Tryz.ntmps105
    go_wp2_with (go_at_call 71; (with_reducible refine (unhide H0 _).mono ?_); rintro e w1 ⟨rfl, rfl⟩)
    go_ret
    exact ⟨rfl, (by repeat' (first | (with_reducible exact up_refl _) | (with_reducible assumption) | (with_reducible refine up_alloc ?_ _) | (with_reducible refine up_drewN ?_ _) | (with_reducible refine up_drew ?_) | (with_reducible refine up_set ?_ (by first | (simp; done) | (simp; omega) | omega) _) | (refine up_trans ?_ (by with_reducible assumption))))⟩
def spK (b : Brg) (span : Int) : Int := b.sp.getD span.toNat 0
def cpE (b : Brg) (span x : Int) : Int := if csE b span = 0 then (if win6 x 0 (spK b span) then 0 else 3) else 5
set_option maxHeartbeats 1000000 in
theorem p_checkPt6 (b : Brg) (span x : Int) (w : World) (h : BgAt w b) (hn : b.sp.length ≤ 9223372036854775807) :
    Calls Tryz.prog 68 #[bgV b, .int .i64 span, .int .i64 x] w fun e w' => e = .returned (.int .i64 (cpE b span x)) ∧ Up w w' := by
  have HC := hide (fun W => p_checkSpan b span W hn)
  unfold bgV at HC
  unfold cpE bgV
  by_cases hs : win6 span 0 ((b.sp.length : Int) - 1) = true
  · have hb := win6_yes hs
    have e5 : csE b span = 0 := by unfold csE; rw [if_pos hs]
    rw [if_pos e5]
    rw [e5] at HC
    have hk : span.toNat < b.sp.length := by omega
    have e6 : spK b span = b.sp[span.toNat] := by unfold spK; rw [List.getD_eq_getElem?_getD, List.getElem?_eq_getElem hk]; rfl
    rw [e6]
    rcases h.s with hnil | ⟨B, off, hA, hcc⟩
    · rw [hnil] at hk; simp at hk
    have c0 := hcc _ hk
    rw [hA] at HC ⊢
    obtain ⟨v, hv⟩ : ∃ v, b.sp[span.toNat] = v := ⟨_, rfl⟩
    rw [hv] at c0 ⊢
    have H0 := hide (fun W => p_w64 x 0 v W)
    obtain ⟨r, hr⟩ : ∃ r, win6 x 0 v = r := ⟨_, rfl⟩
    rw [hr] at H0 ⊢
    obtain ⟨n, hN⟩ : ∃ n, b.sp.length = n := ⟨_, rfl⟩
    rw [hN] at hb HC ⊢
    obtain ⟨k, rfl⟩ : ∃ k : Nat, span = (k : Int) := ⟨span.toNat, by omega⟩
    have hk2 : (k : Int).toNat = k := by omega
    rw [hk2] at c0
    have i0 : (0 : Int) ≤ (k : Int) := by omega
    have i1 : (k : Int) < (n : Int) := by omega
    have bB : B < w.heap.size := World.block_lt_of_cell? _ _ c0
    clear hr hN hv e5 e6 hs hk hcc hA hn hb
    cases r
    all_goals
      go_enter Tryz.func68, Tryz.ntmps68
      go_upto_region 1 with fail
      refine at_wpB (fun W hW => ?_)
      have hB : Bx W w.heap.size [.slice (some ⟨B, off, none⟩) n b.k0, .slice b.A1 b.mo.length b.k1, .slice b.A2 b.sh.length b.k2, .int .i64 b.dy, .int .i64 b.la, .int .i64 b.tr] := by rw [hW]; exact bx_new w _ _
      have U : Up w W := by rw [hW]; exact (by repeat' (first | (with_reducible exact up_refl _) | (with_reducible assumption) | (with_reducible refine up_alloc ?_ _) | (with_reducible refine up_drewN ?_ _) | (with_reducible refine up_drew ?_) | (with_reducible refine up_set ?_ (by first | (simp; done) | (simp; omega) | omega) _) | (refine up_trans ?_ (by with_reducible assumption))))
      have c1 := up_cell U c0
      obtain ⟨d0, d1, d2, d3, d4, d5⟩ := bgc hB
      clear hW
      go_wp2_with (first | (go_at_call 105; (with_reducible refine (unhide HC _).mono ?_); rintro e w1 ⟨rfl, hu⟩; have c2 := up_cell hu c1; obtain ⟨e0, e1, e2, e3, e4, e5⟩ := bgc (bx_up hB hu)) | (go_at_call 34; (with_reducible refine (unhide H0 _).mono ?_); rintro e w1 ⟨rfl, rfl⟩))
      go_ret
      exact ⟨rfl, (by repeat' (first | (with_reducible exact up_refl _) | (with_reducible assumption) | (with_reducible refine up_alloc ?_ _) | (with_reducible refine up_drewN ?_ _) | (with_reducible refine up_drew ?_) | (with_reducible refine up_set ?_ (by first | (simp; done) | (simp; omega) | omega) _) | (refine up_trans ?_ (by with_reducible assumption))))⟩
  · have e5 : csE b span = 5 := by unfold csE; rw [if_neg hs]
    rw [if_neg (by rw [e5]; decide)]
    rw [e5] at HC
    clear hs e5 h hn
    go_enter Tryz.func68, Tryz.ntmps68
    go_upto_region 1 with fail
    refine at_wpB (fun W hW => ?_)
    have hB : Bx W w.heap.size [.slice b.A0 b.sp.length b.k0, .slice b.A1 b.mo.length b.k1, .slice b.A2 b.sh.length b.k2, .int .i64 b.dy, .int .i64 b.la, .int .i64 b.tr] := by rw [hW]; exact bx_new w _ _
    have U : Up w W := by rw [hW]; exact (by repeat' (first | (with_reducible exact up_refl _) | (with_reducible assumption) | (with_reducible refine up_alloc ?_ _) | (with_reducible refine up_drewN ?_ _) | (with_reducible refine up_drew ?_) | (with_reducible refine up_set ?_ (by first | (simp; done) | (simp; omega) | omega) _) | (refine up_trans ?_ (by with_reducible assumption))))
    obtain ⟨d0, d1, d2, d3, d4, d5⟩ := bgc hB
    clear hW
    go_wp2_with (go_at_call 105; (with_reducible refine (unhide HC _).mono ?_); rintro e w1 ⟨rfl, hu⟩)
    go_ret
    exact ⟨rfl, (by repeat' (first | (with_reducible exact up_refl _) | (with_reducible assumption) | (with_reducible refine up_alloc ?_ _) | (with_reducible refine up_drewN ?_ _) | (with_reducible refine up_drew ?_) | (with_reducible refine up_set ?_ (by first | (simp; done) | (simp; omega) | omega) _) | (refine up_trans ?_ (by with_reducible assumption))))⟩
end Go.Proofs.YthifcalemhpmoaaGreat
namespace Go.Proofs.YthifcalemhpmoaaGreat
open Go.RowKit Go.Proofs.Gn
attribute [local go_sem] Oper.semAt_some
set_option linter.unusedVariables false
structure Bxe where
  (x y z l w h m : Int)
def okBxe (b : Bxe) : Prop := (0 ≤ b.x ∧ b.x ≤ 255) ∧ (0 ≤ b.y ∧ b.y ≤ 255) ∧ (0 ≤ b.z ∧ b.z ≤ 255) ∧ (0 ≤ b.l ∧ b.l ≤ 255) ∧ (0 ≤ b.w ∧ b.w ≤ 255) ∧ (0 ≤ b.h ∧ b.h ≤ 255) ∧ (0 ≤ b.m ∧ b.m ≤ 65535)
def BxeAt (w : World) (b o : Nat) (e : Bxe) : Prop := w.cell? ⟨b, o, none⟩ = some (.int .u8 e.x) ∧ w.cell? ⟨b, o + 1, none⟩ = some (.int .u8 e.y) ∧ w.cell? ⟨b, o + 2, none⟩ = some (.int .u8 e.z) ∧ w.cell? ⟨b, o + 3, none⟩ = some (.int .u8 e.l) ∧ w.cell? ⟨b, o + 4, none⟩ = some (.int .u8 e.w) ∧ w.cell? ⟨b, o + 5, none⟩ = some (.int .u8 e.h) ∧ w.cell? ⟨b, o + 6, none⟩ = some (.int .u16 e.m)
/-- Where boxes lie. -/
def Bxes (w : World) (A : Option Addr) (bs : List Bxe) : Prop := bs = [] ∨ ∃ b off, A = some ⟨b, off, none⟩ ∧ ∀ k (h : k < bs.length), BxeAt w b (off + k * 7) bs[k]
/-- The piece that a box is. -/
def cgP (b : Bxe) : Pce := ⟨20 * b.x, 10 * b.y - 1280, 10 * b.z, 1 + 20 * b.l, 1 + 10 * b.w, 1 + 10 * b.h, 1 + b.m % 8000⟩
/-- The pieces of a load of boxes. -/
def cgL (bs : List Bxe) : List Pce := (bs.take 4).map cgP
def cellsPc (ps : List Pce) : List Value := ps.flatMap fun p => [.int .i64 p.x, .int .i64 p.y, .int .i64 p.z, .int .i64 p.l, .int .i64 p.w, .int .i64 p.h, .int .i64 p.m]
theorem cellsPc_snoc (ps : List Pce) (p : Pce) : cellsPc (ps ++ [p]) = cellsPc ps ++ [.int .i64 p.x, .int .i64 p.y, .int .i64 p.z, .int .i64 p.l, .int .i64 p.w, .int .i64 p.h, .int .i64 p.m] := by simp [cellsPc]
theorem info_pc : (Tryz.prog.info? 57).map (fun i => (i.zero, i.size, i.bytes)) = some (some (.agg #[.int .i64 0, .int .i64 0, .int .i64 0, .int .i64 0, .int .i64 0, .int .i64 0, .int .i64 0]), 7, 56) := by kernel_rfl
theorem news_anyC (W : World) (vs : List Value) (t : TypeId) : ∀ j u, vs[j]? = some u → (W.alloc (.cells vs.toArray t)).cell? ((⟨W.heap.size, 0, none⟩ : Addr).add j) = some u := fun j u hj => by
  have e : (⟨W.heap.size, 0, none⟩ : Addr).add j = ⟨W.heap.size, j, none⟩ := by unfold Addr.add; split <;> simp_all
  rw [e]
  exact (bx_new W vs t j u hj).1
theorem cellsPc_len (ps : List Pce) : (cellsPc ps).length = ps.length * 7 := by
  induction ps with
  | nil => rfl
  | cons p ps ih => unfold cellsPc at ih ⊢; rw [List.flatMap_cons, List.length_append, ih]; simp; omega
theorem cellsPc_at {ps : List Pce} : ∀ {k : Nat} (h : k < ps.length), (cellsPc ps)[k * 7]? = some (.int .i64 ps[k].x) ∧ (cellsPc ps)[k * 7 + 1]? = some (.int .i64 ps[k].y) ∧ (cellsPc ps)[k * 7 + 2]? = some (.int .i64 ps[k].z) ∧ (cellsPc ps)[k * 7 + 3]? = some (.int .i64 ps[k].l) ∧ (cellsPc ps)[k * 7 + 4]? = some (.int .i64 ps[k].w) ∧ (cellsPc ps)[k * 7 + 5]? = some (.int .i64 ps[k].h) ∧ (cellsPc ps)[k * 7 + 6]? = some (.int .i64 ps[k].m) := by
  induction ps with
  | nil => intro k h; simp at h
  | cons p ps ih =>
    intro k h
    have e : cellsPc (p :: ps) = .int .i64 p.x :: .int .i64 p.y :: .int .i64 p.z :: .int .i64 p.l :: .int .i64 p.w :: .int .i64 p.h :: .int .i64 p.m :: cellsPc ps := rfl
    rw [e]
    cases k with
    | zero => exact ⟨rfl, rfl, rfl, rfl, rfl, rfl, rfl⟩
    | succ k =>
      have q := ih (k := k) (by simpa using h)
      rw [show (k + 1) * 7 = k * 7 + 7 by omega]
      exact q
theorem own_pcs {W : World} {base e n : Nat} {v : Value} {ps : List Pce} (h : W.ownsRow base e 7 v n (cellsPc ps)) : ∃ A cap, v = .slice A ps.length cap ∧ Pcs W A ps := by
  have hl : (cellsPc ps).length = n * 7 := h.1
  rw [cellsPc_len] at hl
  obtain rfl : n = ps.length := by omega
  rcases h.2 with ⟨h1, h2⟩ | ⟨g, cap, cur, h1, _⟩
  · rw [h1]
    exact ⟨none, 0, by rw [h2], .inl (List.eq_nil_of_length_eq_zero h2)⟩
  · subst h1
    refine ⟨_, cap, rfl, .inr ⟨g, 0, rfl, fun k hk => ?_⟩⟩
    obtain ⟨a0, a1, a2, a3, a4, a5, a6⟩ := cellsPc_at hk
    simp only [Nat.zero_add]
    exact ⟨(h.cellAt (k * 7) (by omega)).trans a0, (h.cellAt (k * 7 + 1) (by omega)).trans a1, (h.cellAt (k * 7 + 2) (by omega)).trans a2, (h.cellAt (k * 7 + 3) (by omega)).trans a3, (h.cellAt (k * 7 + 4) (by omega)).trans a4, (h.cellAt (k * 7 + 5) (by omega)).trans a5, (h.cellAt (k * 7 + 6) (by omega)).trans a6⟩
/-- A capacity that is right for a length. -/
def CapOk (n cp : Nat) : Prop := n ≤ cp ∧ cp ≤ 9223372036854775807
theorem own_pcsK {W : World} {base e n : Nat} {v : Value} {ps : List Pce} (h : W.ownsRow base e 7 v n (cellsPc ps)) : ∃ A cap, v = .slice A ps.length cap ∧ Pcs W A ps ∧ CapOk ps.length cap := by
  have hl : (cellsPc ps).length = n * 7 := h.1
  rw [cellsPc_len] at hl
  have hn : n = ps.length := by omega
  obtain ⟨A, cap, hv, hp⟩ := own_pcs h
  refine ⟨A, cap, hv, hp, ?_⟩
  rcases h.2 with ⟨h1, h2⟩ | ⟨g, cap', cur, h1, h3, h4, h5, h6, _⟩
  · rw [hv] at h1
    simp only [Value.slice.injEq] at h1
    exact ⟨by omega, by omega⟩
  · rw [hv] at h1
    simp only [Value.slice.injEq] at h1
    obtain ⟨_, _, rfl⟩ := h1
    unfold maxLen at h6
    exact ⟨by omega, by omega⟩
theorem own_succC {W : World} {base e size k : Nat} {v : Value} {xs : List Value} (h : W.ownsRow base e size v (k + 1) xs) : ∃ g cap, v = .slice (some ⟨g, 0, none⟩) (k + 1) cap := by
  rcases h.2 with ⟨_, h2⟩ | ⟨g, cap, cur, h1, _⟩
  · omega
  · exact ⟨g, cap, h1⟩
theorem pcs_farC {W : World} {A : Option Addr} {ps : List Pce} {p : Addr} (h : Pcs W A ps) (hb : ∀ b off, A = some ⟨b, off, none⟩ → b ≠ p.block) (u : Value) : Pcs (W.setCell p u) A ps := by
  rcases h with h | ⟨b, off, e, hc⟩
  · exact .inl h
  · have hn := hb b off e
    have k : ∀ o v, W.cell? ⟨b, o, none⟩ = some v → (W.setCell p u).cell? ⟨b, o, none⟩ = some v := fun o v h => (World.cell?_of_block (a := ⟨b, o, none⟩) (Below.heap_setCell W p u b hn)).trans h
    refine .inr ⟨b, off, e, fun q hq => ?_⟩
    obtain ⟨a0, a1, a2, a3, a4, a5, a6⟩ := hc q hq
    exact ⟨k _ _ a0, k _ _ a1, k _ _ a2, k _ _ a3, k _ _ a4, k _ _ a5, k _ _ a6⟩
theorem bx_grownC {W W' : World} {b : Nat} {vs : List Value} {row : Option Nat} (h : Bx W b vs) (g : W.grownBy W' row) (hr : row ≠ some b) : Bx W' b vs := fun i v hi => by
  have hb : b < W.heap.size := World.block_lt_of_cell? _ _ (h i v hi).1
  have e := g.block b hb (fun e => hr e.symm)
  exact ⟨(World.cell?_of_block (a := ⟨b, i, none⟩) e).trans (h i v hi).1, (World.frozen?_of_block (a := ⟨b, i, none⟩) e).trans (h i v hi).2⟩
abbrev cgN : ByteArray := { data := #[99, 97, 114, 103, 111] }
set_option maxRecDepth 100000 in
set_option maxHeartbeats 8000000 in
theorem p_cargoK (A : Option Addr) (bs : List Bxe) (cap : Nat) (w : World) (h : Bxes w A bs) (hb : ∀ k (h : k < bs.length), okBxe bs[k]) (hn : bs.length ≤ 9223372036854775807) :
    Calls Tryz.prog 5 #[.slice A bs.length cap] w fun e w' => (∃ P cp, e = .returned (loV cgN P (cgL bs).length cp none 0 0 300) ∧ Pcs w' P (cgL bs) ∧ CapOk (cgL bs).length cp) ∧ Up w w' := by
  have HS := hide h
  have HB := hide hb
  obtain ⟨N, hN⟩ : ∃ N, bs.length = N := ⟨_, rfl⟩
  have HN := hide hN
  rw [hN] at hn ⊢
  obtain ⟨i0', hi, hz0, hz1, hz2⟩ := info_parts info_pc
  have HI := hide hi
  clear h hb hN hi
  go_enter Tryz.func5, Tryz.ntmps5
  go_upto_region 2 with fail
  refine at_wpC (fun W0 hW0 => ?_)
  have U0 : Up w W0 := by rw [hW0]; exact (by repeat' (first | (with_reducible exact up_refl _) | (with_reducible assumption) | (with_reducible refine up_alloc ?_ _) | (with_reducible refine up_drewN ?_ _) | (with_reducible refine up_drew ?_) | (with_reducible refine up_set ?_ (by first | (simp; done) | (simp; omega) | omega) _) | (refine up_trans ?_ (by with_reducible assumption))))
  have hz : W0.heap.size = w.heap.size + 2 := by rw [hW0]; simp
  obtain ⟨bR, bL⟩ : Bx W0 w.heap.size [.string { data := #[] }, .slice none 0 0, .slice none 0 0, .int .i64 0] ∧ Bx W0 (w.heap.size + 1) [.string cgN, .slice none 0 0, .slice none 0 0, .int .i64 300] := by
    rw [hW0]
    refine ⟨bx_alloc (bx_new w _ _) _, ?_⟩
    have q := bx_new (w.alloc (.cells #[.string { data := #[] }, .slice none 0 0, .slice none 0 0, .int .i64 0] 27)) [.string cgN, .slice none 0 0, .slice none 0 0, .int .i64 300] 27
    rw [World.size_alloc] at q
    exact q
  clear hW0
  go_wp2
  go_loopw [4] (fun s4 wr => ∃ (k : Nat) (v : Value), k ≤ N ∧ k ≤ 4 ∧ s4 = .int .i64 k ∧ wr.ownsRow (w.heap.size + 1 + 1) 57 7 v k (cellsPc ((bs.take k).map cgP)) ∧ Bx wr (w.heap.size + 1) [.string cgN, v, .slice none 0 0, .int .i64 300] ∧ Bx wr w.heap.size [.string { data := #[] }, .slice none 0 0, .slice none 0 0, .int .i64 0] ∧ Up w wr) (fun s4 _ => N - (intOf s4).toNat)
  case atStart => exact ⟨0, .slice none 0 0, by omega, by omega, rfl, World.ownsRow_nil _ _ _ _, bL, bR, U0⟩
  case round =>
    clear bL bR U0 hz
    obtain ⟨k, v, hk, hk4, rfl, ow, bL, bR, hup⟩ := hrel
    by_cases hlt : k < N ∧ k < 4
    · have hl : k < bs.length := by rw [unhide HN]; exact hlt.1
      obtain ⟨b, off, rfl, hcc⟩ := (unhide HS).resolve_left (by intro e; rw [e] at hl; simp at hl)
      obtain ⟨x0, x1, x2, x3, x4, x5, x6⟩ := hcc k hl
      obtain ⟨o0, o1, o2, o3, o4, o5, o6⟩ := unhide HB k hl
      have hst : (bs.take (k + 1)).map cgP = (bs.take k).map cgP ++ [cgP bs[k]] := by rw [List.take_succ_eq_append_getElem hl, List.map_append]; rfl
      have HC := hide (show cellsPc ((bs.take (k + 1)).map cgP) = cellsPc ((bs.take k).map cgP) ++ [.int .i64 (20 * bs[k].x), .int .i64 (10 * bs[k].y - 1280), .int .i64 (10 * bs[k].z), .int .i64 (1 + 20 * bs[k].l), .int .i64 (1 + 10 * bs[k].w), .int .i64 (1 + 10 * bs[k].h), .int .i64 (1 + bs[k].m % 8000)] by rw [hst, cellsPc_snoc]; rfl)
      clear hcc hst
      generalize bs[k].x = X at *
      generalize bs[k].y = Y at *
      generalize bs[k].z = Z at *
      generalize bs[k].l = L at *
      generalize bs[k].w = W at *
      generalize bs[k].h = H at *
      generalize bs[k].m = M at *
      have y0 := up_cell hup x0
      have y1 := up_cell hup x1
      have y2 := up_cell hup x2
      have y3 := up_cell hup x3
      have y4 := up_cell hup x4
      have y5 := up_cell hup x5
      have y6 := up_cell hup x6
      have i0 : (0 : Int) ≤ (k : Int) := by omega
      have i1 : (k : Int) < (N : Int) := by omega
      have i2 : (k : Int) < 4 := by omega
      have i3 : (k : Int).toNat = k := by omega
      have hwk : IntKind.i64.wrap ((k : Int) + 1) = (k : Int) + 1 := IntWalk.i64_in _ ⟨by omega, by omega⟩
      have a0 : IntKind.i64.wrap X = X := IntWalk.i64_in _ ⟨by omega, by omega⟩
      have a1 : IntKind.i64.wrap Y = Y := IntWalk.i64_in _ ⟨by omega, by omega⟩
      have a2 : IntKind.i64.wrap Z = Z := IntWalk.i64_in _ ⟨by omega, by omega⟩
      have a3 : IntKind.i64.wrap L = L := IntWalk.i64_in _ ⟨by omega, by omega⟩
      have a4 : IntKind.i64.wrap W = W := IntWalk.i64_in _ ⟨by omega, by omega⟩
      have a5 : IntKind.i64.wrap H = H := IntWalk.i64_in _ ⟨by omega, by omega⟩
      have a6 : IntKind.i64.wrap M = M := IntWalk.i64_in _ ⟨by omega, by omega⟩
      have b0 : IntKind.i64.wrap (20 * X) = 20 * X := IntWalk.i64_in _ ⟨by omega, by omega⟩
      have b1 : IntKind.i64.wrap (10 * Y) = 10 * Y := IntWalk.i64_in _ ⟨by omega, by omega⟩
      have b1' : IntKind.i64.wrap (10 * Y - 1280) = 10 * Y - 1280 := IntWalk.i64_in _ ⟨by omega, by omega⟩
      have b2 : IntKind.i64.wrap (10 * Z) = 10 * Z := IntWalk.i64_in _ ⟨by omega, by omega⟩
      have b3 : IntKind.i64.wrap (20 * L) = 20 * L := IntWalk.i64_in _ ⟨by omega, by omega⟩
      have b3' : IntKind.i64.wrap (1 + 20 * L) = 1 + 20 * L := IntWalk.i64_in _ ⟨by omega, by omega⟩
      have b4 : IntKind.i64.wrap (10 * W) = 10 * W := IntWalk.i64_in _ ⟨by omega, by omega⟩
      have b4' : IntKind.i64.wrap (1 + 10 * W) = 1 + 10 * W := IntWalk.i64_in _ ⟨by omega, by omega⟩
      have b5 : IntKind.i64.wrap (10 * H) = 10 * H := IntWalk.i64_in _ ⟨by omega, by omega⟩
      have b5' : IntKind.i64.wrap (1 + 10 * H) = 1 + 10 * H := IntWalk.i64_in _ ⟨by omega, by omega⟩
      have m1 : M.tmod 8000 = M % 8000 := Int.tmod_eq_emod_of_nonneg (by omega)
      have b6 : IntKind.i64.wrap (M % 8000) = M % 8000 := IntWalk.i64_in _ ⟨by omega, by omega⟩
      have b6' : IntKind.i64.wrap (1 + M % 8000) = 1 + M % 8000 := IntWalk.i64_in _ ⟨by omega, by omega⟩
      clear x0 x1 x2 x3 x4 x5 x6
      go_upto_region 6 with fail
      refine at_wpC (fun W1 hW1 => ?_)
      have U1 : Up wr W1 := by rw [hW1]; exact (by repeat' (first | (with_reducible exact up_refl _) | (with_reducible assumption) | (with_reducible refine up_alloc ?_ _) | (with_reducible refine up_drewN ?_ _) | (with_reducible refine up_drew ?_) | (with_reducible refine up_set ?_ (by first | (simp; done) | (simp; omega) | omega) _) | (refine up_trans ?_ (by with_reducible assumption))))
      have bB : Bx W1 wr.heap.size [.int .u8 X, .int .u8 Y, .int .u8 Z, .int .u8 L, .int .u8 W, .int .u8 H, .int .u16 M] := by rw [hW1]; exact bx_new wr _ _
      clear hW1 y0 y1 y2 y3 y4 y5 y6
      have bL1 := bx_up bL U1
      have bR1 := bx_up bR U1
      have ow1 := own_up ow U1
      have up1 := up_trans hup U1
      obtain ⟨g, hg⟩ : ∃ g, wr.heap.size = g := ⟨_, rfl⟩
      rw [hg] at bB ⊢
      clear bL bR ow hup U1 hg
      have z0 := (bB 0 _ rfl).1
      have z1 := (bB 1 _ rfl).1
      have z2 := (bB 2 _ rfl).1
      have z3 := (bB 3 _ rfl).1
      have z4 := (bB 4 _ rfl).1
      have z5 := (bB 5 _ rfl).1
      have z6 := (bB 6 _ rfl).1
      have l1 := (bL1 1 _ rfl).1
      have HL := hide bL1
      have HR := hide bR1
      have HO := hide ow1
      have HU := hide up1
      have rL : v.ownBlock ≠ some (w.heap.size + 1) := fun e => by have := (ow1.lt _ e).1; omega
      have rR : v.ownBlock ≠ some w.heap.size := fun e => by have := (ow1.lt _ e).1; omega
      have HOw := hide (fun g (h : v.ownBlock = some g) => (ow1.lt g h).1)
      clear bB bL1 bR1 ow1 up1
      go_wp2_with (at_builtin; refine wpList_append_own_at _ rfl _ _ 24 rfl (w.heap.size + 1 + 1) 57 i0' _ 7 56 Tryz.underlying24 (unhide HI) hz0 hz1 hz2 rfl (by decide) _ k (cellsPc ((bs.take k).map cgP)) rfl ((unhide HO).alloc _) _ 1 1 [.int .i64 (20 * X), .int .i64 (10 * Y - 1280), .int .i64 (10 * Z), .int .i64 (1 + 20 * L), .int .i64 (1 + 10 * W), .int .i64 (1 + 10 * H), .int .i64 (1 + M % 8000)] rfl rfl (news_anyC _ _ _) (by intro u hu; simp at hu; rcases hu with rfl | rfl | rfl | rfl | rfl | rfl | rfl <;> rfl) (by unfold maxLen; omega) (by omega) (by have := bx_lt (unhide HL) (by simp); simp; omega) ?_; intro v' w7 hown' hgrow _ hblk; obtain ⟨g7, c7, hv7⟩ := own_succC hown'; subst hv7; have bL7 := bx_grownC (bx_up (unhide HL) (up_alloc (up_refl _) _)) hgrow rL; have q0 := (bL7 1 _ rfl).1; have q1 := (bL7 1 _ rfl).2; have bR7 := bx_grownC (bx_up (unhide HR) (up_alloc (up_refl _) _)) hgrow rR; have up7 : Up w w7 := Below.grown (up_alloc (unhide HU) _) hgrow (up_alloc (unhide HU) _).size (fun g e => by have := unhide HOw _ e; omega))
      have R1 : w7.ownsRow (w.heap.size + 1 + 1) 57 7 (.slice (some ⟨g7, 0, none⟩) (k + 1) c7) (k + 1) (cellsPc ((bs.take (k + 1)).map cgP)) := by rw [unhide HC]; exact hown'
      have R2 := ownsRow_setCell_below R1 (a := ⟨w.heap.size + 1, 1, none⟩) (by simp only; omega) (.slice (some ⟨g7, 0, none⟩) (k + 1) c7)
      have R3 := bx_set bL7 1 (.slice (some ⟨g7, 0, none⟩) (k + 1) c7)
      have R4 := bx_far bR7 (p := ⟨w.heap.size + 1, 1, none⟩) (by simp only; omega) (.slice (some ⟨g7, 0, none⟩) (k + 1) c7)
      have R5 := up_set up7 (p := ⟨w.heap.size + 1, 1, none⟩) (by simp only; omega) (.slice (some ⟨g7, 0, none⟩) (k + 1) c7)
      first
        | exact ⟨⟨k + 1, (.slice (some ⟨g7, 0, none⟩) (k + 1) c7), by omega, by omega, by go_num, R2, R3, R4, R5⟩, by simp [intOf]; omega⟩
        | (go_roundw; (case rel => exact ⟨k + 1, (.slice (some ⟨g7, 0, none⟩) (k + 1) c7), by omega, by omega, by go_num, R2, R3, R4, R5⟩); (case measure => simp [intOf]; omega))
        | (trace_state; sorry)
    · have hE : bs.take k = bs.take 4 := by
        by_cases h4 : k = 4
        · rw [h4]
        · rw [List.take_of_length_le (by rw [unhide HN]; omega), List.take_of_length_le (by rw [unhide HN]; omega)]
      rw [hE, show (bs.take 4).map cgP = cgL bs from rfl] at ow
      obtain ⟨P, cp, rfl, hP, hcap⟩ := own_pcsK ow
      have hfar : ∀ bb oo, P = some ⟨bb, oo, none⟩ → bb ≠ w.heap.size := fun bb oo e => (by have := (ow.lt bb (by rw [e]; rfl)).1; omega)
      have c0 := (bL 0 _ rfl).1
      have c1 := (bL 1 _ rfl).1
      have c2 := (bL 2 _ rfl).1
      have c3 := (bL 3 _ rfl).1
      have d0 := (bR 0 _ rfl).1
      have d1 := (bR 1 _ rfl).1
      have d2 := (bR 2 _ rfl).1
      have d3 := (bR 3 _ rfl).1
      have f0 := (bR 0 _ rfl).2
      have f1 := (bR 1 _ rfl).2
      have f2 := (bR 2 _ rfl).2
      have f3 := (bR 3 _ rfl).2
      have HFar := hide hfar
      have HP := hide hP
      have HU := hide hup
      obtain ⟨K, hK⟩ : ∃ K, (cgL bs).length = K := ⟨_, rfl⟩
      rw [hK] at c1 hcap
      have HCap := hide hcap
      have HKK := hide hK
      clear hfar hP hE hK ow hup hcap
      by_cases hlN : k < N
      · have i1 : (k : Int) < (N : Int) := by omega
        have i2 : ¬ (k : Int) < 4 := by omega
        go_wp2
        have B9 := bx_set (bx_set (bx_set (bx_set bR 0 (.string cgN)) 1 (.slice P K cp)) 2 (.slice none 0 0)) 3 (.int .i64 300)
        have U9 : Up w ((((wr.setCell ⟨w.heap.size, 0, none⟩ (.string cgN)).setCell ⟨w.heap.size, 1, none⟩ (.slice P K cp)).setCell ⟨w.heap.size, 2, none⟩ (.slice none 0 0)).setCell ⟨w.heap.size, 3, none⟩ (.int .i64 300)) := up_set (up_set (up_set (up_set (unhide HU) (by simp) _) (by simp) _) (by simp) _) (by simp) _
        have Q9 := pcs_farC (pcs_farC (pcs_farC (pcs_farC (unhide HP) (p := ⟨w.heap.size, 0, none⟩) (unhide HFar) (.string cgN)) (p := ⟨w.heap.size, 1, none⟩) (unhide HFar) (.slice P K cp)) (p := ⟨w.heap.size, 2, none⟩) (unhide HFar) (.slice none 0 0)) (p := ⟨w.heap.size, 3, none⟩) (unhide HFar) (.int .i64 300)
        generalize (((wr.setCell ⟨w.heap.size, 0, none⟩ (.string cgN)).setCell ⟨w.heap.size, 1, none⟩ (.slice P K cp)).setCell ⟨w.heap.size, 2, none⟩ (.slice none 0 0)).setCell ⟨w.heap.size, 3, none⟩ (.int .i64 300) = W9 at *
        have z0 := (B9 0 _ rfl).1
        have z1 := (B9 1 _ rfl).1
        have z2 := (B9 2 _ rfl).1
        have z3 := (B9 3 _ rfl).1
        refine bodyPost_ret (v := loV cgN P K cp none 0 0 300) (by simp [results, Tryz.f5, go_sem, z0, z1, z2, z3]) rfl ?_
        exact ⟨⟨P, cp, by rw [unhide HKK], Q9, by rw [unhide HKK]; exact unhide HCap⟩, U9⟩
      · have i1 : ¬ (k : Int) < (N : Int) := by omega
        go_wp2
        have B9 := bx_set (bx_set (bx_set (bx_set bR 0 (.string cgN)) 1 (.slice P K cp)) 2 (.slice none 0 0)) 3 (.int .i64 300)
        have U9 : Up w ((((wr.setCell ⟨w.heap.size, 0, none⟩ (.string cgN)).setCell ⟨w.heap.size, 1, none⟩ (.slice P K cp)).setCell ⟨w.heap.size, 2, none⟩ (.slice none 0 0)).setCell ⟨w.heap.size, 3, none⟩ (.int .i64 300)) := up_set (up_set (up_set (up_set (unhide HU) (by simp) _) (by simp) _) (by simp) _) (by simp) _
        have Q9 := pcs_farC (pcs_farC (pcs_farC (pcs_farC (unhide HP) (p := ⟨w.heap.size, 0, none⟩) (unhide HFar) (.string cgN)) (p := ⟨w.heap.size, 1, none⟩) (unhide HFar) (.slice P K cp)) (p := ⟨w.heap.size, 2, none⟩) (unhide HFar) (.slice none 0 0)) (p := ⟨w.heap.size, 3, none⟩) (unhide HFar) (.int .i64 300)
        generalize (((wr.setCell ⟨w.heap.size, 0, none⟩ (.string cgN)).setCell ⟨w.heap.size, 1, none⟩ (.slice P K cp)).setCell ⟨w.heap.size, 2, none⟩ (.slice none 0 0)).setCell ⟨w.heap.size, 3, none⟩ (.int .i64 300) = W9 at *
        have z0 := (B9 0 _ rfl).1
        have z1 := (B9 1 _ rfl).1
        have z2 := (B9 2 _ rfl).1
        have z3 := (B9 3 _ rfl).1
        refine bodyPost_ret (v := loV cgN P K cp none 0 0 300) (by simp [results, Tryz.f5, go_sem, z0, z1, z2, z3]) rfl ?_
        exact ⟨⟨P, cp, by rw [unhide HKK], Q9, by rw [unhide HKK]; exact unhide HCap⟩, U9⟩
theorem p_cargo (A : Option Addr) (bs : List Bxe) (cap : Nat) (w : World) (h : Bxes w A bs) (hb : ∀ k (h : k < bs.length), okBxe bs[k]) (hn : bs.length ≤ 9223372036854775807) :
    Calls Tryz.prog 5 #[.slice A bs.length cap] w fun e w' => (∃ P cp, e = .returned (loV cgN P (cgL bs).length cp none 0 0 300) ∧ Pcs w' P (cgL bs)) ∧ Up w w' :=
  (p_cargoK A bs cap w h hb hn).mono fun e w' ⟨⟨P, cp, he, hp, _⟩, hu⟩ => ⟨⟨P, cp, he, hp⟩, hu⟩
end Go.Proofs.YthifcalemhpmoaaGreat
namespace Go.Proofs.YthifcalemhpmoaaGreat
open Go.RowKit Go.Proofs.Gn
set_option linter.unusedVariables false
/-- The lengths of the first spans together. -/
def beS (l : List Int) : Nat → Int
  | 0 => 0
  | k + 1 => beS l k + l.getD k 0
theorem beS_bd {l : List Int} (h : ∀ k (h : k < l.length), 0 ≤ l[k] ∧ l[k] ≤ 131072) : ∀ k, 0 ≤ beS l k ∧ beS l k ≤ 131072 * (k : Int)
  | 0 => by simp [beS]
  | k + 1 => by
    have ih := beS_bd h k
    have : 0 ≤ l.getD k 0 ∧ l.getD k 0 ≤ 131072 := by
      by_cases hk : k < l.length
      · rw [List.getD_eq_getElem?_getD, List.getElem?_eq_getElem hk]; exact h k hk
      · rw [List.getD_eq_getElem?_getD, List.getElem?_eq_none (by omega)]; simp
    unfold beS
    omega
set_option maxRecDepth 100000 in
theorem p_beginning (b : Brg) (s : Nat) (w : World) (h : BgAt w b) (hs : s < b.sp.length) (hn : b.sp.length ≤ 6) (hv : ∀ k (h : k < b.sp.length), 0 ≤ b.sp[k] ∧ b.sp[k] ≤ 131072) (hcap : b.sp.length ≤ b.k0) :
    Calls Tryz.prog 106 #[bgV b, .int .i64 s] w fun e w' => e = .returned (.int .i64 (beS b.sp s)) ∧ Up w w' := by
  unfold bgV
  rcases h.s with hnil | ⟨B, off, hA, hcc⟩
  · rw [hnil] at hs; simp at hs
  rw [hA]
  have HBd := hide (beS_bd hv)
  have HC := hide hcc
  have HGet := hide (fun k (h : k < b.sp.length) => (show beS b.sp (k + 1) = beS b.sp k + b.sp[k] by show beS b.sp k + b.sp.getD k 0 = _; rw [List.getD_eq_getElem?_getD, List.getElem?_eq_getElem h]; rfl))
  have HV := hide hv
  obtain ⟨n, hN⟩ : ∃ n, b.sp.length = n := ⟨_, rfl⟩
  have HN := hide hN
  rw [hN] at hs hn hcap ⊢
  have z0 : beS b.sp 0 = 0 := rfl
  have Z0 := hide z0
  clear h hcc hv hA hN z0
  obtain ⟨sp, mo, sh, A0, A1, A2, k0, k1, k2, dy, la, tr⟩ := b
  dsimp only at *
  generalize mo.length = n1
  generalize sh.length = n2
  obtain ⟨G, hG⟩ : ∃ G, beS sp = G := ⟨_, rfl⟩
  rw [hG] at HBd HGet Z0 ⊢
  clear hG
  have i0 : (0 : Int) ≤ (s : Int) := by omega
  have i1 : (s : Int) ≤ (k0 : Int) := by omega
  have i2 : (s : Int).toNat = s := by omega
  go_enter Tryz.func106, Tryz.ntmps106
  go_upto_region 3 with fail
  refine at_wpB (fun W0 hW0 => ?_)
  have U : Up w W0 := by rw [hW0]; exact (by repeat' (first | (with_reducible exact up_refl _) | (with_reducible assumption) | (with_reducible refine up_alloc ?_ _) | (with_reducible refine up_drewN ?_ _) | (with_reducible refine up_drew ?_) | (with_reducible refine up_set ?_ (by first | (simp; done) | (simp; omega) | omega) _) | (refine up_trans ?_ (by with_reducible assumption))))
  clear hW0
  go_loopw [5, 13] (fun s5 s13 wr => ∃ k : Nat, k ≤ s ∧ s13 = .int .i64 k ∧ s5 = .int .i64 (G k) ∧ Up w wr) (fun _ s13 _ => s - (intOf s13).toNat)
  case atStart => exact ⟨0, by omega, rfl, by rw [unhide Z0], U⟩
  case round =>
    obtain ⟨k, hk, rfl, rfl, Ur⟩ := hrel
    clear U
    by_cases hlt : k < s
    · have hl : k < sp.length := by rw [unhide HN]; omega
      have c0 := up_cell Ur (unhide HC k hl)
      have hst := unhide HGet k hl
      have hb1 := unhide HBd k
      have hb2 := unhide HBd (k + 1)
      obtain ⟨v, hv⟩ : ∃ v, sp[k] = v := ⟨_, rfl⟩
      rw [hv] at c0 hst
      obtain ⟨g, hg⟩ : ∃ g, G k = g := ⟨_, rfl⟩
      rw [hg] at hst hb1 ⊢
      have HST := hide hst
      have w1 : IntKind.i64.wrap (g + v) = g + v := IntWalk.i64_in _ ⟨by omega, by omega⟩
      have hwk : IntKind.i64.wrap ((k : Int) + 1) = (k : Int) + 1 := IntWalk.i64_in _ ⟨by omega, by omega⟩
      have j0 : (0 : Int) ≤ (k : Int) := by omega
      have j1 : (k : Int) < (s : Int) := by omega
      have j2 : (k : Int).toNat = k := by omega
      clear hst hb1 hb2 hv hg
      go_wp2
      go_roundw
      case rel => exact ⟨k + 1, by omega, by go_num, by rw [unhide HST], Ur⟩
      case measure => simp [intOf]; omega
    · obtain rfl : k = s := by omega
      go_wp2
      go_ret
      exact ⟨rfl, Ur⟩
end Go.Proofs.YthifcalemhpmoaaGreat
