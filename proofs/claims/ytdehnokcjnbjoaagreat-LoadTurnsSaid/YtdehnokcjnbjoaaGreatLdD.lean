/- Sorted ways stay as they are; the least point. -/
import Derived.Test.YtdehnokcjnbjoaaGreatLdC
namespace Go.Proofs.YtdehnokcjnbjoaaGreat
open Go.RowKit Go.Proofs.Gn
attribute [local go_sem] Oper.semAt_some
set_option linter.unusedVariables false
/-- Ways in their order. -/
def SrW (ts : List (Int × Int)) : Prop := ∀ k (h : k + 1 < ts.length), 0 ≤ cwF ts[k + 1].1 ts[k + 1].2 ts[k].1 ts[k].2
abbrev fnWays : Value := .func (.func 154) #[] #[]
set_option maxRecDepth 100000 in
set_option maxHeartbeats 8000000 in
theorem p_insW (A : Option Addr) (ts : List (Int × Int)) (cap : Nat) (w : World) (h : Pts w A ts) (hs : SrW ts) (hb : ∀ p ∈ ts, Nr 4000 p) (h0 : 0 < ts.length) (hn : ts.length ≤ 20) :
    Calls Tryz.prog 188 #[.slice A ts.length cap, .int .i64 0, .int .i64 ts.length, fnWays] w fun e w' => e = .returned (.tuple #[]) ∧ Up w w' := by
  obtain ⟨b, off, rfl, hc⟩ := h.resolve_left (by intro e; rw [e] at h0; simp at h0)
  have HC := hide hc
  have HL := hide (fun x p y q W e1 e2 e3 => p_ways x p y q W e1 e2 e3)
  have HB := hide hb
  have HS := hide hs
  obtain ⟨n, hN⟩ : ∃ n, ts.length = n := ⟨_, rfl⟩
  have HN := hide hN
  rw [hN] at h0 hn ⊢
  clear h hs hc hN hb
  go_enter Tryz.func188, Tryz.ntmps188
  go_upto_region 1 with fail
  go_loopw [8] (fun s8 wr => ∃ k : Nat, k + 1 ≤ n ∧ s8 = .int .i64 ((k : Int) + 1) ∧ Up w wr) (fun s8 _ => n - (intOf s8).toNat)
  case atStart => exact ⟨0, by omega, rfl, (by repeat' (first | (with_reducible exact up_refl _) | (with_reducible assumption) | (with_reducible refine up_alloc ?_ _) | (with_reducible refine up_drewN ?_ _) | (with_reducible refine up_drew ?_) | (with_reducible refine up_set ?_ (by first | (simp; done) | (simp; omega) | omega) _) | (refine up_trans ?_ (by with_reducible assumption))))⟩
  case round =>
    obtain ⟨k, hk, rfl, hu⟩ := hrel
    by_cases hlt : k + 1 < n
    · have hl : k + 1 < ts.length := by rw [unhide HN]; exact hlt
      obtain ⟨x0, x1⟩ := unhide HC k (by omega)
      obtain ⟨y0, y1⟩ := unhide HC (k + 1) hl
      have hle := unhide HS k hl
      have b1 : (-4000 ≤ ts[k].1 ∧ ts[k].1 ≤ 4000) ∧ (-4000 ≤ ts[k].2 ∧ ts[k].2 ≤ 4000) := unhide HB ts[k] (List.getElem_mem (by omega))
      have b2 : (-4000 ≤ ts[k + 1].1 ∧ ts[k + 1].1 ≤ 4000) ∧ (-4000 ≤ ts[k + 1].2 ∧ ts[k + 1].2 ≤ 4000) := unhide HB ts[k + 1] (List.getElem_mem hl)
      generalize ts[k].1 = X at *
      generalize ts[k].2 = P at *
      generalize ts[k + 1].1 = Y at *
      generalize ts[k + 1].2 = Q at *
      have x0' := up_cell hu x0
      have x1' := up_cell hu x1
      have y0' := up_cell hu y0
      have y1' := up_cell hu y1
      obtain ⟨⟨b3, b4⟩, ⟨b5, b6⟩⟩ := b1
      obtain ⟨⟨b7, b8⟩, ⟨b9, c1⟩⟩ := b2
      have c2 := mul_nr (x := Y) (y := P) ⟨b7, b8⟩ ⟨b5, b6⟩ (by omega)
      have c3 := mul_nr (x := Q) (y := X) ⟨b9, c1⟩ ⟨b3, b4⟩ (by omega)
      have HL1 := hide (fun W => unhide HL Y Q X P W (i64_small (by omega)) (i64_small (by omega)) (i64_small (by omega)))
      have hc0 : 0 ≤ cwF Y Q X P := hle
      clear c2 c3 b3 b4 b5 b6 b7 b8 b9 c1
      generalize cwF Y Q X P = c at *
      have i1 : (k : Int) + 1 < (n : Int) := by omega
      have i2 : (0 : Int) ≤ (k : Int) + 1 := by omega
      have i3 : ((k : Int) + 1).toNat = k + 1 := by omega
      have i4 : IntKind.i64.wrap ((k : Int) + 1 - 1) = (k : Int) := by rw [Int.add_sub_cancel]; exact IntWalk.i64_in _ ⟨by omega, by omega⟩
      have i5 : (0 : Int) ≤ (k : Int) := by omega
      have i6 : (k : Int) < (n : Int) := by omega
      have i7 : (k : Int).toNat = k := by omega
      have i8 : (0 : Int) < (k : Int) + 1 := by omega
      have i9 : decide ((0 : Int) < (k : Int) + 1) = true := decide_eq_true i8
      have j0 : ¬ c < 0 := by omega
      have j1 : decide (c < 0) = false := decide_eq_false j0
      have j2 : IntKind.i64.wrap ((k : Int) + 1 + 1) = (k : Int) + 1 + 1 := IntWalk.i64_in _ ⟨by omega, by omega⟩
      clear x0 x1 y0 y1 hle hc0 HC HS HB
      have m0 := fun p : UpW wr => up_cell p.up x0'
      have m1 := fun p : UpW wr => up_cell p.up x1'
      have m2 := fun p : UpW wr => up_cell p.up y0'
      have m3 := fun p : UpW wr => up_cell p.up y1'
      clear x0' x1' y0' y1'
      go_upto_region 4 with fail
      go_loopw [9] (fun s9 wx => s9 = .int .i64 ((k : Int) + 1) ∧ wx = wr) (fun _ _ => 0)
      case atStart => exact ⟨rfl, rfl⟩
      case round =>
        obtain ⟨rfl, rfl⟩ := hrel
        go_upto_region 4 with fail
        refine wp_upq (by kernel_rfl) (by kernel_rfl) ?_; (repeat (go_big_quiet_step ((go_at_call 154; exact upq (unhide HL1 _))))); refine wpQuiet_nil ?_; intro _ hw'; obtain ⟨pq, hw''⟩ := hw'; subst hw''; have hpq := pq.up
        have uW := up_trans hu hpq
        generalize pq.v = W1 at uW ⊢
        go_wp2_with fail
        go_roundw
        case rel => exact ⟨k + 1, by omega, by go_num, uW⟩
        case measure => simp [intOf]; omega
    · obtain rfl : n = k + 1 := by omega
      have i1 : ¬ (k : Int) + 1 < ((k + 1 : Nat) : Int) := by omega
      go_wp2_with fail
      (try simp only [Exit.inBlock, Exit.then])
      refine bodyPost_end (results_none rfl _ _ _) rfl ?_
      exact ⟨rfl, hu⟩
set_option maxRecDepth 100000 in
theorem p_len8 (w : World) : Calls Tryz.prog 143 #[.int .u64 8] w fun e w' => e = .returned (.int .i64 4) ∧ w = w' := by
  have H : ∀ W, Calls Tryz.prog 172 #[.int .u64 8] W fun e w' => e = .returned (.int .i64 4) ∧ W = w' := fun W => by
    go_enter Tryz.func172, Tryz.ntmps172
    go_wp2_with fail
    go_ret
    exact ⟨by first | rfl | kernel_rfl | decide, rfl⟩
  have H := hide H
  go_enter Tryz.func143, Tryz.ntmps143
  go_wp2_with (go_at_call 172; (with_reducible refine (unhide H _).mono ?_); rintro e w1 ⟨rfl, rfl⟩)
  go_ret
  exact ⟨rfl, rfl⟩
set_option maxRecDepth 100000 in
theorem p_sortW (A : Option Addr) (ts : List (Int × Int)) (cap : Nat) (w : World) (h : Pts w A ts) (hs : SrW ts) (hb : ∀ p ∈ ts, Nr 4000 p) (hn : ts.length = 8) :
    Calls Tryz.prog 153 #[.slice A 8 cap, fnWays] w fun e w' => e = .returned (.tuple #[]) ∧ Up w w' := by
  have HI := hide (fun W (hW : Up w W) => p_insW A ts cap W (pts_up h hW) hs hb (by omega) (by omega))
  rw [hn, show ((8 : Nat) : Int) = 8 from rfl] at HI
  have HL := hide (fun W => p_len8 W)
  have HP : ∀ (d : Int) W, Up w W → Calls Tryz.prog 175 #[.slice A 8 cap, .int .i64 0, .int .i64 8, .int .i64 d, fnWays] W fun e w' => e = .returned (.tuple #[]) ∧ Up W w' := by
    intro d W hW
    go_enter Tryz.func175, Tryz.ntmps175
    go_upto_region 2 with fail
    refine wp_loop_rounds 1 ?_
    rw [rounds_succ]
    go_wp2_with (go_at_call 188; (with_reducible refine (unhide HI _ hW).mono ?_); rintro e w1 ⟨rfl, u1⟩)
    (try simp only [Exit.inBlock, Exit.then])
    first | refine bodyPost_end (results_none rfl _ _ _) rfl ?_ | refine bodyPost_ret (results_none rfl _ _ _) rfl ?_
    exact ⟨rfl, u1⟩
  have HP := hide HP
  go_enter Tryz.func153, Tryz.ntmps153
  go_wp2_with (first
    | (go_at_call 143; (with_reducible refine (unhide HL _).mono ?_); rintro e w1 ⟨rfl, rfl⟩)
    | (go_at_call 175; (with_reducible refine (unhide HP _ _ (up_refl _)).mono ?_); rintro e w2 ⟨rfl, u2⟩))
  refine bodyPost_end (results_none rfl _ _ _) rfl ?_
  exact ⟨rfl, u2⟩
end Go.Proofs.YtdehnokcjnbjoaaGreat
