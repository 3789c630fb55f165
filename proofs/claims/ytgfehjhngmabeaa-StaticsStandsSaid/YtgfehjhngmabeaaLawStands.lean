/- StaticsStands: the law's function returns true. -/
import Derived.Test.YtgfehjhngmabeaaStands
import Derived.Test.YtgfehjhngmabeaaKnown
namespace Go.Proofs.Ytgfehjhngmabeaa
open Go.RowKit Go.Proofs.Gn
set_option maxRecDepth 100000 in
set_option maxHeartbeats 16000000 in
theorem l_Stands (A : Option Addr) (ps : List Gs.Sup) (cap : Nat) (s : ByteArray) (Ap : Option Addr) (pcs : List Pce) (capP : Nat) (B : Option Addr) (ys : List Eye) (capB : Nat) (f sx sy ax ay : Int) (w : World)
    (hS : Sups w A ps) (hA : Pcs w Ap pcs) (hB : Eyes w B ys) (hl : ps.length ≤ 9223372036854775807) (hn : pcs.length ≤ 9223372036854775807) (hm : ys.length ≤ 9223372036854775807) :
    Calls Try.prog 5 #[.slice A ps.length cap, loV s Ap pcs.length capP B ys.length capB f, pt sx sy, pt ax ay] w fun e w' => e = .returned (.bool true) ∧ Up w w' := by
  have HP := hide (fun W (hW : Up w W) => p_Stands A ps cap s Ap pcs capP B ys capB f sx sy ax ay W (sups_up hS hW) (pcs_up hA hW) (eyes_up hB hW) hl hn hm)
  have HR := hide (fun W (hW : Up w W) => r_Stands A ps cap s Ap pcs capP B ys capB f sx sy ax ay W (sups_up hS hW) (pcs_up hA hW) (eyes_up hB hW) hl hn hm)
  clear hS hA hB
  generalize sdV ps s pcs ys f sx sy ax ay pa0 = r0 at *
  generalize sdV ps s pcs ys f sx sy ax ay pa1 = r1 at *
  generalize sdV ps s pcs ys f sx sy ax ay pa2 = r2 at *
  generalize sdE ps s pcs ys f sx sy ax ay = E at *
  generalize ps.length = n at *
  generalize pcs.length = np at *
  generalize ys.length = ny at *
  obtain ⟨z, hz⟩ : ∃ z, s.size = z := ⟨_, rfl⟩
  by_cases g1 : 60 < (n : Int)
  · clear HP HR
    go_enter Try.func5, Try.ntmps5
    go_upto_region 1 with fail
    refine at_wp (fun W0 hW0 => ?_)
    have t3 := bxm3 w [.string s, .slice Ap np capP, .slice B ny capB, .int .i64 f] [.int .i64 sx, .int .i64 sy] [.int .i64 ax, .int .i64 ay] 25 54 54
    have U0 : Up w W0 := by rw [hW0]; exact (by repeat' (first | (with_reducible exact up_refl _) | (with_reducible assumption) | (with_reducible refine up_alloc ?_ _) | (with_reducible refine up_drewN ?_ _) | (with_reducible refine up_drew ?_) | (with_reducible refine up_set ?_ (by first | (simp; done) | (simp; omega) | omega) _) | (refine up_trans ?_ (by with_reducible assumption))))
    have L0 : Bx W0 w.heap.size [.string s, .slice Ap np capP, .slice B ny capB, .int .i64 f] := by rw [hW0]; exact t3.1
    have S0 : Bx W0 (w.heap.size + 1) [.int .i64 sx, .int .i64 sy] := by rw [hW0]; exact t3.2.1
    have A0 : Bx W0 (w.heap.size + 1 + 1) [.int .i64 ax, .int .i64 ay] := by rw [hW0]; exact t3.2.2
    clear hW0 t3
    have c0 := (L0 0 _ rfl).1
    have c1 := (L0 1 _ rfl).1
    have c2 := (L0 2 _ rfl).1
    have c3 := (L0 3 _ rfl).1
    go_wp2_with (go_at_call 18; refine (l_known _).mono ?_; rintro e w2 ⟨rfl, hb2⟩)
    go_ret
    exact ⟨rfl, up_trans U0 hb2⟩
  have d1 : decide ((60 : Int) < n) = false := by simp only [decide_eq_false_iff_not]; exact g1
  by_cases g2 : 40 < (np : Int)
  · clear HP HR
    go_enter Try.func5, Try.ntmps5
    go_upto_region 1 with fail
    refine at_wp (fun W0 hW0 => ?_)
    have t3 := bxm3 w [.string s, .slice Ap np capP, .slice B ny capB, .int .i64 f] [.int .i64 sx, .int .i64 sy] [.int .i64 ax, .int .i64 ay] 25 54 54
    have U0 : Up w W0 := by rw [hW0]; exact (by repeat' (first | (with_reducible exact up_refl _) | (with_reducible assumption) | (with_reducible refine up_alloc ?_ _) | (with_reducible refine up_drewN ?_ _) | (with_reducible refine up_drew ?_) | (with_reducible refine up_set ?_ (by first | (simp; done) | (simp; omega) | omega) _) | (refine up_trans ?_ (by with_reducible assumption))))
    have L0 : Bx W0 w.heap.size [.string s, .slice Ap np capP, .slice B ny capB, .int .i64 f] := by rw [hW0]; exact t3.1
    have S0 : Bx W0 (w.heap.size + 1) [.int .i64 sx, .int .i64 sy] := by rw [hW0]; exact t3.2.1
    have A0 : Bx W0 (w.heap.size + 1 + 1) [.int .i64 ax, .int .i64 ay] := by rw [hW0]; exact t3.2.2
    clear hW0 t3
    have c0 := (L0 0 _ rfl).1
    have c1 := (L0 1 _ rfl).1
    have c2 := (L0 2 _ rfl).1
    have c3 := (L0 3 _ rfl).1
    go_wp2_with (go_at_call 18; refine (l_known _).mono ?_; rintro e w2 ⟨rfl, hb2⟩)
    go_ret
    exact ⟨rfl, up_trans U0 hb2⟩
  have d2 : decide ((40 : Int) < np) = false := by simp only [decide_eq_false_iff_not]; exact g2
  by_cases g3 : 40 < (ny : Int)
  · clear HP HR
    go_enter Try.func5, Try.ntmps5
    go_upto_region 1 with fail
    refine at_wp (fun W0 hW0 => ?_)
    have t3 := bxm3 w [.string s, .slice Ap np capP, .slice B ny capB, .int .i64 f] [.int .i64 sx, .int .i64 sy] [.int .i64 ax, .int .i64 ay] 25 54 54
    have U0 : Up w W0 := by rw [hW0]; exact (by repeat' (first | (with_reducible exact up_refl _) | (with_reducible assumption) | (with_reducible refine up_alloc ?_ _) | (with_reducible refine up_drewN ?_ _) | (with_reducible refine up_drew ?_) | (with_reducible refine up_set ?_ (by first | (simp; done) | (simp; omega) | omega) _) | (refine up_trans ?_ (by with_reducible assumption))))
    have L0 : Bx W0 w.heap.size [.string s, .slice Ap np capP, .slice B ny capB, .int .i64 f] := by rw [hW0]; exact t3.1
    have S0 : Bx W0 (w.heap.size + 1) [.int .i64 sx, .int .i64 sy] := by rw [hW0]; exact t3.2.1
    have A0 : Bx W0 (w.heap.size + 1 + 1) [.int .i64 ax, .int .i64 ay] := by rw [hW0]; exact t3.2.2
    clear hW0 t3
    have c0 := (L0 0 _ rfl).1
    have c1 := (L0 1 _ rfl).1
    have c2 := (L0 2 _ rfl).1
    have c3 := (L0 3 _ rfl).1
    go_wp2_with (go_at_call 18; refine (l_known _).mono ?_; rintro e w2 ⟨rfl, hb2⟩)
    go_ret
    exact ⟨rfl, up_trans U0 hb2⟩
  have d3 : decide ((40 : Int) < ny) = false := by simp only [decide_eq_false_iff_not]; exact g3
  by_cases g4 : 100 < (s.size : Int)
  · clear HP HR
    go_enter Try.func5, Try.ntmps5
    go_upto_region 1 with fail
    refine at_wp (fun W0 hW0 => ?_)
    have t3 := bxm3 w [.string s, .slice Ap np capP, .slice B ny capB, .int .i64 f] [.int .i64 sx, .int .i64 sy] [.int .i64 ax, .int .i64 ay] 25 54 54
    have U0 : Up w W0 := by rw [hW0]; exact (by repeat' (first | (with_reducible exact up_refl _) | (with_reducible assumption) | (with_reducible refine up_alloc ?_ _) | (with_reducible refine up_drewN ?_ _) | (with_reducible refine up_drew ?_) | (with_reducible refine up_set ?_ (by first | (simp; done) | (simp; omega) | omega) _) | (refine up_trans ?_ (by with_reducible assumption))))
    have L0 : Bx W0 w.heap.size [.string s, .slice Ap np capP, .slice B ny capB, .int .i64 f] := by rw [hW0]; exact t3.1
    have S0 : Bx W0 (w.heap.size + 1) [.int .i64 sx, .int .i64 sy] := by rw [hW0]; exact t3.2.1
    have A0 : Bx W0 (w.heap.size + 1 + 1) [.int .i64 ax, .int .i64 ay] := by rw [hW0]; exact t3.2.2
    clear hW0 t3
    have c0 := (L0 0 _ rfl).1
    have c1 := (L0 1 _ rfl).1
    have c2 := (L0 2 _ rfl).1
    have c3 := (L0 3 _ rfl).1
    go_wp2_with (go_at_call 18; refine (l_known _).mono ?_; rintro e w2 ⟨rfl, hb2⟩)
    go_ret
    exact ⟨rfl, up_trans U0 hb2⟩
  · have d4 : decide ((100 : Int) < s.size) = false := by simp only [decide_eq_false_iff_not]; exact g4
    have e3 := fun W => eq3_same r0 r1 r2 W
    go_enter Try.func5, Try.ntmps5
    go_upto_region 1 with fail
    refine at_wp (fun W0 hW0 => ?_)
    have t3 := bxm3 w [.string s, .slice Ap np capP, .slice B ny capB, .int .i64 f] [.int .i64 sx, .int .i64 sy] [.int .i64 ax, .int .i64 ay] 25 54 54
    have U0 : Up w W0 := by rw [hW0]; exact (by repeat' (first | (with_reducible exact up_refl _) | (with_reducible assumption) | (with_reducible refine up_alloc ?_ _) | (with_reducible refine up_drewN ?_ _) | (with_reducible refine up_drew ?_) | (with_reducible refine up_set ?_ (by first | (simp; done) | (simp; omega) | omega) _) | (refine up_trans ?_ (by with_reducible assumption))))
    have L0 : Bx W0 w.heap.size [.string s, .slice Ap np capP, .slice B ny capB, .int .i64 f] := by rw [hW0]; exact t3.1
    have S0 : Bx W0 (w.heap.size + 1) [.int .i64 sx, .int .i64 sy] := by rw [hW0]; exact t3.2.1
    have A0 : Bx W0 (w.heap.size + 1 + 1) [.int .i64 ax, .int .i64 ay] := by rw [hW0]; exact t3.2.2
    clear hW0 t3
    have c0 := (L0 0 _ rfl).1
    have c1 := (L0 1 _ rfl).1
    have c2 := (L0 2 _ rfl).1
    have c3 := (L0 3 _ rfl).1
    obtain ⟨i0, i1⟩ := bx2 S0
    obtain ⟨j0, j1⟩ := bx2 A0
    go_wp2_with (first
      | (go_at_call 24; (with_reducible refine (unhide HP _ U0).mono ?_); rintro e w1 ⟨rfl, hb1⟩; have h1a := up_alloc hb1 (.cells #[.int .i64 r0, .int .i64 r1, .int .i64 r2] 31); have U1 := up_trans U0 h1a; have L1 := bx_up L0 h1a; have S1 := bx_up S0 h1a; have A1 := bx_up A0 h1a; have P1 := bx_new w1 [.int .i64 r0, .int .i64 r1, .int .i64 r2] 31; have m0 := (L1 0 _ rfl).1; have m1 := (L1 1 _ rfl).1; have m2 := (L1 2 _ rfl).1; have m3 := (L1 3 _ rfl).1; obtain ⟨i2, i3⟩ := bx2 S1; obtain ⟨j2, j3⟩ := bx2 A1)
      | (go_at_call 25; (with_reducible refine (unhide HR _ U1).mono ?_); rintro e w2 ⟨rfl, hb2⟩; have h2a := up_alloc hb2 (.cells #[.int .i64 r0, .int .i64 r1, .int .i64 r2] 31); have U2 := up_trans U1 h2a; have P2 := bx_up P1 h2a; have Q2 := bx_new w2 [.int .i64 r0, .int .i64 r1, .int .i64 r2] 31; obtain ⟨q0, q1, q2⟩ := bx3 P2; obtain ⟨y0, y1, y2⟩ := bx3 Q2)
      | (go_at_call 18; refine (l_known _).mono ?_; rintro e w3 ⟨rfl, hb3⟩))
    go_ret
    exact ⟨rfl, up_trans U2 hb3⟩
end Go.Proofs.Ytgfehjhngmabeaa
