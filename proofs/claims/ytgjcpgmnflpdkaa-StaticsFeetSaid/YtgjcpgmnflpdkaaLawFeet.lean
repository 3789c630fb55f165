/- StaticsFeet: the law's function returns true. -/
import Derived.Test.YtgjcpgmnflpdkaaRefBlown
import Derived.Test.YtgjcpgmnflpdkaaRefTilt
namespace Go.Proofs.Ytgjcpgmnflpdkaa
open Go.RowKit Go.Proofs.Gn
set_option maxRecDepth 100000 in
set_option maxHeartbeats 16000000 in
theorem l_Feet (A : Option Addr) (ps : List Gs.Sup) (cap : Nat) (c0 c1 c2 sx sy ax ay wx wy vx vy h m : Int) (w : World) (hp : Sups w A ps) (hn : ps.length ≤ 9223372036854775807) :
    Calls Try.prog 8 #[.slice A ps.length cap, .agg #[.int .i64 c0, .int .i64 c1, .int .i64 c2], pt sx sy, pt ax ay, pt wx wy, pt vx vy, .int .i64 h, .int .i64 m] w fun e w' => e = .returned (.bool true) ∧ Below w.heap.size w w' := by
  obtain ⟨K, hK⟩ := fst_ex (tlS ps c0 c1 c2 vx vy)
  have h1 := hide (fun W => p_Foot c0 c1 c2 sx sy ax ay W)
  have h2 := hide (fun W => r_Foot c0 c1 c2 sx sy ax ay W)
  have h3 := hide (fun W => p_Blown c0 c1 c2 sx sy ax ay wx wy h m W)
  have h4 := hide (fun W => r_Blown c0 c1 c2 sx sy ax ay wx wy h m W)
  have h5 := hide (fun (W : World) (hW : Up w W) => p_TiltA A ps cap c0 c1 c2 vx vy K hK hn W (sups_up hp hW))
  have h6 := hide (fun (W : World) (hW : Up w W) => r_TiltA A ps cap c0 c1 c2 vx vy K hK hn W (sups_up hp hW))
  clear hp hK
  obtain ⟨n, hN⟩ : ∃ n, ps.length = n := ⟨_, rfl⟩
  rw [hN] at h5 h6 hn ⊢
  clear hN
  generalize foV c0 c1 c2 sx sy ax ay (ft c0 c2 sx ax) = x0 at *
  generalize foV c0 c1 c2 sx sy ax ay (ft c1 c2 sy ay) = x1 at *
  generalize lnE c0 c1 c2 sx sy ax ay = E1 at *
  generalize blV c0 c1 c2 sx sy ax ay wx wy h m (ft c0 c2 sx ax + neV (wx * h) m) = u0 at *
  generalize blV c0 c1 c2 sx sy ax ay wx wy h m (ft c1 c2 sy ay + neV (wy * h) m) = u1 at *
  generalize blE c0 c1 c2 sx sy ax ay wx wy h m = E2 at *
  generalize tlV ps c0 c1 c2 vx vy K = V at *
  generalize tlE ps c0 c1 c2 vx vy K = E3 at *
  by_cases cl : 60 < n
  · go_enter Try.func8, Try.ntmps8
    go_wp2_with (go_at_call 15; refine (l_known _).mono ?_; rintro e w2 ⟨rfl, hb2⟩)
    go_ret
    exact ⟨rfl, (by repeat' (first | (with_reducible exact up_refl _) | (with_reducible assumption) | (with_reducible refine up_alloc ?_ _) | (with_reducible refine up_drewN ?_ _) | (with_reducible refine up_drew ?_) | (with_reducible refine up_set ?_ (by first | (simp; done) | (simp; omega) | omega) _) | (refine up_trans ?_ (by with_reducible assumption))))⟩
  go_enter Try.func8, Try.ntmps8
  go_upto_region 1 with fail
  refine at_wp (fun W0 hW0 => ?_)
  obtain ⟨C0, S0, A0, D0, Y0⟩ := bx_five w [.int .i64 c0, .int .i64 c1, .int .i64 c2] [.int .i64 sx, .int .i64 sy] [.int .i64 ax, .int .i64 ay] [.int .i64 wx, .int .i64 wy] [.int .i64 vx, .int .i64 vy] 30 46 46 46 46
  have U0 : Up w W0 := by rw [hW0]; exact (by repeat' (first | (with_reducible exact up_refl _) | (with_reducible assumption) | (with_reducible refine up_alloc ?_ _) | (with_reducible refine up_drewN ?_ _) | (with_reducible refine up_drew ?_) | (with_reducible refine up_set ?_ (by first | (simp; done) | (simp; omega) | omega) _) | (refine up_trans ?_ (by with_reducible assumption))))
  replace C0 : Bx W0 w.heap.size [.int .i64 c0, .int .i64 c1, .int .i64 c2] := by rw [hW0]; exact C0
  replace S0 : Bx W0 (w.heap.size + 1) [.int .i64 sx, .int .i64 sy] := by rw [hW0]; exact S0
  replace A0 : Bx W0 (w.heap.size + 1 + 1) [.int .i64 ax, .int .i64 ay] := by rw [hW0]; exact A0
  replace D0 : Bx W0 (w.heap.size + 1 + 1 + 1) [.int .i64 wx, .int .i64 wy] := by rw [hW0]; exact D0
  replace Y0 : Bx W0 (w.heap.size + 1 + 1 + 1 + 1) [.int .i64 vx, .int .i64 vy] := by rw [hW0]; exact Y0
  clear hW0
  obtain ⟨x00, x01, x02⟩ := bx3 C0
  obtain ⟨x03, x04⟩ := bx2 S0
  obtain ⟨x05, x06⟩ := bx2 A0
  go_upto_region 4 with (go_at_call 27; (with_reducible refine (unhide h1 _).mono ?_); rintro e w1 ⟨rfl, hb1⟩)
  refine at_wp (fun W1 hW1 => ?_)
  have v1 : Up W0 W1 := by rw [hW1]; exact (by repeat' (first | (with_reducible exact up_refl _) | (with_reducible assumption) | (with_reducible refine up_alloc ?_ _) | (with_reducible refine up_drewN ?_ _) | (with_reducible refine up_drew ?_) | (with_reducible refine up_set ?_ (by first | (simp; done) | (simp; omega) | omega) _) | (refine up_trans ?_ (by with_reducible assumption))))
  have P1 : Bx W1 w1.heap.size [.int .i64 x0, .int .i64 x1] := by rw [hW1]; exact bx_new w1 _ 29
  have C1 := bx_up C0 v1
  have S1 := bx_up S0 v1
  have A1 := bx_up A0 v1
  have D1 := bx_up D0 v1
  have Y1 := bx_up Y0 v1
  have U1 := up_trans U0 v1
  clear hW1 hb1 x00 x01 x02 x03 x04 x05 x06 C0 S0 A0 D0 Y0
  obtain ⟨g1, hg1⟩ : ∃ g, w1.heap.size = g := ⟨_, rfl⟩
  rw [hg1] at P1 ⊢
  clear hg1
  obtain ⟨x10, x11, x12⟩ := bx3 C1
  obtain ⟨x13, x14⟩ := bx2 S1
  obtain ⟨x15, x16⟩ := bx2 A1
  go_upto_region 5 with (go_at_call 28; (with_reducible refine (unhide h2 _).mono ?_); rintro e w2 ⟨rfl, hb2⟩)
  refine at_wp (fun W2 hW2 => ?_)
  have v2 : Up W1 W2 := by rw [hW2]; exact (by repeat' (first | (with_reducible exact up_refl _) | (with_reducible assumption) | (with_reducible refine up_alloc ?_ _) | (with_reducible refine up_drewN ?_ _) | (with_reducible refine up_drew ?_) | (with_reducible refine up_set ?_ (by first | (simp; done) | (simp; omega) | omega) _) | (refine up_trans ?_ (by with_reducible assumption))))
  have P2 : Bx W2 w2.heap.size [.int .i64 x0, .int .i64 x1] := by rw [hW2]; exact bx_new w2 _ 29
  have C2 := bx_up C1 v2
  have S2 := bx_up S1 v2
  have A2 := bx_up A1 v2
  have D2 := bx_up D1 v2
  have Y2 := bx_up Y1 v2
  have U2 := up_trans U1 v2
  have P1_2 := bx_up P1 v2
  clear hW2 hb2 x10 x11 x12 x13 x14 x15 x16 C1 S1 A1 D1 Y1
  obtain ⟨g2, hg2⟩ : ∃ g, w2.heap.size = g := ⟨_, rfl⟩
  rw [hg2] at P2 ⊢
  clear hg2
  obtain ⟨x20, x21, x22⟩ := bx3 C2
  obtain ⟨x23, x24⟩ := bx2 S2
  obtain ⟨x25, x26⟩ := bx2 A2
  obtain ⟨x27, x28⟩ := bx2 D2
  go_upto_region 6 with (go_at_call 29; (with_reducible refine (unhide h3 _).mono ?_); rintro e w3 ⟨rfl, hb3⟩)
  refine at_wp (fun W3 hW3 => ?_)
  have v3 : Up W2 W3 := by rw [hW3]; exact (by repeat' (first | (with_reducible exact up_refl _) | (with_reducible assumption) | (with_reducible refine up_alloc ?_ _) | (with_reducible refine up_drewN ?_ _) | (with_reducible refine up_drew ?_) | (with_reducible refine up_set ?_ (by first | (simp; done) | (simp; omega) | omega) _) | (refine up_trans ?_ (by with_reducible assumption))))
  have P3 : Bx W3 w3.heap.size [.int .i64 u0, .int .i64 u1] := by rw [hW3]; exact bx_new w3 _ 29
  have C3 := bx_up C2 v3
  have S3 := bx_up S2 v3
  have A3 := bx_up A2 v3
  have D3 := bx_up D2 v3
  have Y3 := bx_up Y2 v3
  have U3 := up_trans U2 v3
  have P1_3 := bx_up P1_2 v3
  have P2_3 := bx_up P2 v3
  clear hW3 hb3 x20 x21 x22 x23 x24 x25 x26 x27 x28 C2 S2 A2 D2 Y2
  obtain ⟨g3, hg3⟩ : ∃ g, w3.heap.size = g := ⟨_, rfl⟩
  rw [hg3] at P3 ⊢
  clear hg3
  obtain ⟨x30, x31, x32⟩ := bx3 C3
  obtain ⟨x33, x34⟩ := bx2 S3
  obtain ⟨x35, x36⟩ := bx2 A3
  obtain ⟨x37, x38⟩ := bx2 D3
  go_upto_region 7 with (go_at_call 30; (with_reducible refine (unhide h4 _).mono ?_); rintro e w4 ⟨rfl, hb4⟩)
  refine at_wp (fun W4 hW4 => ?_)
  have v4 : Up W3 W4 := by rw [hW4]; exact (by repeat' (first | (with_reducible exact up_refl _) | (with_reducible assumption) | (with_reducible refine up_alloc ?_ _) | (with_reducible refine up_drewN ?_ _) | (with_reducible refine up_drew ?_) | (with_reducible refine up_set ?_ (by first | (simp; done) | (simp; omega) | omega) _) | (refine up_trans ?_ (by with_reducible assumption))))
  have P4 : Bx W4 w4.heap.size [.int .i64 u0, .int .i64 u1] := by rw [hW4]; exact bx_new w4 _ 29
  have C4 := bx_up C3 v4
  have S4 := bx_up S3 v4
  have A4 := bx_up A3 v4
  have D4 := bx_up D3 v4
  have Y4 := bx_up Y3 v4
  have U4 := up_trans U3 v4
  have P1_4 := bx_up P1_3 v4
  have P2_4 := bx_up P2_3 v4
  have P3_4 := bx_up P3 v4
  clear hW4 hb4 x30 x31 x32 x33 x34 x35 x36 x37 x38 C3 S3 A3 D3 Y3
  obtain ⟨g4, hg4⟩ : ∃ g, w4.heap.size = g := ⟨_, rfl⟩
  rw [hg4] at P4 ⊢
  clear hg4
  obtain ⟨x40, x41, x42⟩ := bx3 C4
  obtain ⟨x43, x44⟩ := bx2 S4
  obtain ⟨x45, x46⟩ := bx2 A4
  obtain ⟨x47, x48⟩ := bx2 Y4
  go_upto_region 8 with (go_at_call 31; (with_reducible refine (unhide h5 _ (by repeat' (first | (with_reducible exact up_refl _) | (with_reducible assumption) | (with_reducible refine up_alloc ?_ _) | (with_reducible refine up_drewN ?_ _) | (with_reducible refine up_drew ?_) | (with_reducible refine up_set ?_ (by first | (simp; done) | (simp; omega) | omega) _) | (refine up_trans ?_ (by with_reducible assumption))))).mono ?_); rintro e w5 ⟨rfl, hb5⟩)
  have C5 := bx_up C4 hb5
  have Y5 := bx_up Y4 hb5
  obtain ⟨x50, x51, x52⟩ := bx3 C5
  obtain ⟨x53, x54⟩ := bx2 Y5
  go_upto_region 9 with (go_at_call 32; (with_reducible refine (unhide h6 _ (by repeat' (first | (with_reducible exact up_refl _) | (with_reducible assumption) | (with_reducible refine up_alloc ?_ _) | (with_reducible refine up_drewN ?_ _) | (with_reducible refine up_drew ?_) | (with_reducible refine up_set ?_ (by first | (simp; done) | (simp; omega) | omega) _) | (refine up_trans ?_ (by with_reducible assumption))))).mono ?_); rintro e w6 ⟨rfl, hb6⟩)
  have hb7 := up_trans hb5 hb6
  obtain ⟨q0, q1⟩ := bx2 (bx_up P1_4 hb7)
  obtain ⟨q2, q3⟩ := bx2 (bx_up P2_4 hb7)
  obtain ⟨q4, q5⟩ := bx2 (bx_up P3_4 hb7)
  obtain ⟨q6, q7⟩ := bx2 (bx_up P4 hb7)
  have U7 := up_trans U4 hb7
  clear x40 x41 x42 x43 x44 x45 x46 x47 x48 x50 x51 x52 x53 x54 C4 S4 A4 D4 Y4 C5 Y5 P1_4 P2_4 P3_4 P4 hb5 hb6 hb7 h1 h2 h3 h4 h5 h6 U0 U1 U2 U3 U4
  go_wp2_with (go_at_call 15; refine (l_known _).mono ?_; rintro e w8 ⟨rfl, hb8⟩)
  go_ret
  exact ⟨rfl, (by repeat' (first | (with_reducible exact up_refl _) | (with_reducible assumption) | (with_reducible refine up_alloc ?_ _) | (with_reducible refine up_drewN ?_ _) | (with_reducible refine up_drew ?_) | (with_reducible refine up_set ?_ (by first | (simp; done) | (simp; omega) | omega) _) | (refine up_trans ?_ (by with_reducible assumption))))⟩
end Go.Proofs.Ytgjcpgmnflpdkaa
