/- load's Check and Mass. -/
import Derived.Test.YtdehnokcjnbjoaaGreatValid
namespace Go.Proofs.YtdehnokcjnbjoaaGreat
open Go.RowKit Go.Proofs.Gn
/-- Which error a load has. -/
def loE (s : ByteArray) (ps : List Pce) (ys : List Eye) (f : Int) : Int :=
  if 1 ≤ ps.length ∧ ps.length ≤ 32 ∧ ys.length ≤ 32 then
    (if nmS s = true ∧ win f 0 1000 = true ∧ (okPs ps && okYs ys) = true ∧ win (mas ps) 1 16777216 = true then 0 else 2)
  else 6
def loM (s : ByteArray) (ps : List Pce) (ys : List Eye) (f : Int) : Int := if loE s ps ys f = 0 then mas ps else 0
theorem loE_ok {s : ByteArray} {ps : List Pce} {ys : List Eye} {f : Int} (h : loE s ps ys f = 0) :
    (1 ≤ ps.length ∧ ps.length ≤ 32 ∧ ys.length ≤ 32) ∧ nmS s = true ∧ (0 ≤ f ∧ f ≤ 1000) ∧ okPs ps = true ∧ okYs ys = true ∧ 1 ≤ mas ps ∧ mas ps ≤ 16777216 := by
  unfold loE at h
  split at h
  · rename_i h1
    split at h
    · rename_i h2
      obtain ⟨a, b, c, d⟩ := h2
      rw [Bool.and_eq_true] at c
      exact ⟨h1, a, win_t b, c.1, c.2, win_t d⟩
    · cases h
  · cases h
theorem lo6 {s : ByteArray} {ps : List Pce} {ys : List Eye} {f : Int} (h : ¬ (1 ≤ ps.length ∧ ps.length ≤ 32 ∧ ys.length ≤ 32)) : loE s ps ys f = 6 := by
  unfold loE; rw [if_neg h]
theorem lo2 {s : ByteArray} {ps : List Pce} {ys : List Eye} {f : Int} (g : 1 ≤ ps.length ∧ ps.length ≤ 32 ∧ ys.length ≤ 32) (h : nmS s = false ∨ win f 0 1000 = false ∨ (okPs ps && okYs ys) = false ∨ win (mas ps) 1 16777216 = false) : loE s ps ys f = 2 := by
  unfold loE
  rw [if_pos g, if_neg]
  rintro ⟨a, b, c, d⟩
  rcases h with h | h | h | h <;> simp_all
theorem lo0 {s : ByteArray} {ps : List Pce} {ys : List Eye} {f : Int} (g : 1 ≤ ps.length ∧ ps.length ≤ 32 ∧ ys.length ≤ 32) (a : nmS s = true) (b : win f 0 1000 = true) (c : (okPs ps && okYs ys) = true) (d : win (mas ps) 1 16777216 = true) : loE s ps ys f = 0 := by
  unfold loE
  rw [if_pos g, if_pos ⟨a, b, c, d⟩]
set_option maxRecDepth 100000 in
set_option maxHeartbeats 8000000 in
theorem p_CheckL (s : ByteArray) (A : Option Addr) (ps : List Pce) (capA : Nat) (B : Option Addr) (ys : List Eye) (capB : Nat) (f : Int) (w : World) (hA : Pcs w A ps) (hB : Eyes w B ys) (hn : ps.length ≤ 9223372036854775807) (hm : ys.length ≤ 9223372036854775807) :
    Calls Tryz.prog 16 #[loV s A ps.length capA B ys.length capB f] w fun e w' => e = .returned (.int .i64 (loE s ps ys f)) ∧ Up w w' := by
  have HE6 := hide (lo6 (s := s) (ps := ps) (ys := ys) (f := f))
  have HE2 := hide (lo2 (s := s) (ps := ps) (ys := ys) (f := f))
  have HE0 := hide (lo0 (s := s) (ps := ps) (ys := ys) (f := f))
  have HV := hide (fun W (hW : Up w W) h1 h2 => p_allValid s A ps capA B ys capB f W (pcs_up hA hW) (eyes_up hB hW) h1 h2)
  have HM := hide (fun W (hW : Up w W) h1 h2 => p_mass A ps capA W (pcs_up hA hW) h1 h2)
  have HK := hide (fun (h : (okPs ps && okYs ys) = true) => (by rw [Bool.and_eq_true] at h; exact h.1 : okPs ps = true))
  have HNm := hide (fun W => p_IsName s W)
  have HF := hide (fun W => p_withinL f 0 1000 W)
  have HW := hide (fun W => p_withinL (mas ps) 1 16777216 W)
  clear hA hB
  generalize loE s ps ys f = E at *
  generalize nmS s = q0 at *
  generalize win f 0 1000 = q1 at *
  generalize (okPs ps && okYs ys) = q2 at *
  generalize win (mas ps) 1 16777216 = q3 at *
  generalize mas ps = S at *
  generalize ps.length = n at *
  generalize ys.length = m at *
  by_cases g1 : (1 : Int) ≤ n
  rotate_left
  · have F := hide (unhide HE6 (by omega))
    go_enter Tryz.func16, Tryz.ntmps16
    go_wp2_with fail
    go_ret
    exact ⟨by rw [unhide F]; rfl, (by repeat' (first | (with_reducible exact up_refl _) | (with_reducible assumption) | (with_reducible refine up_alloc ?_ _) | (with_reducible refine up_drewN ?_ _) | (with_reducible refine up_drew ?_) | (with_reducible refine up_set ?_ (by first | (simp; done) | (simp; omega) | omega) _) | (refine up_trans ?_ (by with_reducible assumption))))⟩
  by_cases g2 : 32 < (n : Int)
  · have F := hide (unhide HE6 (by omega))
    go_enter Tryz.func16, Tryz.ntmps16
    go_wp2_with fail
    go_ret
    exact ⟨by rw [unhide F]; rfl, (by repeat' (first | (with_reducible exact up_refl _) | (with_reducible assumption) | (with_reducible refine up_alloc ?_ _) | (with_reducible refine up_drewN ?_ _) | (with_reducible refine up_drew ?_) | (with_reducible refine up_set ?_ (by first | (simp; done) | (simp; omega) | omega) _) | (refine up_trans ?_ (by with_reducible assumption))))⟩
  by_cases g3 : 32 < (m : Int)
  · have F := hide (unhide HE6 (by omega))
    go_enter Tryz.func16, Tryz.ntmps16
    go_wp2_with fail
    go_ret
    exact ⟨by rw [unhide F]; rfl, (by repeat' (first | (with_reducible exact up_refl _) | (with_reducible assumption) | (with_reducible refine up_alloc ?_ _) | (with_reducible refine up_drewN ?_ _) | (with_reducible refine up_drew ?_) | (with_reducible refine up_set ?_ (by first | (simp; done) | (simp; omega) | omega) _) | (refine up_trans ?_ (by with_reducible assumption))))⟩
  have HG := hide (show 1 ≤ n ∧ n ≤ 32 ∧ m ≤ 32 by omega)
  cases q0
  · have F := hide (unhide HE2 (unhide HG) (.inl rfl))
    clear HE6 HE2 HE0 HV HM HK HF HW
    go_enter Tryz.func16, Tryz.ntmps16
    go_wp2_with (go_at_call 57; (with_reducible refine (unhide HNm _).mono ?_); rintro e w1 ⟨rfl, hb⟩)
    go_ret
    exact ⟨by rw [unhide F]; rfl, (by repeat' (first | (with_reducible exact up_refl _) | (with_reducible assumption) | (with_reducible refine up_alloc ?_ _) | (with_reducible refine up_drewN ?_ _) | (with_reducible refine up_drew ?_) | (with_reducible refine up_set ?_ (by first | (simp; done) | (simp; omega) | omega) _) | (refine up_trans ?_ (by with_reducible assumption))))⟩
  cases q1
  · have F := hide (unhide HE2 (unhide HG) (.inr (.inl rfl)))
    clear HE6 HE2 HE0 HV HM HK HW
    go_enter Tryz.func16, Tryz.ntmps16
    go_upto_region 1 with fail
    refine at_wp (fun W0 hW0 => ?_)
    have U0 : Up w W0 := by rw [hW0]; exact (by repeat' (first | (with_reducible exact up_refl _) | (with_reducible assumption) | (with_reducible refine up_alloc ?_ _) | (with_reducible refine up_drewN ?_ _) | (with_reducible refine up_drew ?_) | (with_reducible refine up_set ?_ (by first | (simp; done) | (simp; omega) | omega) _) | (refine up_trans ?_ (by with_reducible assumption))))
    have B0 : Bx W0 w.heap.size [.string s, .slice A n capA, .slice B m capB, .int .i64 f] := by rw [hW0]; exact bx_new w _ 25
    clear hW0
    have c0 := (B0 0 _ rfl).1
    have c1 := (B0 1 _ rfl).1
    have c2 := (B0 2 _ rfl).1
    go_wp2_with (first | (go_at_call 57; (with_reducible refine (unhide HNm _).mono ?_); rintro e w1 ⟨rfl, hb⟩; have c3 := (bx_up B0 hb 3 _ rfl).1) | (go_at_call 58; (with_reducible refine (unhide HF _).mono ?_); rintro e w2 ⟨rfl, rfl⟩))
    go_ret
    exact ⟨by rw [unhide F]; rfl, up_trans U0 hb⟩
  cases q2
  · have F := hide (unhide HE2 (unhide HG) (.inr (.inr (.inl rfl))))
    clear HE6 HE2 HE0 HM HK HW
    go_enter Tryz.func16, Tryz.ntmps16
    go_upto_region 1 with fail
    refine at_wp (fun W0 hW0 => ?_)
    have U0 : Up w W0 := by rw [hW0]; exact (by repeat' (first | (with_reducible exact up_refl _) | (with_reducible assumption) | (with_reducible refine up_alloc ?_ _) | (with_reducible refine up_drewN ?_ _) | (with_reducible refine up_drew ?_) | (with_reducible refine up_set ?_ (by first | (simp; done) | (simp; omega) | omega) _) | (refine up_trans ?_ (by with_reducible assumption))))
    have B0 : Bx W0 w.heap.size [.string s, .slice A n capA, .slice B m capB, .int .i64 f] := by rw [hW0]; exact bx_new w _ 25
    clear hW0
    have c0 := (B0 0 _ rfl).1
    have c1 := (B0 1 _ rfl).1
    have c2 := (B0 2 _ rfl).1
    have L1 := (unhide HG).2.1
    have L2 := (unhide HG).2.2
    have HL := hide (And.intro L1 L2)
    clear L1 L2
    go_upto_region 3 with fail
    go_wp2_with (first | (go_at_call 57; (with_reducible refine (unhide HNm _).mono ?_); rintro e w1 ⟨rfl, hb⟩; have B1 := bx_up B0 hb; have k0 := (B1 0 _ rfl).1; have k1 := (B1 1 _ rfl).1; have k2 := (B1 2 _ rfl).1; have k3 := (B1 3 _ rfl).1; have U1 := up_trans U0 hb) | (go_at_call 58; (with_reducible refine (unhide HF _).mono ?_); rintro e w2 ⟨rfl, rfl⟩) | (go_at_call 59; (with_reducible refine (unhide HV _ U1 (unhide HL).1 (unhide HL).2).mono ?_); rintro e w3 ⟨rfl, hb3⟩; have m1 := (bx_up B1 hb3 1 _ rfl).1; have U3 := up_trans U1 hb3))
    go_ret
    exact ⟨by rw [unhide F]; rfl, U3⟩
  have HOk := hide (unhide HK rfl)
  clear HK
  cases q3
  · have F := hide (unhide HE2 (unhide HG) (.inr (.inr (.inr rfl))))
    clear HE6 HE2 HE0
    go_enter Tryz.func16, Tryz.ntmps16
    go_upto_region 1 with fail
    refine at_wp (fun W0 hW0 => ?_)
    have U0 : Up w W0 := by rw [hW0]; exact (by repeat' (first | (with_reducible exact up_refl _) | (with_reducible assumption) | (with_reducible refine up_alloc ?_ _) | (with_reducible refine up_drewN ?_ _) | (with_reducible refine up_drew ?_) | (with_reducible refine up_set ?_ (by first | (simp; done) | (simp; omega) | omega) _) | (refine up_trans ?_ (by with_reducible assumption))))
    have B0 : Bx W0 w.heap.size [.string s, .slice A n capA, .slice B m capB, .int .i64 f] := by rw [hW0]; exact bx_new w _ 25
    clear hW0
    have c0 := (B0 0 _ rfl).1
    have c1 := (B0 1 _ rfl).1
    have c2 := (B0 2 _ rfl).1
    have L1 := (unhide HG).2.1
    have L2 := (unhide HG).2.2
    have HL := hide (And.intro L1 L2)
    clear L1 L2
    go_upto_region 3 with fail
    go_wp2_with (first | (go_at_call 57; (with_reducible refine (unhide HNm _).mono ?_); rintro e w1 ⟨rfl, hb⟩; have B1 := bx_up B0 hb; have k0 := (B1 0 _ rfl).1; have k1 := (B1 1 _ rfl).1; have k2 := (B1 2 _ rfl).1; have k3 := (B1 3 _ rfl).1; have U1 := up_trans U0 hb) | (go_at_call 58; (with_reducible refine (unhide HF _).mono ?_); rintro e w2 ⟨rfl, rfl⟩) | (go_at_call 59; (with_reducible refine (unhide HV _ U1 (unhide HL).1 (unhide HL).2).mono ?_); rintro e w3 ⟨rfl, hb3⟩; have m1 := (bx_up B1 hb3 1 _ rfl).1; have U3 := up_trans U1 hb3) | (go_at_call 51; (with_reducible refine (unhide HM _ U3 (unhide HOk) (unhide HL).1).mono ?_); rintro e w4 ⟨rfl, hb4⟩; have U4 := up_trans U3 hb4) | (go_at_call 58; (with_reducible refine (unhide HW _).mono ?_); rintro e w5 ⟨rfl, rfl⟩))
    go_ret
    exact ⟨by rw [unhide F]; rfl, U4⟩
  · have F := hide (unhide HE0 (unhide HG) rfl rfl rfl rfl)
    clear HE6 HE2 HE0
    go_enter Tryz.func16, Tryz.ntmps16
    go_upto_region 1 with fail
    refine at_wp (fun W0 hW0 => ?_)
    have U0 : Up w W0 := by rw [hW0]; exact (by repeat' (first | (with_reducible exact up_refl _) | (with_reducible assumption) | (with_reducible refine up_alloc ?_ _) | (with_reducible refine up_drewN ?_ _) | (with_reducible refine up_drew ?_) | (with_reducible refine up_set ?_ (by first | (simp; done) | (simp; omega) | omega) _) | (refine up_trans ?_ (by with_reducible assumption))))
    have B0 : Bx W0 w.heap.size [.string s, .slice A n capA, .slice B m capB, .int .i64 f] := by rw [hW0]; exact bx_new w _ 25
    clear hW0
    have c0 := (B0 0 _ rfl).1
    have c1 := (B0 1 _ rfl).1
    have c2 := (B0 2 _ rfl).1
    have L1 := (unhide HG).2.1
    have L2 := (unhide HG).2.2
    have HL := hide (And.intro L1 L2)
    clear L1 L2
    go_upto_region 3 with fail
    go_wp2_with (first | (go_at_call 57; (with_reducible refine (unhide HNm _).mono ?_); rintro e w1 ⟨rfl, hb⟩; have B1 := bx_up B0 hb; have k0 := (B1 0 _ rfl).1; have k1 := (B1 1 _ rfl).1; have k2 := (B1 2 _ rfl).1; have k3 := (B1 3 _ rfl).1; have U1 := up_trans U0 hb) | (go_at_call 58; (with_reducible refine (unhide HF _).mono ?_); rintro e w2 ⟨rfl, rfl⟩) | (go_at_call 59; (with_reducible refine (unhide HV _ U1 (unhide HL).1 (unhide HL).2).mono ?_); rintro e w3 ⟨rfl, hb3⟩; have m1 := (bx_up B1 hb3 1 _ rfl).1; have U3 := up_trans U1 hb3) | (go_at_call 51; (with_reducible refine (unhide HM _ U3 (unhide HOk) (unhide HL).1).mono ?_); rintro e w4 ⟨rfl, hb4⟩; have U4 := up_trans U3 hb4) | (go_at_call 58; (with_reducible refine (unhide HW _).mono ?_); rintro e w5 ⟨rfl, rfl⟩))
    go_ret
    exact ⟨by rw [unhide F]; rfl, U4⟩
set_option maxRecDepth 100000 in
theorem p_MassL (s : ByteArray) (A : Option Addr) (ps : List Pce) (capA : Nat) (B : Option Addr) (ys : List Eye) (capB : Nat) (f : Int) (w : World) (hA : Pcs w A ps) (hB : Eyes w B ys) (hn : ps.length ≤ 9223372036854775807) (hm : ys.length ≤ 9223372036854775807) :
    Calls Tryz.prog 10 #[loV s A ps.length capA B ys.length capB f] w fun e w' => e = .returned (.tuple #[.int .i64 (loM s ps ys f), .int .i64 (loE s ps ys f)]) ∧ Up w w' := by
  have HC := hide (fun W (hW : Up w W) => p_CheckL s A ps capA B ys capB f W (pcs_up hA hW) (eyes_up hB hW) hn hm)
  have HM := hide (fun W (hW : Up w W) (he : loE s ps ys f = 0) => p_mass A ps capA W (pcs_up hA hW) (loE_ok he).2.2.2.1 (loE_ok he).1.2.1)
  unfold loM
  clear hA hB
  generalize loE s ps ys f = E at *
  generalize mas ps = S at *
  generalize ps.length = n at *
  generalize ys.length = m at *
  go_enter Tryz.func10, Tryz.ntmps10
  go_upto_region 1 with fail
  refine at_wp (fun W0 hW0 => ?_)
  have U0 : Up w W0 := by rw [hW0]; exact (by repeat' (first | (with_reducible exact up_refl _) | (with_reducible assumption) | (with_reducible refine up_alloc ?_ _) | (with_reducible refine up_drewN ?_ _) | (with_reducible refine up_drew ?_) | (with_reducible refine up_set ?_ (by first | (simp; done) | (simp; omega) | omega) _) | (refine up_trans ?_ (by with_reducible assumption))))
  have B0 : Bx W0 w.heap.size [.string s, .slice A n capA, .slice B m capB, .int .i64 f] := by rw [hW0]; exact bx_new w _ 25
  clear hW0
  have c0 := (B0 0 _ rfl).1
  have c1 := (B0 1 _ rfl).1
  have c2 := (B0 2 _ rfl).1
  have c3 := (B0 3 _ rfl).1
  by_cases he : E = 0
  · subst he
    have HM2 := hide (fun W hW => unhide HM W hW rfl)
    clear HM
    go_wp2_with (first | (go_at_call 16; (with_reducible refine (unhide HC _ U0).mono ?_); rintro e w1 ⟨rfl, hb⟩; have k1 := (bx_up B0 hb 1 _ rfl).1; have U1 := up_trans U0 hb) | (go_at_call 51; (with_reducible refine (unhide HM2 _ U1).mono ?_); rintro e w2 ⟨rfl, hb2⟩))
    go_returns
    exact ⟨rfl, up_trans U1 hb2⟩
  · have t : (E == 0) = false := by simp [he]
    have HH := hide he
    clear he
    go_wp2_with (go_at_call 16; (with_reducible refine (unhide HC _ U0).mono ?_); rintro e w1 ⟨rfl, hb⟩; have k1 := (bx_up B0 hb 1 _ rfl).1; have U1 := up_trans U0 hb)
    go_returns
    exact ⟨by first | rfl | (rw [if_neg (unhide HH)]; rfl), U1⟩
end Go.Proofs.YtdehnokcjnbjoaaGreat
