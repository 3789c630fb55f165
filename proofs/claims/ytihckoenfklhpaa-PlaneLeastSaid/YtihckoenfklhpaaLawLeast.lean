/- PlaneLeast: the law's function returns true. -/
import Derived.Test.YtihckoenfklhpaaLeastM
import Derived.Test.YtihckoenfklhpaaSame
import Derived.Test.YtihckoenfklhpaaFew
import Derived.Test.YtihckoenfklhpaaWorks
import Derived.Test.YtihckoenfklhpaaUpQ
import Derived.Test.YtihckoenfklhpaaHullOwn
import Derived.BigRegion
import Derived.Deep.RegionLaw
namespace Go.Proofs.Ytihckoenfklhpaa
open Go.RowKit Go.Proofs.Gn
theorem own_none {W : World} {base : Nat} {v : Value} {e : TypeId} {xs : List Value} (h : W.ownsRow base e 2 v 0 xs) : ∃ A cap, v = .slice A 0 cap := by
  rcases h.2 with ⟨h1, _⟩ | ⟨g, cap, cur, h1, _⟩
  · exact ⟨_, _, h1⟩
  · exact ⟨_, _, h1⟩
theorem l_few10 (A : Option Addr) (ps : Pl) (cap : Nat) (w : World) (h : Smalls w A ps) (hn : ps.length ≤ 9223372036854775807) :
    Calls Try.prog 28 #[.slice A ps.length cap, .int .i64 10] w fun e w' => ∃ v, e = .returned v ∧ w'.ownsRow w.heap.size 24 2 v (ps.take 10).length (cellsPl (ps.take 10)) ∧ Below w.heap.size w w' := l_fewN 10 (by omega) A ps cap w h hn
theorem okL_small {qs : Pl} (h : ∀ p ∈ qs, (-128 ≤ p.1 ∧ p.1 ≤ 127) ∧ (-128 ≤ p.2 ∧ p.2 ≤ 127)) : okL qs = true := by
  refine List.all_eq_true.2 fun p hp => ?_
  have := h p hp
  unfold okp okc
  simp
  omega
theorem in_yes {qs H : Pl} (hH : HullOf qs H) (ho : okL qs = true) (hl : H.length ≤ 256) {g cap : Nat} (hcap : H.length ≤ cap) (hcap2 : cap ≤ 9223372036854775807) {x y : Int} (hq : (x, y) ∈ qs) (W : World) (hp : Pts W (some ⟨g, 0, none⟩) H) :
    Calls Try.prog 14 #[.slice (some ⟨g, 0, none⟩) H.length cap, pt x y] W fun e w' => e = .returned (.tuple #[.bool true, .int .i64 0]) ∧ Up W w' :=
  (p_Inside g 0 H cap x y W hp hH.pos hl (okL_sub hH.mem ho) hcap hcap2 hH.is (List.all_eq_true.1 ho _ hq)).mono fun e w' ⟨⟨v, he, hv⟩, hu⟩ => ⟨by rw [he, hv.2 (hH.cont _ hq)], hu⟩
theorem in_no {qs H : Pl} (hH : HullOf qs H) (ho : okL qs = true) (hl : H.length ≤ 100) (h2 : 1 < H.length) {i : Nat} (hi : i < H.length) {g cap : Nat} (hcap : (Gx.hullF (rest H i)).length ≤ cap) (hcap2 : cap ≤ 9223372036854775807) (W : World) (hp : Pts W (some ⟨g, 0, none⟩) (Gx.hullF (rest H i))) :
    Calls Try.prog 14 #[.slice (some ⟨g, 0, none⟩) (Gx.hullF (rest H i)).length cap, pt (Gx.g H i).1 (Gx.g H i).2] W fun e w' => e = .returned (.tuple #[.bool false, .int .i64 0]) ∧ Up W w' := by
  have hr : rest H i ≠ [] := List.ne_nil_of_length_pos (by rw [rest_len hi]; omega)
  have hG := hullOf hr
  have hoH := okL_sub hH.mem ho
  have hoR : okL (rest H i) = true := okL_sub (fun r hr => rest_mem hr) hoH
  have hlG := hullF_len (rest H i)
  rw [rest_len hi] at hlG
  exact (p_Inside g 0 (Gx.hullF (rest H i)) cap _ _ W hp hG.pos (by omega) (okL_sub hG.mem hoR) hcap hcap2 hG.is (List.all_eq_true.1 hoH _ (Gx.g_mem hi))).mono fun e w' ⟨⟨v, he, hv⟩, hu⟩ => ⟨by
    rw [he, show v = false from by cases v; rfl; exact absurd (hv.1 rfl) (rest_not hH h2 hi)], hu⟩
set_option maxRecDepth 100000 in
set_option maxHeartbeats 2000000 in
theorem l_Least_none (A : Option Addr) (ps : Pl) (cap : Nat) (from' : Int) (w : World) (h : Smalls w A ps) (hn : ps.length ≤ 9223372036854775807) (h0 : (ps.take 10).length = 0) :
    Calls Try.prog 5 #[.slice A ps.length cap, .int .u8 from'] w fun e w' => e = .returned (.bool true) ∧ Below w.heap.size w w' := by
  have HS := hide h
  have HZ := hide h0
  clear h h0
  go_enter Try.func5, Try.ntmps5
  go_wp2_with (first
    | (go_at_call 28; refine (l_few10 _ _ _ _ (unhide HS) hn).mono ?_; rintro e w1 ⟨v, rfl, hown, hb⟩; rw [unhide HZ] at hown; obtain ⟨A1, c1, rfl⟩ := own_none hown; clear hown)
    | (go_at_call 9; (with_reducible refine (p_HullNone _ _ _).mono ?_); rintro e w2 ⟨rfl, hb2⟩)
    | (go_at_call 8; refine (l_works _).mono ?_; rintro e w5 ⟨rfl, hb5⟩))
  exact bodyPost_ret (v := .bool true) (by simp [results, Try.results5, go_sem]) rfl ⟨rfl, up_trans (up_trans hb hb2) hb5⟩
set_option maxRecDepth 100000 in
set_option maxHeartbeats 40000000 in
theorem l_Least_some (A : Option Addr) (ps : Pl) (cap : Nat) (from' : Int) (w : World) (h : Smalls w A ps) (hn : ps.length ≤ 9223372036854775807) (qs : Pl) (hq : ps.take 10 = qs) (h0 : 0 < qs.length) (hq10 : qs.length ≤ 10)
    (hqb : ∀ p ∈ qs, (-128 ≤ p.1 ∧ p.1 ≤ 127) ∧ (-128 ≤ p.2 ∧ p.2 ≤ 127)) (a1 : 0 ≤ from') (a2 : from' ≤ 255) :
    Calls Try.prog 5 #[.slice A ps.length cap, .int .u8 from'] w fun e w' => e = .returned (.bool true) ∧ Below w.heap.size w w' := by
  have ho := okL_small hqb
  have hH := hullOf (List.ne_nil_of_length_pos h0)
  have hlen := hullF_len qs
  obtain ⟨H, hHe⟩ : ∃ H, Gx.hullF qs = H := ⟨_, rfl⟩
  rw [hHe] at hH hlen
  have hpos := hH.pos
  have hlH : H.length ≤ 20 := by omega
  have HHE := hide hHe
  have HHO := hide hH
  have HO := hide ho
  have HS := hide h
  have HQ := hide hq
  have QB := hide (okL_bdL ho)
  have HB := hide (okL_bdL (okL_sub hH.mem ho))
  have PH : ∀ g c (W : World), Pts W (some ⟨g, 0, none⟩) qs → Calls Try.prog 9 #[.slice (some ⟨g, 0, none⟩) qs.length c] W fun e w' => ∃ v, e = .returned (.tuple #[v, .int .i64 0]) ∧ w'.ownsRow W.heap.size 24 2 v H.length (cellsPl H) ∧ Up W w' := fun g c W hW => by
    have q := p_Hull (some ⟨g, 0, none⟩) qs c W hW h0 (by omega) ho
    rw [hHe] at q
    exact q
  have PI : ∀ g c (W : World), H.length ≤ c → c ≤ 9223372036854775807 → Pts W (some ⟨g, 0, none⟩) H → Calls Try.prog 12 #[.slice (some ⟨g, 0, none⟩) H.length c] W fun e w' => e = .returned (.bool true) ∧ Up W w' := fun g c W hc1 hc2 hW => by
    have q := p_IsHull g 0 H c W hW hpos (by omega) (okL_sub hH.mem ho) hc1 hc2
    rw [hH.is] at q
    exact q
  have HPH := hide PH
  have HPI := hide PI
  obtain ⟨m, hM⟩ : ∃ m, qs.length = m := ⟨_, rfl⟩
  obtain ⟨n, hN⟩ : ∃ m, H.length = m := ⟨_, rfl⟩
  rw [hM] at h0 hq10 hlen HPH
  rw [hN] at hlen hpos hlH HPH HPI
  have HM := hide hM
  have HN := hide hN
  clear h hq hqb ho hH hHe PH PI hM hN
  have z1 : ((m : Int) == 0) = false := by simp; omega
  have z2 : ((n : Int) == 0) = false := by simp; omega
  go_enter Try.func5, Try.ntmps5
  go_wp2_with (first
    | (go_at_call 28; refine (l_few10 _ _ _ _ (unhide HS) hn).mono ?_; rintro e w1 ⟨v, rfl, hown, hb⟩; rw [unhide HQ, unhide HM] at hown; obtain ⟨gp, cp, rfl, hgp, hcp, hcp2⟩ := own_some hown h0; have HP1 := hide (own_p hown); clear hown)
    | (go_at_call 9; (with_reducible refine (unhide HPH _ _ _ (unhide HP1)).mono ?_); rintro e w2 ⟨v, rfl, hown, hb2⟩; obtain ⟨gh, ch, rfl, hgh, hch, hch2⟩ := own_some hown hpos; have HP2 := hide (own_p hown); clear hown)
    | (go_at_call 12; (with_reducible refine (unhide HPI _ _ _ hch hch2 (unhide HP2)).mono ?_); rintro e w3 ⟨rfl, hb3⟩))
  have R1 := hide (pts_up (pts_up (unhide HP1) hb2) hb3)
  have R2 := hide (pts_up (unhide HP2) hb3)
  have RB := hide (up_trans (up_trans hb hb2) hb3)
  clear hb hb2 hb3 HP1 HP2 HPH HPI HS HQ hn hgp hgh
  go_loopw [9] (fun i wr => ∃ k : Nat, k ≤ n ∧ i = .int .i64 k ∧ Up w3 wr) (fun i _ => n - (intOf i).toNat)
  case atStart => exact ⟨0, Nat.zero_le _, rfl, up_refl _⟩
  case round =>
    obtain ⟨k, hk, rfl, hu⟩ := hrel
    by_cases hlt : k < n
    · have S2 := pts_up (unhide R2) hu
      have lk : k < H.length := by rw [unhide HN]; exact hlt
      have l1 : (k + 1) % n < H.length := by rw [unhide HN]; exact Nat.mod_lt _ hpos
      have l2 : (k + 2) % n < H.length := by rw [unhide HN]; exact Nat.mod_lt _ hpos
      have l0 : 0 < H.length := by rw [unhide HN]; exact hpos
      obtain ⟨b0, o0, hbe, hcs⟩ := S2.resolve_left (by intro e; rw [e] at l0; simp at l0)
      obtain ⟨rfl, rfl⟩ : gh = b0 ∧ 0 = o0 := by simpa using hbe
      obtain ⟨x0, x1⟩ := pts_g hcs lk
      obtain ⟨y0, y1⟩ := pts_g hcs l1
      obtain ⟨v0, v1⟩ := pts_g hcs l2
      obtain ⟨f0, f1⟩ := pts_g hcs l0
      have e1 : Gx.g H ((k + 1) % n) = Gx.gc H (k + 1) := by unfold Gx.gc; rw [unhide HN]
      have e2 : Gx.g H ((k + 2) % n) = Gx.gc H (k + 2) := by unfold Gx.gc; rw [unhide HN]
      have tn := fun h2 => (unhide HHO).turn h2 k lk
      have lw := (unhide HHO).low k lk
      have lf := fun q hq => (unhide HHO).left q hq k lk
      have on := (unhide HHO).one
      have mk := (unhide HHO).mem _ (Gx.g_mem lk)
      have bk := bdL_get (unhide HB) lk
      have bk1 := bdL_get (unhide HB) l1
      have bk2 := bdL_get (unhide HB) l2
      rw [← e1] at lf
      rw [← e1, ← e2] at tn
      simp only [Nat.zero_add, Nat.zero_mul] at x0 x1 y0 y1 v0 v1 f0 f1
      have on' : n = 1 → ∀ q ∈ qs, q = Gx.g H k := fun h1 q hq => by
        have := on (by rw [unhide HN]; exact h1) q hq
        obtain rfl : k = 0 := by omega
        exact this
      rw [unhide HN] at tn
      obtain ⟨P, hP⟩ : ∃ P, Gx.g H k = P := ⟨_, rfl⟩
      obtain ⟨Q, hQ⟩ : ∃ P, Gx.g H ((k + 1) % n) = P := ⟨_, rfl⟩
      obtain ⟨R, hR⟩ : ∃ P, Gx.g H ((k + 2) % n) = P := ⟨_, rfl⟩
      obtain ⟨Z, hZ⟩ : ∃ P, Gx.g H 0 = P := ⟨_, rfl⟩
      rw [hP] at x0 x1 tn lw lf mk bk on'
      rw [hQ] at y0 y1 tn lf bk1
      rw [hR] at v0 v1 tn bk2
      rw [hZ] at f0 f1 lw
      obtain ⟨p1, p2⟩ := P
      obtain ⟨q1, q2⟩ := Q
      obtain ⟨r1, r2⟩ := R
      obtain ⟨s1, s2⟩ := Z
      simp only at x0 x1 y0 y1 v0 v1 f0 f1 lw bk bk1 bk2
      obtain ⟨M1, hM1⟩ : ∃ M, (k + 1) % n = M := ⟨_, rfl⟩
      obtain ⟨M2, hM2⟩ : ∃ M, (k + 2) % n = M := ⟨_, rfl⟩
      rw [hM1] at y0 y1 l1
      rw [hM2] at v0 v1 l2
      rw [unhide HN] at l1 l2
      have TN := hide tn
      have LF := hide lf
      have ON := hide on'
      have MK := hide mk
      have LW := hide lw
      have HPK := hide hP
      have t1 : ((k : Int) + 1).tmod (n : Int) = (M1 : Int) := by rw [← hM1]; exact upto_mod k n
      have t2 : ((k : Int) + 2).tmod (n : Int) = (M2 : Int) := by rw [← hM2, show (k : Int) + 2 = ((k + 2 : Nat) : Int) by omega]; rfl
      have k1 : IntKind.i64.wrap ((k : Int) + 1) = (k : Int) + 1 := IntWalk.i64_in _ ⟨by omega, by omega⟩
      have k2 : IntKind.i64.wrap ((k : Int) + 2) = (k : Int) + 2 := IntWalk.i64_in _ ⟨by omega, by omega⟩
      have k3 : (k : Int) < (n : Int) := by omega
      have k4 : (M1 : Int) < (n : Int) := by omega
      have k5 : (M2 : Int) < (n : Int) := by omega
      have k6 : ¬ n = 0 := by omega
      have T1 := hide t1
      have T2 := hide t2
      clear tn lf on on' mk lw hP hQ hR hZ hM1 hM2 e1 e2 hcs S2 hbe t1 t2 lk l0
      go_wp2_with fail
      go_cut [10, 11, 12] (fun s10 s11 s12 wx => ∃ A B C : Nat, s10 = .pointer (some ⟨A, 0, none⟩) ∧ s11 = .pointer (some ⟨B, 0, none⟩) ∧ s12 = .pointer (some ⟨C, 0, none⟩) ∧ wx.cell? ⟨A, 0, none⟩ = some (.int .i64 p1) ∧ wx.cell? ⟨A, 1, none⟩ = some (.int .i64 p2) ∧ wx.cell? ⟨B, 0, none⟩ = some (.int .i64 q1) ∧ wx.cell? ⟨B, 1, none⟩ = some (.int .i64 q2) ∧ wx.cell? ⟨C, 0, none⟩ = some (.int .i64 r1) ∧ wx.cell? ⟨C, 1, none⟩ = some (.int .i64 r2) ∧ Up wr wx)
      case first => as_aux_lemma =>
        have t1 := unhide T1
        have t2 := unhide T2
        have FU : ∀ wx : World, Up wr wx → wx.cell? ⟨gh, k * 2, none⟩ = some (.int .i64 p1) ∧ wx.cell? ⟨gh, k * 2 + 1, none⟩ = some (.int .i64 p2) ∧ wx.cell? ⟨gh, M1 * 2, none⟩ = some (.int .i64 q1) ∧ wx.cell? ⟨gh, M1 * 2 + 1, none⟩ = some (.int .i64 q2) ∧ wx.cell? ⟨gh, M2 * 2, none⟩ = some (.int .i64 r1) ∧ wx.cell? ⟨gh, M2 * 2 + 1, none⟩ = some (.int .i64 r2) ∧ Up wr wx := fun wx h => ⟨up_cell h x0, up_cell h x1, up_cell h y0, up_cell h y1, up_cell h v0, up_cell h v1, h⟩
        have HFU := hide FU
        clear FU
        go_region_held3 (fun wx => wx.cell? ⟨gh, k * 2, none⟩ = some (.int .i64 p1) ∧ wx.cell? ⟨gh, k * 2 + 1, none⟩ = some (.int .i64 p2) ∧ wx.cell? ⟨gh, M1 * 2, none⟩ = some (.int .i64 q1) ∧ wx.cell? ⟨gh, M1 * 2 + 1, none⟩ = some (.int .i64 q2) ∧ wx.cell? ⟨gh, M2 * 2, none⟩ = some (.int .i64 r1) ∧ wx.cell? ⟨gh, M2 * 2 + 1, none⟩ = some (.int .i64 r2) ∧ Up wr wx)
          (exact unhide HFU _ (by repeat' (first | (with_reducible exact up_refl _) | (with_reducible assumption) | (with_reducible refine up_alloc ?_ _) | (with_reducible refine up_drewN ?_ _) | (with_reducible refine up_drew ?_) | (with_reducible refine up_set ?_ (by first | (simp; done) | (simp; omega) | omega) _) | (refine up_trans ?_ (by with_reducible assumption))))) (fail)
        all_goals go_wp2_with fail
        all_goals go_meet
        all_goals exact ⟨_, _, _, rfl, rfl, rfl, by go_cell, by go_cell, by go_cell, by go_cell, by go_cell, by go_cell, (by repeat' (first | (with_reducible exact up_refl _) | (with_reducible assumption) | (with_reducible refine up_alloc ?_ _) | (with_reducible refine up_drewN ?_ _) | (with_reducible refine up_drew ?_) | (with_reducible refine up_set ?_ (by first | (simp; done) | (simp; omega) | omega) _) | (refine up_trans ?_ (by with_reducible assumption))))⟩
      case rest =>
        obtain ⟨X, Y, Z, rfl, rfl, rfl, i0, i1, j0, j1, k0, k1', hu1⟩ := hcut
        have g0 := up_cell hu1 f0
        have g1 := up_cell hu1 f1
        clear x0 x1 y0 y1 v0 v1 f0 f1 T1 T2
        go_upto_region 12 with fail
        go_cut [110] (fun s wx => s = .bool false ∧ Up wc wx)
        case first => as_aux_lemma =>
          have lw := unhide LW
          have PS : ∀ W : World, Calls Try.prog 29 #[pt p1 p2, pt q1 q2, pt r1 r2] W fun e w' => e = .returned (.int .i64 (Gx.dt (p1, p2) (q1, q2) (r1, r2))) ∧ Up W w' := fun W => l_sign p1 p2 q1 q2 r1 r2 W bk.1 bk.2 bk1.1 bk1.2 bk2.1 bk2.2
          have htn := unhide TN
          obtain ⟨T, hT⟩ : ∃ T, Gx.dt (p1, p2) (q1, q2) (r1, r2) = T := ⟨_, rfl⟩
          rw [hT] at PS htn
          have HPS := hide PS
          have m0 : ∀ p : UpW wc, p.v.cell? ⟨X, 0, none⟩ = some (.int .i64 p1) := fun p => up_cell p.up i0
          have m1 : ∀ p : UpW wc, p.v.cell? ⟨X, 1, none⟩ = some (.int .i64 p2) := fun p => up_cell p.up i1
          have m2 : ∀ p : UpW wc, p.v.cell? ⟨Y, 0, none⟩ = some (.int .i64 q1) := fun p => up_cell p.up j0
          have m3 : ∀ p : UpW wc, p.v.cell? ⟨Y, 1, none⟩ = some (.int .i64 q2) := fun p => up_cell p.up j1
          have m4 : ∀ p : UpW wc, p.v.cell? ⟨Z, 0, none⟩ = some (.int .i64 r1) := fun p => up_cell p.up k0
          have m5 : ∀ p : UpW wc, p.v.cell? ⟨Z, 1, none⟩ = some (.int .i64 r2) := fun p => up_cell p.up k1'
          have m6 : ∀ p : UpW wc, p.v.cell? ⟨gh, 0, none⟩ = some (.int .i64 s1) := fun p => up_cell p.up g0
          have m7 : ∀ p : UpW wc, p.v.cell? ⟨gh, 1, none⟩ = some (.int .i64 s2) := fun p => up_cell p.up g1
          clear PS hT
          by_cases c1 : 2 < n
          · have n1 : decide (T ≤ 0) = false := decide_eq_false (by have := htn c1; omega)
            clear htn
            have n3 : (2 : Int) < (n : Int) := by omega
            have n6 : decide (p1 < s1) = false := decide_eq_false (by omega)
            by_cases c2 : p1 = s1
            · have n4 : (p1 == s1) = true := by simp; exact c2
              have n5 : decide (p2 < s2) = false := decide_eq_false (by have := lw.2 c2; omega)
              clear lw c2
              refine wp_upq (by kernel_rfl) (by kernel_rfl) ?_; (repeat (go_big_quiet_step ((go_at_call 29; exact upq (unhide HPS _))))); refine wpQuiet_nil ?_; intro _ hw'; obtain ⟨pq, hw''⟩ := hw'; subst hw''; have hpq := pq.up
              go_wp2_with fail
              go_meet
              exact ⟨rfl, (by repeat' (first | (with_reducible exact up_refl _) | (with_reducible assumption) | (with_reducible refine up_alloc ?_ _) | (with_reducible refine up_drewN ?_ _) | (with_reducible refine up_drew ?_) | (with_reducible refine up_set ?_ (by first | (simp; done) | (simp; omega) | omega) _) | (refine up_trans ?_ (by with_reducible assumption))))⟩
            · have n4 : (p1 == s1) = false := by simp; exact c2
              clear lw c2
              refine wp_upq (by kernel_rfl) (by kernel_rfl) ?_; (repeat (go_big_quiet_step ((go_at_call 29; exact upq (unhide HPS _))))); refine wpQuiet_nil ?_; intro _ hw'; obtain ⟨pq, hw''⟩ := hw'; subst hw''; have hpq := pq.up
              go_wp2_with fail
              go_meet
              exact ⟨rfl, (by repeat' (first | (with_reducible exact up_refl _) | (with_reducible assumption) | (with_reducible refine up_alloc ?_ _) | (with_reducible refine up_drewN ?_ _) | (with_reducible refine up_drew ?_) | (with_reducible refine up_set ?_ (by first | (simp; done) | (simp; omega) | omega) _) | (refine up_trans ?_ (by with_reducible assumption))))⟩
          · clear htn
            have n3 : ¬ (2 : Int) < (n : Int) := by omega
            have n6 : decide (p1 < s1) = false := decide_eq_false (by omega)
            by_cases c2 : p1 = s1
            · have n4 : (p1 == s1) = true := by simp; exact c2
              have n5 : decide (p2 < s2) = false := decide_eq_false (by have := lw.2 c2; omega)
              clear lw c2
              refine wp_upq (by kernel_rfl) (by kernel_rfl) ?_; (repeat (go_big_quiet_step ((go_at_call 29; exact upq (unhide HPS _))))); refine wpQuiet_nil ?_; intro _ hw'; obtain ⟨pq, hw''⟩ := hw'; subst hw''; have hpq := pq.up
              go_wp2_with fail
              go_meet
              exact ⟨rfl, (by repeat' (first | (with_reducible exact up_refl _) | (with_reducible assumption) | (with_reducible refine up_alloc ?_ _) | (with_reducible refine up_drewN ?_ _) | (with_reducible refine up_drew ?_) | (with_reducible refine up_set ?_ (by first | (simp; done) | (simp; omega) | omega) _) | (refine up_trans ?_ (by with_reducible assumption))))⟩
            · have n4 : (p1 == s1) = false := by simp; exact c2
              clear lw c2
              refine wp_upq (by kernel_rfl) (by kernel_rfl) ?_; (repeat (go_big_quiet_step ((go_at_call 29; exact upq (unhide HPS _))))); refine wpQuiet_nil ?_; intro _ hw'; obtain ⟨pq, hw''⟩ := hw'; subst hw''; have hpq := pq.up
              go_wp2_with fail
              go_meet
              exact ⟨rfl, (by repeat' (first | (with_reducible exact up_refl _) | (with_reducible assumption) | (with_reducible refine up_alloc ?_ _) | (with_reducible refine up_drewN ?_ _) | (with_reducible refine up_drew ?_) | (with_reducible refine up_set ?_ (by first | (simp; done) | (simp; omega) | omega) _) | (refine up_trans ?_ (by with_reducible assumption))))⟩
        case rest =>
          obtain ⟨rfl, hu2⟩ := hcut
          replace hu1 := up_trans hu1 hu2
          replace i0 := up_cell hu2 i0
          replace i1 := up_cell hu2 i1
          replace j0 := up_cell hu2 j0
          replace j1 := up_cell hu2 j1
          have hu3 := up_trans hu hu1
          clear g0 g1 k0 k1' LW TN hu2 hu hu1
          go_wp2_with fail
          obtain ⟨V, hV⟩ : ∃ V, wc = V := ⟨_, rfl⟩
          rw [hV] at i0 i1 j0 j1 hu3 ⊢
          clear hV
          go_loopw [13, 14] (fun s13 s14 wx => ∃ j : Nat, j ≤ m ∧ s14 = .int .i64 j ∧ s13 = .bool (decide ((p1, p2) ∈ qs.take j)) ∧ Up V wx) (fun _ s14 _ => m - (intOf s14).toNat)
          case atStart => exact ⟨0, Nat.zero_le _, rfl, rfl, up_refl _⟩
          case round =>
            obtain ⟨j, hj, rfl, rfl, hv⟩ := hrel
            have ii0 := up_cell hv i0
            have ii1 := up_cell hv i1
            have jj0 := up_cell hv j0
            have jj1 := up_cell hv j1
            by_cases hjt : j < m
            · have lj : j < qs.length := by rw [unhide HM]; exact hjt
              obtain ⟨b0, o0, hbe, hcs⟩ := (pts_up (unhide R1) (up_trans hu3 hv)).resolve_left (by intro e; rw [e] at lj; simp at lj)
              obtain ⟨rfl, rfl⟩ : gp = b0 ∧ 0 = o0 := by simpa using hbe
              obtain ⟨c0, c1⟩ := pts_g hcs lj
              simp only [Nat.zero_add] at c0 c1
              have um := Gx.g_mem lj
              have bu := bdL_get (unhide QB) lj
              have tk : qs.take (j + 1) = qs.take j ++ [Gx.g qs j] := by rw [List.take_succ_eq_append_getElem lj, Gx.g_eq lj]
              obtain ⟨U, hU⟩ : ∃ U, Gx.g qs j = U := ⟨_, rfl⟩
              rw [hU] at c0 c1 um bu tk
              obtain ⟨u, v⟩ := U
              simp only at c0 c1 bu
              have LFU := hide (unhide LF _ um)
              have ONU := hide (fun h1 : n = 1 => unhide ON h1 _ um)
              have UM := hide um
              obtain ⟨F0, hF0e⟩ : ∃ F, decide ((p1, p2) ∈ qs.take j) = F := ⟨_, rfl⟩
              obtain ⟨F1, hF1e⟩ : ∃ F, decide ((p1, p2) ∈ qs.take (j + 1)) = F := ⟨_, rfl⟩
              have ST := hide (show F0 = true → F1 = true by
                intro h
                rw [← hF1e, decide_eq_true_eq, tk]
                rw [← hF0e, decide_eq_true_eq] at h
                exact List.mem_append.2 (.inl h))
              have SY := hide (show (u, v) = (p1, p2) → F1 = true by
                intro h
                rw [← hF1e, decide_eq_true_eq, tk, h]
                exact List.mem_append.2 (.inr (List.mem_singleton.2 rfl)))
              have S1 : Hid (F0 = false → (u, v) ≠ (p1, p2) → F1 = false) := hide (by
                intro h1 h2
                rw [← hF1e, decide_eq_false_iff_not, tk]
                rw [← hF0e, decide_eq_false_iff_not] at h1
                intro h
                rcases List.mem_append.1 h with h | h
                · exact h1 h
                · exact h2 (List.mem_singleton.1 h).symm)
              rw [hF0e]
              have HF1 := hide hF1e
              have q1' : (j : Int) < (m : Int) := by omega
              have q2' : IntKind.i64.wrap ((j : Int) + 1) = (j : Int) + 1 := IntWalk.i64_in _ ⟨by omega, by omega⟩
              clear hF0e hF1e tk um hU hcs hbe
              go_wp2_with fail
              go_cut [13] (fun s wx => s = .bool F1 ∧ Up wr wx)
              case first => as_aux_lemma =>
                have d0 : ∀ p : UpW wr, p.v.cell? ⟨gp, j * 2, none⟩ = some (.int .i64 u) := fun p => up_cell p.up c0
                have d1 : ∀ p : UpW wr, p.v.cell? ⟨gp, j * 2 + 1, none⟩ = some (.int .i64 v) := fun p => up_cell p.up c1
                have d2 : ∀ p : UpW wr, p.v.cell? ⟨X, 0, none⟩ = some (.int .i64 p1) := fun p => up_cell p.up ii0
                have d3 : ∀ p : UpW wr, p.v.cell? ⟨X, 1, none⟩ = some (.int .i64 p2) := fun p => up_cell p.up ii1
                cases F0
                · skip
                  by_cases e1 : u = p1
                  · by_cases e2 : v = p2
                    · have r1 := unhide SY (by rw [e1, e2])
                      subst r1
                      subst e1 e2
                      clear S1 SY ST
                      refine wp_upq (by kernel_rfl) (by kernel_rfl) ?_; (repeat (go_big_quiet_step (fail))); refine wpQuiet_nil ?_; intro _ hw'; obtain ⟨pq, hw''⟩ := hw'; subst hw''; have hpq := pq.up
                      go_wp2_with fail
                      go_meet
                      exact ⟨rfl, (by repeat' (first | (with_reducible exact up_refl _) | (with_reducible assumption) | (with_reducible refine up_alloc ?_ _) | (with_reducible refine up_drewN ?_ _) | (with_reducible refine up_drew ?_) | (with_reducible refine up_set ?_ (by first | (simp; done) | (simp; omega) | omega) _) | (refine up_trans ?_ (by with_reducible assumption))))⟩
                    · have r1 := unhide S1 rfl (by intro h; exact e2 (by simpa using (Prod.mk.inj h).2))
                      subst r1
                      have n7 : (v == p2) = false := by simp; exact e2
                      subst e1
                      clear S1 SY ST e2
                      refine wp_upq (by kernel_rfl) (by kernel_rfl) ?_; (repeat (go_big_quiet_step (fail))); refine wpQuiet_nil ?_; intro _ hw'; obtain ⟨pq, hw''⟩ := hw'; subst hw''; have hpq := pq.up
                      go_wp2_with fail
                      go_meet
                      exact ⟨rfl, (by repeat' (first | (with_reducible exact up_refl _) | (with_reducible assumption) | (with_reducible refine up_alloc ?_ _) | (with_reducible refine up_drewN ?_ _) | (with_reducible refine up_drew ?_) | (with_reducible refine up_set ?_ (by first | (simp; done) | (simp; omega) | omega) _) | (refine up_trans ?_ (by with_reducible assumption))))⟩
                  · have r1 := unhide S1 rfl (by intro h; exact e1 (by simpa using (Prod.mk.inj h).1))
                    subst r1
                    have n7 : (u == p1) = false := by simp; exact e1
                    clear S1 SY ST e1
                    refine wp_upq (by kernel_rfl) (by kernel_rfl) ?_; (repeat (go_big_quiet_step (fail))); refine wpQuiet_nil ?_; intro _ hw'; obtain ⟨pq, hw''⟩ := hw'; subst hw''; have hpq := pq.up
                    go_wp2_with fail
                    go_meet
                    exact ⟨rfl, (by repeat' (first | (with_reducible exact up_refl _) | (with_reducible assumption) | (with_reducible refine up_alloc ?_ _) | (with_reducible refine up_drewN ?_ _) | (with_reducible refine up_drew ?_) | (with_reducible refine up_set ?_ (by first | (simp; done) | (simp; omega) | omega) _) | (refine up_trans ?_ (by with_reducible assumption))))⟩
                · have r1 := unhide ST rfl
                  subst r1
                  clear S1 SY ST
                  refine wp_upq (by kernel_rfl) (by kernel_rfl) ?_; (repeat (go_big_quiet_step (fail))); refine wpQuiet_nil ?_; intro _ hw'; obtain ⟨pq, hw''⟩ := hw'; subst hw''; have hpq := pq.up
                  go_wp2_with fail
                  go_meet
                  exact ⟨rfl, (by repeat' (first | (with_reducible exact up_refl _) | (with_reducible assumption) | (with_reducible refine up_alloc ?_ _) | (with_reducible refine up_drewN ?_ _) | (with_reducible refine up_drew ?_) | (with_reducible refine up_set ?_ (by first | (simp; done) | (simp; omega) | omega) _) | (refine up_trans ?_ (by with_reducible assumption))))⟩
              case rest =>
                obtain ⟨rfl, hv1⟩ := hcut
                have PIN : ∀ W : World, Pts W (some ⟨gh, 0, none⟩) H → Calls Try.prog 14 #[.slice (some ⟨gh, 0, none⟩) n ch, pt u v] W fun e w' => e = .returned (.tuple #[.bool true, .int .i64 0]) ∧ Up W w' := fun W hW => by
                  have q := in_yes (unhide HHO) (unhide HO) (by rw [unhide HN]; omega) (cap := ch) (by rw [unhide HN]; exact hch) hch2 (unhide UM) W hW
                  rw [unhide HN] at q
                  exact q
                have HPIN := hide PIN
                have R2' := hide (pts_up (unhide R2) (up_trans (up_trans hu3 hv) hv1))
                have e0 := up_cell hv1 c0
                have e1 := up_cell hv1 c1
                replace ii0 := up_cell hv1 ii0
                replace ii1 := up_cell hv1 ii1
                replace jj0 := up_cell hv1 jj0
                replace jj1 := up_cell hv1 jj1
                replace hv := up_trans hv hv1
                clear PIN hv1 c0 c1 ST SY S1
                go_wp2_with (first | (go_at_call 14; (with_reducible refine (unhide HPIN _ (unhide R2')).mono ?_); rintro e w9 ⟨rfl, hb9⟩))
                go_cut [166] (fun s wx => s = .bool false ∧ Up w9 wx)
                case first => as_aux_lemma =>
                  have d0 : ∀ p : UpW w9, p.v.cell? ⟨gp, j * 2, none⟩ = some (.int .i64 u) := fun p => up_cell (up_trans hb9 p.up) e0
                  have d1 : ∀ p : UpW w9, p.v.cell? ⟨gp, j * 2 + 1, none⟩ = some (.int .i64 v) := fun p => up_cell (up_trans hb9 p.up) e1
                  have d2 : ∀ p : UpW w9, p.v.cell? ⟨X, 0, none⟩ = some (.int .i64 p1) := fun p => up_cell (up_trans hb9 p.up) ii0
                  have d3 : ∀ p : UpW w9, p.v.cell? ⟨X, 1, none⟩ = some (.int .i64 p2) := fun p => up_cell (up_trans hb9 p.up) ii1
                  have d4 : ∀ p : UpW w9, p.v.cell? ⟨Y, 0, none⟩ = some (.int .i64 q1) := fun p => up_cell (up_trans hb9 p.up) jj0
                  have d5 : ∀ p : UpW w9, p.v.cell? ⟨Y, 1, none⟩ = some (.int .i64 q2) := fun p => up_cell (up_trans hb9 p.up) jj1
                  have PS : ∀ W : World, Calls Try.prog 29 #[pt p1 p2, pt q1 q2, pt u v] W fun e w' => e = .returned (.int .i64 (Gx.dt (p1, p2) (q1, q2) (u, v))) ∧ Up W w' := fun W => l_sign p1 p2 q1 q2 u v W bk.1 bk.2 bk1.1 bk1.2 bu.1 bu.2
                  obtain ⟨T, hT⟩ : ∃ T, Gx.dt (p1, p2) (q1, q2) (u, v) = T := ⟨_, rfl⟩
                  have hTp := unhide LFU
                  rw [hT] at PS hTp
                  have HPS := hide PS
                  have n8 : decide (T < 0) = false := decide_eq_false (by omega)
                  clear PS hT hTp
                  by_cases c1 : n = 1
                  · have e := unhide ONU c1
                    obtain ⟨rfl, rfl⟩ : u = p1 ∧ v = p2 := ⟨(Prod.mk.inj e).1, (Prod.mk.inj e).2⟩
                    have n9 : ((n : Int) == 1) = true := by simp; omega
                    have n10 : (n == 1) = true := by simp; omega
                    clear c1
                    refine wp_upq (by kernel_rfl) (by kernel_rfl) ?_; (repeat (go_big_quiet_step ((go_at_call 29; exact upq (unhide HPS _))))); refine wpQuiet_nil ?_; intro _ hw'; obtain ⟨pq, hw''⟩ := hw'; subst hw''; have hpq := pq.up
                    go_wp2_with fail
                    go_meet
                    exact ⟨rfl, (by repeat' (first | (with_reducible exact up_refl _) | (with_reducible assumption) | (with_reducible refine up_alloc ?_ _) | (with_reducible refine up_drewN ?_ _) | (with_reducible refine up_drew ?_) | (with_reducible refine up_set ?_ (by first | (simp; done) | (simp; omega) | omega) _) | (refine up_trans ?_ (by with_reducible assumption))))⟩
                  · have n9 : ((n : Int) == 1) = false := by simp; omega
                    have n10 : (n == 1) = false := by simp; omega
                    clear c1
                    refine wp_upq (by kernel_rfl) (by kernel_rfl) ?_; (repeat (go_big_quiet_step ((go_at_call 29; exact upq (unhide HPS _))))); refine wpQuiet_nil ?_; intro _ hw'; obtain ⟨pq, hw''⟩ := hw'; subst hw''; have hpq := pq.up
                    go_wp2_with fail
                    go_meet
                    exact ⟨rfl, (by repeat' (first | (with_reducible exact up_refl _) | (with_reducible assumption) | (with_reducible refine up_alloc ?_ _) | (with_reducible refine up_drewN ?_ _) | (with_reducible refine up_drew ?_) | (with_reducible refine up_set ?_ (by first | (simp; done) | (simp; omega) | omega) _) | (refine up_trans ?_ (by with_reducible assumption))))⟩
                case rest =>
                  obtain ⟨rfl, hv2⟩ := hcut
                  go_wp2_with fail
                  go_roundw
                  case rel => exact ⟨j + 1, by omega, by go_num, by rw [unhide HF1], up_trans (up_trans hv hb9) hv2⟩
                  case measure => simp [intOf]; omega
            · obtain rfl : j = m := by omega
              have hF : decide ((p1, p2) ∈ qs.take j) = true := decide_eq_true (by rw [List.take_of_length_le (by rw [unhide HM]; omega)]; exact unhide MK)
              rw [hF]
              have hu4 := up_trans hu3 hv
              clear hF i0 i1 j0 j1 jj0 jj1 hv hu3
              by_cases hn1 : 1 < n
              · have o1 : decide (1 < n) = true := decide_eq_true hn1
                have o2 : (1 : Int) < (n : Int) := by omega
                go_wp2_with fail
                go_cut [17, 18] (fun s17 s18 wx => ∃ gg cg, s17 = .slice (some ⟨gg, 0, none⟩) (Gx.hullF (rest H k)).length cg ∧ s18 = .int .i64 0 ∧ (Gx.hullF (rest H k)).length ≤ cg ∧ cg ≤ 9223372036854775807 ∧ Pts wx (some ⟨gg, 0, none⟩) (Gx.hullF (rest H k)) ∧ Up wr wx)
                case first => as_aux_lemma =>
                  have o3 : (k : Int) ≤ (ch : Int) := by omega
                  have o4 : (k : Int) + 1 ≤ (n : Int) := by omega
                  have o5 : (n : Int) ≤ (ch : Int) := by omega
                  have o6 : ((k : Int) + 1).toNat = k + 1 := by omega
                  have o7 : (0 : Int) ≤ (k : Int) + 1 := by omega
                  have S2 := pts_up (unhide R2) hu4
                  have FT : ∀ W : World, Up wr W → ∀ j u, (cellsPl (H.take k))[j]? = some u → W.cell? ((⟨gh, 0, none⟩ : Addr).add j) = some u := fun W h => pts_news (pts_take (pts_up S2 h) k)
                  have FD : ∀ W : World, Up wr W → ∀ j u, (cellsPl (H.drop (k + 1)))[j]? = some u → W.cell? ((⟨gh, (k + 1) * 2, none⟩ : Addr).add j) = some u := fun W h => by
                    have q := pts_drop (pts_up S2 h) (k + 1)
                    rw [Nat.zero_add] at q
                    exact pts_news q
                  have LT : (cellsPl (H.take k)).length = k * 2 := by rw [cellsPl_length, List.length_take, unhide HN]; omega
                  have LD : (cellsPl (H.drop (k + 1))).length = (n - (k + 1)) * 2 := by rw [cellsPl_length, List.length_drop, unhide HN]
                  have O1 := one_cells (H.take k)
                  have O2 := one_cells (H.drop (k + 1))
                  have HRr : ∀ (v : Value) (c : Nat) (W : World), W.ownsRow wr.heap.size 24 2 v c (([] ++ cellsPl (H.take k)) ++ cellsPl (H.drop (k + 1))) → Calls Try.prog 9 #[v] W fun e w' => ∃ gg cg, e = .returned (.tuple #[.slice (some ⟨gg, 0, none⟩) (Gx.hullF (rest H k)).length cg, .int .i64 0]) ∧ (Gx.hullF (rest H k)).length ≤ cg ∧ cg ≤ 9223372036854775807 ∧ Pts w' (some ⟨gg, 0, none⟩) (Gx.hullF (rest H k)) ∧ Up W w' := fun v c W hown => by
                    have lk : k < H.length := by rw [unhide HN]; exact hlt
                    exact hull_own (by rw [rest_len lk, unhide HN]; omega) (by rw [rest_len lk, unhide HN]; omega) (okL_sub (fun r hr => rest_mem hr) (okL_sub (unhide HHO).mem (unhide HO))) (by unfold rest; rw [cellsPl_append, List.nil_append]) v W hown
                  have HFT := hide FT
                  have HFD := hide FD
                  have HO1 := hide O1
                  have HO2 := hide O2
                  have HHR := hide HRr
                  have HLT := hide LT
                  have HLD := hide LD
                  obtain ⟨i0', hi, hz0, hz1, hz2⟩ := info_parts info_pt
                  have HI := hide hi
                  obtain ⟨TK, hTK⟩ : ∃ x, cellsPl (H.take k) = x := ⟨_, rfl⟩
                  obtain ⟨DR, hDR⟩ : ∃ x, cellsPl (H.drop (k + 1)) = x := ⟨_, rfl⟩
                  obtain ⟨G, hG⟩ : ∃ x, Gx.hullF (rest H k) = x := ⟨_, rfl⟩
                  rw [hTK] at HFT HO1 HHR HLT
                  rw [hDR] at HFD HO2 HHR HLD
                  rw [hG] at HHR
                  have HGe := hide hG
                  clear S2 FT FD LT LD O1 O2 HRr hi hTK hDR hG ii0 ii1
                  by_cases he : ch = k + 1
                  · have D0 : DR = [] := List.eq_nil_of_length_eq_zero (by rw [unhide HLD]; omega)
                    subst he
                    have o8 : (k : Int) ≤ (k : Int) + 1 := by omega
                    have HFE := hide (show ∀ W : World, ∀ j u, DR[j]? = some u → W.cell? ((⟨gh, 0, none⟩ : Addr).add j) = some u from fun W j u h => by rw [D0] at h; simp at h)
                    have HD0 := hide D0
                    clear D0
                    go_region_law (first
                      | (refine step_append_mine _ rfl (.tmp 172) (.tmp 175) 22 rfl wr.heap.size 24 i0' _ 2 16 Try.underlying22 (unhide HI) hz0 hz1 hz2 rfl (Nat.zero_lt_succ _) _ 0 [] rfl (own_emptyD wr 24 wr.heap.size (Nat.le_refl _)) ⟨gh, 0, none⟩ _ _ TK rfl (unhide HLT) (unhide HFT _ (by repeat' (first | (with_reducible exact up_refl _) | (with_reducible assumption) | (with_reducible refine up_alloc ?_ _) | (with_reducible refine up_drewN ?_ _) | (with_reducible refine up_drew ?_) | (with_reducible refine up_set ?_ (by first | (simp; done) | (simp; omega) | omega) _) | (refine up_trans ?_ (by with_reducible assumption))))) (unhide HO1) (by unfold maxLen; omega) (by omega) (by simp) ?_; intro v' w5 hown' hgrow; have hU5 : Up wr w5 := own_grow (own_emptyD wr 24 wr.heap.size (Nat.le_refl _)) (Nat.le_refl _) (show Up wr _ from (by repeat' (first | (with_reducible exact up_refl _) | (with_reducible assumption) | (with_reducible refine up_alloc ?_ _) | (with_reducible refine up_drewN ?_ _) | (with_reducible refine up_drew ?_) | (with_reducible refine up_set ?_ (by first | (simp; done) | (simp; omega) | omega) _) | (refine up_trans ?_ (by with_reducible assumption))))) hgrow)
                      | (refine step_append_mine _ rfl (.tmp 176) (.tmp 180) 22 rfl wr.heap.size 24 i0' _ 2 16 Try.underlying22 (unhide HI) hz0 hz1 hz2 rfl (Nat.zero_lt_succ _) _ (0 + k) ([] ++ TK) rfl hown' _ _ _ DR rfl (by rw [unhide HD0]; first | (simp; done) | (simp; omega) | omega) (unhide HFE _) (unhide HO2) (by unfold maxLen; omega) (by omega) hU5.size ?_; intro v'' w6 hown'' hgrow'; have hU6 : Up wr w6 := own_grow hown' (Nat.le_refl _) hU5 hgrow')
                      | (go_simp; go_at_call 9; refine (unhide HHR _ _ _ hown'').mono ?_; rintro e w7 ⟨gg, cg, rfl, hc1, hc2, hp7, hb7⟩; dsimp only))
                    all_goals go_wp2_with fail
                    all_goals go_meet
                    all_goals rw [unhide HGe]
                    all_goals exact ⟨gg, cg, rfl, rfl, hc1, hc2, hp7, up_trans hU6 hb7⟩
                  · have n61 : ¬ k + 1 = ch := fun e => he e.symm
                    have n62 : ¬ ch - (k + 1) = 0 := by omega
                    have n63 : ¬ (ch : Int) = (k : Int) + 1 := by omega
                    have n64 : ¬ (ch : Int) - ((k : Int) + 1) = 0 := by omega
                    have n65 : ¬ ch ≤ k + 1 := by omega
                    go_region_law (first
                      | (refine step_append_mine _ rfl (.tmp 172) (.tmp 175) 22 rfl wr.heap.size 24 i0' _ 2 16 Try.underlying22 (unhide HI) hz0 hz1 hz2 rfl (Nat.zero_lt_succ _) _ 0 [] rfl (own_emptyD wr 24 wr.heap.size (Nat.le_refl _)) ⟨gh, 0, none⟩ k ch TK rfl (unhide HLT) (unhide HFT _ (by repeat' (first | (with_reducible exact up_refl _) | (with_reducible assumption) | (with_reducible refine up_alloc ?_ _) | (with_reducible refine up_drewN ?_ _) | (with_reducible refine up_drew ?_) | (with_reducible refine up_set ?_ (by first | (simp; done) | (simp; omega) | omega) _) | (refine up_trans ?_ (by with_reducible assumption))))) (unhide HO1) (by unfold maxLen; omega) (by omega) (by simp) ?_; intro v' w5 hown' hgrow; have hU5 : Up wr w5 := own_grow (own_emptyD wr 24 wr.heap.size (Nat.le_refl _)) (Nat.le_refl _) (show Up wr _ from (by repeat' (first | (with_reducible exact up_refl _) | (with_reducible assumption) | (with_reducible refine up_alloc ?_ _) | (with_reducible refine up_drewN ?_ _) | (with_reducible refine up_drew ?_) | (with_reducible refine up_set ?_ (by first | (simp; done) | (simp; omega) | omega) _) | (refine up_trans ?_ (by with_reducible assumption))))) hgrow)
                      | (refine step_append_mine _ rfl (.tmp 176) (.tmp 180) 22 rfl wr.heap.size 24 i0' _ 2 16 Try.underlying22 (unhide HI) hz0 hz1 hz2 rfl (Nat.zero_lt_succ _) _ (0 + k) ([] ++ TK) rfl hown' _ _ _ DR rfl (unhide HLD) (unhide HFD _ hU5) (unhide HO2) (by unfold maxLen; omega) (by omega) hU5.size ?_; intro v'' w6 hown'' hgrow'; have hU6 : Up wr w6 := own_grow hown' (Nat.le_refl _) hU5 hgrow')
                      | (go_simp; go_at_call 9; refine (unhide HHR _ _ _ hown'').mono ?_; rintro e w7 ⟨gg, cg, rfl, hc1, hc2, hp7, hb7⟩; dsimp only))
                    all_goals go_wp2_with fail
                    all_goals go_meet
                    all_goals rw [unhide HGe]
                    all_goals exact ⟨gg, cg, rfl, rfl, hc1, hc2, hp7, up_trans hU6 hb7⟩
                case rest =>
                  obtain ⟨gg, cg, rfl, rfl, hcg, hcg2, hG, hv⟩ := hcut
                  have lk : k < H.length := by rw [unhide HN]; exact hlt
                  have PIN : ∀ W : World, Pts W (some ⟨gg, 0, none⟩) (Gx.hullF (rest H k)) → Calls Try.prog 14 #[.slice (some ⟨gg, 0, none⟩) (Gx.hullF (rest H k)).length cg, pt p1 p2] W fun e w' => e = .returned (.tuple #[.bool false, .int .i64 0]) ∧ Up W w' := fun W hW => by
                    have q := in_no (unhide HHO) (unhide HO) (by rw [unhide HN]; omega) (by rw [unhide HN]; exact hn1) lk hcg hcg2 W hW
                    rw [unhide HPK] at q
                    exact q
                  have HPIN := hide PIN
                  have HG := hide hG
                  have e0 := up_cell hv ii0
                  have e1 := up_cell hv ii1
                  obtain ⟨G, hGe⟩ : ∃ x, Gx.hullF (rest H k) = x := ⟨_, rfl⟩
                  rw [hGe] at HPIN HG ⊢
                  clear PIN hG ii0 ii1 lk hcg hGe
                  go_wp2_with (first | (go_at_call 14; (with_reducible refine (unhide HPIN _ (unhide HG)).mono ?_); rintro e w9 ⟨rfl, hb9⟩))
                  first
                    | exact ⟨⟨k + 1, by omega, by go_num, up_trans (up_trans hu4 hv) hb9⟩, by simp [intOf]; omega⟩
                    | (go_roundw; (case rel => exact ⟨k + 1, by omega, by go_num, up_trans (up_trans hu4 hv) hb9⟩); (case measure => simp [intOf]; omega))
              · have o1 : decide (1 < n) = false := decide_eq_false hn1
                have o2 : ¬ (1 : Int) < (n : Int) := by omega
                go_wp2_with fail
                first
                  | exact ⟨⟨k + 1, by omega, by go_num, hu4⟩, by simp [intOf]; omega⟩
                  | (go_roundw; (case rel => exact ⟨k + 1, by omega, by go_num, hu4⟩); (case measure => simp [intOf]; omega))
    · as_aux_lemma =>
      have hkn : n = k := by omega
      subst hkn
      have P1 := pts_up (unhide R1) hu
      have P2 := hide (pts_up (unhide R2) hu)
      obtain ⟨a, ha, hat⟩ : ∃ a : Nat, a < m ∧ from'.tmod (m : Int) = (a : Int) := ⟨(from'.tmod m).toNat, by
        have h1 := Int.tmod_lt_of_pos from' (b := (m : Int)) (by omega)
        have h2 := Int.tmod_nonneg (m : Int) a1
        omega, by
        have h2 := Int.tmod_nonneg (m : Int) a1
        omega⟩
      have wf : IntKind.i64.wrap from' = from' := IntWalk.i64_in _ ⟨by omega, by omega⟩
      have FT : ∀ W : World, Up wr W → ∀ j u, (cellsPl qs)[j]? = some u → W.cell? ((⟨gp, 0, none⟩ : Addr).add j) = some u := fun W h => pts_news (pts_up P1 h)
      have FD : ∀ W : World, Up wr W → ∀ j u, (cellsPl (qs.drop a))[j]? = some u → W.cell? ((⟨gp, a * 2, none⟩ : Addr).add j) = some u := fun W h => by
        have q := pts_drop (pts_up P1 h) a
        rw [Nat.zero_add] at q
        exact pts_news q
      have LT : (cellsPl qs).length = m * 2 := by rw [cellsPl_length, unhide HM]
      have LD : (cellsPl (qs.drop a)).length = (m - a) * 2 := by rw [cellsPl_length, List.length_drop, unhide HM]
      have O1 := one_cells qs
      have O2 := one_cells (qs.drop a)
      have HRr : ∀ (v : Value) (c : Nat) (W : World), W.ownsRow wr.heap.size 24 2 v c (([] ++ cellsPl (qs.drop a)) ++ cellsPl qs) → Calls Try.prog 9 #[v] W fun e w' => ∃ gg cg, e = .returned (.tuple #[.slice (some ⟨gg, 0, none⟩) n cg, .int .i64 0]) ∧ Pts w' (some ⟨gg, 0, none⟩) H ∧ Up W w' := fun v c W hown => by
        have q := hull_own (ps := qs.drop a ++ qs) (by rw [List.length_append, unhide HM]; omega) (by rw [List.length_append, List.length_drop, unhide HM]; omega) (okL_sub (fun r hr => (List.mem_append.1 hr).elim List.mem_of_mem_drop id) (unhide HO)) (by rw [cellsPl_append, List.nil_append]) v W hown
        have e : Gx.hullF (qs.drop a ++ qs) = H := by
          rw [← unhide HHE]
          exact Gx.hullF_same fun q => ⟨fun h => (List.mem_append.1 h).elim List.mem_of_mem_drop id, fun h => List.mem_append.2 (.inr h)⟩
        rw [e, unhide HN] at q
        exact q.mono fun e w' ⟨gg, cg, h1, _, _, h2, h3⟩ => ⟨gg, cg, h1, h2, h3⟩
      have PS : ∀ gg cg (W : World), Pts W (some ⟨gg, 0, none⟩) H → Pts W (some ⟨gh, 0, none⟩) H → Calls Try.prog 11 #[.slice (some ⟨gg, 0, none⟩) n cg, .slice (some ⟨gh, 0, none⟩) n ch] W fun e w' => e = .returned (.bool true) ∧ Up W w' := fun gg cg W h1 h2 => by
        have q := r_Same (some ⟨gg, 0, none⟩) (some ⟨gh, 0, none⟩) H H cg ch W h1 h2 (by rw [unhide HN]; omega)
        rw [unhide HN] at q
        exact q.mono fun e w' ⟨h1, h2⟩ => ⟨by rw [h1]; simp, h2⟩
      have HFT := hide FT
      have HFD := hide FD
      have HO1 := hide O1
      have HO2 := hide O2
      have HHR := hide HRr
      have HPS := hide PS
      have HLT := hide LT
      have HLD := hide LD
      obtain ⟨i0', hi, hz0, hz1, hz2⟩ := info_parts info_pt
      have HI := hide hi
      obtain ⟨TK, hTK⟩ : ∃ x, cellsPl qs = x := ⟨_, rfl⟩
      obtain ⟨DR, hDR⟩ : ∃ x, cellsPl (qs.drop a) = x := ⟨_, rfl⟩
      rw [hTK] at HFT HO1 HHR HLT
      rw [hDR] at HFD HO2 HHR HLD
      have o3 : (a : Int) ≤ (m : Int) := by omega
      have o5 : (m : Int) ≤ (cp : Int) := by omega
      have o6 : a ≤ m := by omega
      have n60 : ¬ cp = a := by omega
      have n61 : ¬ a = cp := by omega
      have n62 : ¬ cp - a = 0 := by omega
      have n65 : ¬ cp ≤ a := by omega
      clear P1 FT FD LT LD O1 O2 HRr PS hi hTK hDR hlt hk
      go_wp2_with (first
        | (at_builtin; refine wpList_append_own _ rfl (.tmp 206) (.tmp 209) 22 rfl wr.heap.size 24 i0' _ 2 16 Try.underlying22 (unhide HI) hz0 hz1 hz2 rfl (Nat.zero_lt_succ _) _ 0 [] rfl (own_empty wr 24 wr.heap.size (Nat.le_refl _)) _ _ _ DR rfl (unhide HLD) (unhide HFD _ (by repeat' (first | (with_reducible exact up_refl _) | (with_reducible assumption) | (with_reducible refine up_alloc ?_ _) | (with_reducible refine up_drewN ?_ _) | (with_reducible refine up_drew ?_) | (with_reducible refine up_set ?_ (by first | (simp; done) | (simp; omega) | omega) _) | (refine up_trans ?_ (by with_reducible assumption))))) (unhide HO2) (by unfold maxLen; omega) (by omega) (by simp) ?_; intro v' w5 hown' hgrow _; have hU5 : Up wr w5 := own_grow (own_empty wr 24 wr.heap.size (Nat.le_refl _)) (Nat.le_refl _) (show Up wr _ from (by repeat' (first | (with_reducible exact up_refl _) | (with_reducible assumption) | (with_reducible refine up_alloc ?_ _) | (with_reducible refine up_drewN ?_ _) | (with_reducible refine up_drew ?_) | (with_reducible refine up_set ?_ (by first | (simp; done) | (simp; omega) | omega) _) | (refine up_trans ?_ (by with_reducible assumption))))) hgrow)
        | (at_builtin; refine wpList_append_own _ rfl (.tmp 210) (.tmp 211) 22 rfl wr.heap.size 24 i0' _ 2 16 Try.underlying22 (unhide HI) hz0 hz1 hz2 rfl (Nat.zero_lt_succ _) _ (0 + (m - a)) ([] ++ DR) rfl hown' _ _ _ TK rfl (unhide HLT) (unhide HFT _ hU5) (unhide HO1) (by unfold maxLen; omega) (by omega) hU5.size ?_; intro v'' w6 hown'' hgrow' _; have hU6 : Up wr w6 := own_grow hown' (Nat.le_refl _) hU5 hgrow')
        | (go_at_call 9; (with_reducible refine (unhide HHR _ _ _ hown'').mono ?_); rintro e w7 ⟨gg, cg, rfl, hp7, hb7⟩; have HP7 := hide hp7; have HP8 := hide (pts_up (unhide P2) (up_trans hU6 hb7)); clear hp7)
        | (go_at_call 11; (with_reducible refine (unhide HPS _ _ _ (unhide HP7) (unhide HP8)).mono ?_); rintro e w8 ⟨rfl, hb8⟩)
        | (go_at_call 8; refine (l_works _).mono ?_; rintro e w9 ⟨rfl, hb9⟩))
      exact bodyPost_ret (v := .bool true) (by simp [results, Try.results5, go_sem]) rfl ⟨rfl, up_trans (up_trans (unhide RB) hu) (up_trans hU6 (up_trans hb7 (up_trans hb8 hb9)))⟩
/-- For all lists and numbers. -/
theorem l_Least (A : Option Addr) (ps : Pl) (cap : Nat) (from' : Int) (w : World) (h : Smalls w A ps) (hn : ps.length ≤ 9223372036854775807) (a1 : 0 ≤ from') (a2 : from' ≤ 255) :
    Calls Try.prog 5 #[.slice A ps.length cap, .int .u8 from'] w fun e w' => e = .returned (.bool true) ∧ Below w.heap.size w w' := by
  rcases Nat.eq_zero_or_pos (ps.take 10).length with h0 | h0
  · exact l_Least_none A ps cap from' w h hn h0
  · refine l_Least_some A ps cap from' w h hn _ rfl h0 (by rw [List.length_take]; omega) (fun p hp => ?_) a1 a2
    obtain ⟨k, hk, rfl⟩ := List.mem_iff_getElem.1 hp
    have hk2 := hk
    rw [List.length_take] at hk2
    rcases h with e | ⟨b, off, _, hc⟩
    · subst e; simp at hk
    · have q := hc k (by omega)
      rw [List.getElem_take]
      exact ⟨q.2.2.1, q.2.2.2⟩
end Go.Proofs.Ytihckoenfklhpaa
