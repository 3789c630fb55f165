/- What each axle of each unit carries: the document's. -/
import Derived.Test.YtgfehjhngmabeaaRefLev
namespace Go.Proofs.Ytgfehjhngmabeaa
open Go.RowKit Go.Proofs.Gn
theorem lever_ok {m L u : Int} (h1 : msE m = 0) (h2 : win L 1 16777216 = true) (h3 : win u 0 L = true) : leM m 0 L u = up m L (L - u) ∧ leN m 0 L u = up m L u := by
  have g1 := ms_ok h1
  have g2 := (win_iff _ _ _).1 h2
  have g3 := (win_iff _ _ _).1 h3
  have e : leE m 0 L u = 0 := by
    unfold leE plc
    rw [if_pos ((win_iff _ _ _).2 g1), if_pos (by simp only [Bool.and_eq_true, win_iff]; omega), if_neg (by omega), if_pos h3]
  unfold leM leN
  rw [e]
  simp
theorem caI_cases (f t : Nat) (m P Q : Int) (k : Nat) :
    ((((f : Int) == (t : Int)) = true ∧ ((k : Int) == (f : Int)) = true) ∧ caI f t m P Q k = m) ∨ ((((f : Int) == (t : Int)) = true ∧ ((k : Int) == (f : Int)) = false ∧ ((k : Int) == (t : Int)) = false) ∧ caI f t m P Q k = 0) ∨
    ((((f : Int) == (t : Int)) = false ∧ ((k : Int) == (f : Int)) = true) ∧ caI f t m P Q k = P) ∨ ((((f : Int) == (t : Int)) = false ∧ ((k : Int) == (f : Int)) = false ∧ ((k : Int) == (t : Int)) = true) ∧ caI f t m P Q k = Q) ∨
    ((((f : Int) == (t : Int)) = false ∧ ((k : Int) == (f : Int)) = false ∧ ((k : Int) == (t : Int)) = false) ∧ caI f t m P Q k = 0) := by
  unfold caI
  by_cases h1 : f = t
  · by_cases h2 : k = f
    · left; subst h1; subst h2; simp
    · right; left; subst h1; rw [if_pos rfl, if_neg h2]; simp; omega
  · by_cases h2 : k = f
    · right; right; left; subst h2; rw [if_neg h1, if_pos rfl]; simp; omega
    · by_cases h3 : k = t
      · right; right; right; left; subst h3; rw [if_neg h1, if_neg h2, if_pos rfl]; simp; omega
      · right; right; right; right; rw [if_neg h1, if_neg h2, if_neg h3]; simp; omega
set_option maxRecDepth 100000 in
set_option maxHeartbeats 40000000 in
theorem r_Axles (s : ByteArray) (A : Option Addr) (us : List Unt) (cap : Nat) (f t m L u : Int) (K : Nat) (hK : Fsn us.length (eaN us f.toNat t.toNat m (up m L (L - u)) (up m L u)) K) (w : World) (h : Unts w A us) (hn : us.length ≤ 9223372036854775807) :
    Calls Try.prog 22 #[veV s A us.length cap f t, .int .i64 m, .int .i64 L, .int .i64 u] w fun e w' => (∃ A' c', e = .returned (.tuple #[.slice A' (axLs (veE s us f t) us f.toNat t.toNat m L u K).length c', .int .i64 (axF (veE s us f t) m L u us.length K)]) ∧ Ints w' A' (axLs (veE s us f t) us f.toNat t.toNat m L u K)) ∧ Up w w' := by
  have HC := hide (fun W (hW : Up w W) => r_CheckV s A us cap f t W (unts_up h hW) hn)
  have HM := hide (fun W => r_mass m W)
  have HW1 := hide (fun W => r_winS L 1 16777216 W)
  have HW2 := hide (fun W => r_winS u 0 L W)
  have HLv := hide (fun W => r_Lever m 0 L u W)
  have HLo := hide (fun h1 h2 h3 => lever_ok (m := m) (L := L) (u := u) h1 h2 h3)
  have HV := hide (fun x : veE s us f t = 0 => ve_ok x)
  have HF : ∀ E0, veE s us f t = E0 → axF (veE s us f t) m L u us.length K = axF E0 m L u us.length K := fun E0 x => by rw [x]
  have HA := hide h
  clear h
  by_cases hE : veE s us f t = 0
  rotate_left
  · have hF : axF (veE s us f t) m L u us.length K = veE s us f t := by unfold axF; rw [if_neg hE]
    have hL := ax_len (us := us) (f := f.toNat) (t := t.toNat) (K := K) (show ¬ axF (veE s us f t) m L u us.length K = 0 by rw [hF]; exact hE)
    rw [hL, hF]
    clear hF hL HF HV hK HA HLv HLo
    generalize veE s us f t = E at *
    generalize us.length = n at *
    have ht : (E == 0) = false := by simp [hE]
    have HH := hide hE
    clear hE HM HW1 HW2
    go_enter Try.func22, Try.ntmps22
    go_upto_region 1 with fail
    refine at_wp (fun W0 hW0 => ?_)
    have U0 : Up w W0 := by rw [hW0]; exact (by repeat' (first | (with_reducible exact up_refl _) | (with_reducible assumption) | (with_reducible refine up_alloc ?_ _) | (with_reducible refine up_drewN ?_ _) | (with_reducible refine up_drew ?_) | (with_reducible refine up_set ?_ (by first | (simp; done) | (simp; omega) | omega) _) | (refine up_trans ?_ (by with_reducible assumption))))
    have B0 : Bx W0 w.heap.size [.string s, .slice A n cap, .int .i64 f, .int .i64 t] := by rw [hW0]; exact bx_new w _ 43
    clear hW0
    have c0 := (B0 0 _ rfl).1
    have c1 := (B0 1 _ rfl).1
    have c2 := (B0 2 _ rfl).1
    have c3 := (B0 3 _ rfl).1
    go_wp2_with (first | (go_at_call 55; (with_reducible refine (unhide HC _ (by first | exact U1 | exact U0)).mono ?_); rintro e w1 ⟨rfl, hb1⟩; first | (have U2 := up_trans U1 hb1) | (have U1 := up_trans U0 hb1; have B1 := bx_up B0 hb1; have e0 := (B1 0 _ rfl).1; have e1 := (B1 1 _ rfl).1; have e2 := (B1 2 _ rfl).1; have e3 := (B1 3 _ rfl).1)))
    go_ret2
    exact ⟨⟨none, 0, rfl, .inl rfl⟩, U2⟩
  have hV := unhide HV hE
  rw [hE] at HC
  by_cases hM : msE m = 0
  rotate_left
  · have hF : axF (veE s us f t) m L u us.length K = 3 := by unfold axF; rw [if_pos hE, if_neg hM]
    have hL := ax_len (us := us) (f := f.toNat) (t := t.toNat) (K := K) (show ¬ axF (veE s us f t) m L u us.length K = 0 by rw [hF]; decide)
    rw [hL, hF]
    clear hF hL HF HV hK HA HLv HLo
    rw [ms_no hM] at HM
    generalize us.length = n at *
    clear hM HW1 HW2 hV
    go_enter Try.func22, Try.ntmps22
    go_upto_region 1 with fail
    refine at_wp (fun W0 hW0 => ?_)
    have U0 : Up w W0 := by rw [hW0]; exact (by repeat' (first | (with_reducible exact up_refl _) | (with_reducible assumption) | (with_reducible refine up_alloc ?_ _) | (with_reducible refine up_drewN ?_ _) | (with_reducible refine up_drew ?_) | (with_reducible refine up_set ?_ (by first | (simp; done) | (simp; omega) | omega) _) | (refine up_trans ?_ (by with_reducible assumption))))
    have B0 : Bx W0 w.heap.size [.string s, .slice A n cap, .int .i64 f, .int .i64 t] := by rw [hW0]; exact bx_new w _ 43
    clear hW0
    have c0 := (B0 0 _ rfl).1
    have c1 := (B0 1 _ rfl).1
    have c2 := (B0 2 _ rfl).1
    have c3 := (B0 3 _ rfl).1
    go_wp2_with (first | (go_at_call 55; (with_reducible refine (unhide HC _ U0).mono ?_); rintro e w1 ⟨rfl, hb1⟩; have U1 := up_trans U0 hb1; have B1 := bx_up B0 hb1; have e0 := (B1 0 _ rfl).1; have e1 := (B1 1 _ rfl).1; have e2 := (B1 2 _ rfl).1; have e3 := (B1 3 _ rfl).1) | (go_at_call 49; (with_reducible refine (unhide HM _).mono ?_); rintro e v1 ⟨rfl, rfl⟩))
    go_ret2
    exact ⟨⟨none, 0, rfl, .inl rfl⟩, U1⟩
  rw [hM] at HM
  have hm := ms_ok hM
  cases hW1 : win L 1 16777216
  · rw [hW1] at HW1
    have hF : axF (veE s us f t) m L u us.length K = 3 := by unfold axF; rw [if_pos hE, if_pos hM, if_neg (by rw [hW1]; simp)]
    have hL := ax_len (us := us) (f := f.toNat) (t := t.toNat) (K := K) (show ¬ axF (veE s us f t) m L u us.length K = 0 by rw [hF]; decide)
    rw [hL, hF]
    clear hF hL HF HV hK HA HLv HLo
    generalize us.length = n at *
    clear hM HW2 hV hW1 hm
    go_enter Try.func22, Try.ntmps22
    go_upto_region 1 with fail
    refine at_wp (fun W0 hW0 => ?_)
    have U0 : Up w W0 := by rw [hW0]; exact (by repeat' (first | (with_reducible exact up_refl _) | (with_reducible assumption) | (with_reducible refine up_alloc ?_ _) | (with_reducible refine up_drewN ?_ _) | (with_reducible refine up_drew ?_) | (with_reducible refine up_set ?_ (by first | (simp; done) | (simp; omega) | omega) _) | (refine up_trans ?_ (by with_reducible assumption))))
    have B0 : Bx W0 w.heap.size [.string s, .slice A n cap, .int .i64 f, .int .i64 t] := by rw [hW0]; exact bx_new w _ 43
    clear hW0
    have c0 := (B0 0 _ rfl).1
    have c1 := (B0 1 _ rfl).1
    have c2 := (B0 2 _ rfl).1
    have c3 := (B0 3 _ rfl).1
    go_wp2_with (first | (go_at_call 55; (with_reducible refine (unhide HC _ U0).mono ?_); rintro e w1 ⟨rfl, hb1⟩; have U1 := up_trans U0 hb1; have B1 := bx_up B0 hb1; have e0 := (B1 0 _ rfl).1; have e1 := (B1 1 _ rfl).1; have e2 := (B1 2 _ rfl).1; have e3 := (B1 3 _ rfl).1) | (go_at_call 49; (with_reducible refine (unhide HM _).mono ?_); rintro e v1 ⟨rfl, rfl⟩) | (go_at_call 50; (with_reducible refine (unhide HW1 _).mono ?_); rintro e v2 ⟨rfl, rfl⟩))
    go_ret2
    exact ⟨⟨none, 0, rfl, .inl rfl⟩, U1⟩
  rw [hW1] at HW1
  have hL1 := (win_iff _ _ _).1 hW1
  cases hW2 : win u 0 L
  · rw [hW2] at HW2
    have hF : axF (veE s us f t) m L u us.length K = 19 := by unfold axF; rw [if_pos hE, if_pos hM, if_pos hW1, if_neg (by rw [hW2]; simp)]
    have hL := ax_len (us := us) (f := f.toNat) (t := t.toNat) (K := K) (show ¬ axF (veE s us f t) m L u us.length K = 0 by rw [hF]; decide)
    rw [hL, hF]
    clear hF hL HF HV hK HA HLv HLo
    generalize us.length = n at *
    clear hM hV hW1 hW2 hm hL1
    go_enter Try.func22, Try.ntmps22
    go_upto_region 1 with fail
    refine at_wp (fun W0 hW0 => ?_)
    have U0 : Up w W0 := by rw [hW0]; exact (by repeat' (first | (with_reducible exact up_refl _) | (with_reducible assumption) | (with_reducible refine up_alloc ?_ _) | (with_reducible refine up_drewN ?_ _) | (with_reducible refine up_drew ?_) | (with_reducible refine up_set ?_ (by first | (simp; done) | (simp; omega) | omega) _) | (refine up_trans ?_ (by with_reducible assumption))))
    have B0 : Bx W0 w.heap.size [.string s, .slice A n cap, .int .i64 f, .int .i64 t] := by rw [hW0]; exact bx_new w _ 43
    clear hW0
    have c0 := (B0 0 _ rfl).1
    have c1 := (B0 1 _ rfl).1
    have c2 := (B0 2 _ rfl).1
    have c3 := (B0 3 _ rfl).1
    go_wp2_with (first | (go_at_call 55; (with_reducible refine (unhide HC _ U0).mono ?_); rintro e w1 ⟨rfl, hb1⟩; have U1 := up_trans U0 hb1; have B1 := bx_up B0 hb1; have e0 := (B1 0 _ rfl).1; have e1 := (B1 1 _ rfl).1; have e2 := (B1 2 _ rfl).1; have e3 := (B1 3 _ rfl).1) | (go_at_call 49; (with_reducible refine (unhide HM _).mono ?_); rintro e v1 ⟨rfl, rfl⟩) | (go_at_call 50; (with_reducible refine (unhide HW1 _).mono ?_); rintro e v2 ⟨rfl, rfl⟩) | (go_at_call 50; (with_reducible refine (unhide HW2 _).mono ?_); rintro e v3 ⟨rfl, rfl⟩))
    go_ret2
    exact ⟨⟨none, 0, rfl, .inl rfl⟩, U1⟩
  rw [hW2] at HW2
  have hu1 := (win_iff _ _ _).1 hW2
  obtain ⟨n12, hall, hbig, f0, ft, tn⟩ := hV
  obtain ⟨lo1, lo2⟩ := unhide HLo hM hW1 hW2
  rw [lo1, lo2] at HLv
  have E3 := hide (⟨fun x : K < us.length => by unfold axF; rw [if_pos hE, if_pos hM, if_pos hW1, if_pos hW2, if_pos x], fun x : ¬ K < us.length => by unfold axF; rw [if_pos hE, if_pos hM, if_pos hW1, if_pos hW2, if_neg x]⟩ : (K < us.length → axF (veE s us f t) m L u us.length K = 14) ∧ (¬ K < us.length → axF (veE s us f t) m L u us.length K = 0))
  have E4 := hide (⟨fun x => ax_len x, fun x => by unfold axLs; rw [if_pos x]⟩ : (¬ axF (veE s us f t) m L u us.length K = 0 → axLs (veE s us f t) us f.toNat t.toNat m L u K = []) ∧ (axF (veE s us f t) m L u us.length K = 0 → axLs (veE s us f t) us f.toNat t.toNat m L u K = axR us f.toNat t.toNat m (up m L (L - u)) (up m L u) us.length))
  clear HF HV hE hM hW1 hW2 HLo lo1 lo2
  generalize axF (veE s us f t) m L u us.length K = F at *
  generalize axLs (veE s us f t) us f.toNat t.toNat m L u K = Ls at *
  generalize leE m 0 L u = LE at *
  obtain ⟨fn, rfl⟩ : ∃ fn : Nat, f = (fn : Int) := ⟨f.toNat, by omega⟩
  obtain ⟨tn', rfl⟩ : ∃ tn : Nat, t = (tn : Int) := ⟨t.toNat, by omega⟩
  simp only [Int.toNat_natCast] at *
  have hP := up_bd0 (n := m) (d := L) (t := L - u) (by omega) (by omega) (by omega)
  have hQ := up_bd0 (n := m) (d := L) (t := u) (by omega) (by omega) (by omega)
  generalize up m L (L - u) = P at *
  generalize up m L u = Q at *
  have HU := hide (⟨fun k (hk : k < us.length) => okU_get hall hk, fun k (hk : k < us.length) => big_get hbig hk⟩ : (∀ k (hk : k < us.length), _) ∧ (∀ k (hk : k < us.length), _))
  have HCa := hide (fun k => caI_bd (f := fn) (t := tn') hm hP hQ k)
  have HCc := hide (fun k => caI_cases fn tn' m P Q k)
  have HK := hide hK
  have hK1 := hK.1
  clear hK hall hbig hP hQ hL1 hu1 hm f0 ft
  obtain ⟨i0', hi, hz0, hz1, hz2⟩ := info_parts info_i64I
  have HI := hide hi
  clear hi
  obtain ⟨n, hN⟩ : ∃ n, us.length = n := ⟨_, rfl⟩
  have HN := hide hN
  rw [hN] at HC HK hK1 E3 E4 n12 tn ⊢
  clear hN hn
  go_enter Try.func22, Try.ntmps22
  go_upto_region 1 with fail
  refine at_wp (fun W0 hW0 => ?_)
  have U0 : Up w W0 := by rw [hW0]; exact (by repeat' (first | (with_reducible exact up_refl _) | (with_reducible assumption) | (with_reducible refine up_alloc ?_ _) | (with_reducible refine up_drewN ?_ _) | (with_reducible refine up_drew ?_) | (with_reducible refine up_set ?_ (by first | (simp; done) | (simp; omega) | omega) _) | (refine up_trans ?_ (by with_reducible assumption))))
  have B0 : Bx W0 w.heap.size [.string s, .slice A n cap, .int .i64 (fn : Nat), .int .i64 (tn' : Nat)] := by rw [hW0]; exact bx_new w _ 43
  clear hW0
  have c0 := (B0 0 _ rfl).1
  have c1 := (B0 1 _ rfl).1
  have c2 := (B0 2 _ rfl).1
  have c3 := (B0 3 _ rfl).1
  go_wp2_with (first | (go_at_call 55; (with_reducible refine (unhide HC _ U0).mono ?_); rintro e w1 ⟨rfl, hb1⟩; have U1 := up_trans U0 hb1; have B1 := bx_up B0 hb1; have e0 := (B1 0 _ rfl).1; have e1 := (B1 1 _ rfl).1; have e2 := (B1 2 _ rfl).1; have e3 := (B1 3 _ rfl).1) | (go_at_call 49; (with_reducible refine (unhide HM _).mono ?_); rintro e v1 ⟨rfl, rfl⟩) | (go_at_call 50; (with_reducible refine (unhide HW1 _).mono ?_); rintro e v2 ⟨rfl, rfl⟩) | (go_at_call 50; (with_reducible refine (unhide HW2 _).mono ?_); rintro e v3 ⟨rfl, rfl⟩) | (go_at_call 20; (with_reducible refine (unhide HLv _).mono ?_); rintro e w2 ⟨rfl, hb2⟩))
  have U2 := up_trans U1 hb2
  have B2 := bx_up B1 hb2
  clear HC HM HW1 HW2 HLv hb1 hb2 c0 c1 c2 c3 e0 e1 e2 e3 B0 B1 U0 U1 tn
  obtain ⟨wo, hwo⟩ : ∃ wo, wo = w2 := ⟨_, rfl⟩
  rw [← hwo] at U2 B2 ⊢
  clear hwo
  go_loopw [13, 14] (fun s13 s14 wr => ∃ k : Nat, k ≤ K ∧ s14 = .int .i64 k ∧ wr.ownsRow wo.heap.size 2 1 s13 k (cellsI (axR us fn tn' m P Q k)) ∧ Up wo wr) (fun _ s14 _ => n - (intOf s14).toNat)
  case atStart => exact ⟨0, by omega, rfl, World.ownsRow_nil _ _ _ _, up_refl _⟩
  case round =>
    obtain ⟨k, hk, rfl, hown, hu⟩ := hrel
    have HO := hide hown
    clear hown
    have hu2 := up_trans U2 hu
    have B3 := bx_up B2 hu
    have c1 := (B3 1 _ rfl).1
    by_cases hlt : k < n
    · have hl : k < us.length := by rw [unhide HN]; exact hlt
      rcases unts_up (unhide HA) hu2 with hnil | ⟨b, off, rfl, hc⟩
      · rw [hnil] at hl; simp at hl
      obtain ⟨d0, d1, d2, d3, d4, d5, d6, d7, d8, d9, d10, hX, hXn⟩ := hc k hl
      clear hc d0 d1 d2 d3 d4 d5 d6 d8 d9
      have c2 := (B3 2 _ rfl).1
      have c3 := (B3 3 _ rfl).1
      have eV := eaV_at (us := us) (f := fn) (t := tn') (m := m) (P := P) (Q := Q) hl
      have eN := eaN_at (us := us) (f := fn) (t := tn') (m := m) (P := P) (Q := Q) hl
      have ub := (unhide HU).1 k hl
      have xb := (unhide HU).2 k hl
      have cb := unhide HCa k
      have cc := unhide HCc k
      obtain ⟨xs, hxs⟩ : ∃ xs, us[k].xs = xs := ⟨_, rfl⟩
      rw [hxs] at d10 hX hXn eV eN ub xb
      generalize caI fn tn' m P Q k = ci at *
      obtain ⟨ma, hma⟩ : ∃ t, us[k].ma = t := ⟨_, rfl⟩
      rw [hma] at d7 eV ub
      obtain ⟨XA, hXA⟩ : ∃ t, us[k].A = t := ⟨_, rfl⟩
      obtain ⟨xc, hxc⟩ : ∃ t, us[k].cap = t := ⟨_, rfl⟩
      rw [hXA] at d10 hX
      rw [hxc] at d10
      clear hxs hXA hxc hma
      obtain ⟨xn, hxn⟩ : ∃ xn, xs.length = xn := ⟨_, rfl⟩
      rw [hxn] at d10 hXn eV ub xb
      have HXn := hide hxn
      have HX := hide hX
      clear hxn hX
      obtain ⟨⟨ub1, ub2⟩, ub3⟩ := ub
      obtain ⟨cb1, cb2⟩ := cb
      obtain ⟨ms, hms⟩ : ∃ ms, ma + ci = ms := ⟨_, rfl⟩
      have hw0 : IntKind.i64.wrap ms = ms := IntWalk.i64_in _ ⟨by omega, by omega⟩
      have HW0 := hide hw0
      clear hw0
      rw [hms] at eV
      have HUp := hide (fun W => r_Up ms 1 xn W (by omega) (by omega) (by omega) (by omega))
      obtain ⟨ev, hev⟩ : ∃ ev, up ms xn 1 = ev := ⟨_, rfl⟩
      rw [hev] at HUp eV
      have EV := hide eV
      have EN := hide (eN.trans (by rw [eV]))
      have hwk : IntKind.i64.wrap ((k : Int) + 1) = (k : Int) + 1 := IntWalk.i64_in _ ⟨by omega, by omega⟩
      clear eV eN hev ub1 ub2 cb1 cb2
      have hcc : ∃ h : Prop, h := ⟨True, trivial⟩
      clear hcc
      rcases cc with ⟨⟨h1, h2⟩, hc⟩ | ⟨⟨h1, h2, h3⟩, hc⟩ | ⟨⟨h1, h2⟩, hc⟩ | ⟨⟨h1, h2, h3⟩, hc⟩ | ⟨⟨h1, h2, h3⟩, hc⟩
      all_goals
        rw [hc] at hms
        first
          | (have hz : ms = ma := by omega
             subst hz
             clear hc hms)
          | (have hw1 := unhide HW0
             rw [← hms] at hw1
             conv at hw1 => rhs; rw [hms]
             clear hc hms)
        go_upto_region 20 with (go_at_call 51; (with_reducible refine (unhide HUp _).mono ?_); rintro e w6 ⟨rfl, rfl⟩)
        clear HUp
        go_wp2_with fail
        clear c2 c3 d7
        obtain ⟨wv, hwv⟩ : ∃ wv, wv = wr := ⟨_, rfl⟩
        have C1 := hide c1
        have D10 := hide d10
        clear c1 d10
        rw [← hwv] at HO hu hu2 HX B3 C1 D10 ⊢
        clear hwv
        go_loopw [17] (fun s17 wr => ∃ j : Nat, j ≤ xn ∧ s17 = .int .i64 j ∧ Up wv wr ∧ Hid (heX ev xs = heX ev (xs.drop j))) (fun s17 _ => xn - (intOf s17).toNat)
        case atStart => exact ⟨0, by omega, rfl, up_refl _, rfl⟩
        case round =>
          obtain ⟨j, hj, rfl, hv, ho⟩ := hrel
          have c1 := up_cell hv (unhide C1)
          have d10 := up_cell hv (unhide D10)
          by_cases hlt2 : j < xn
          · have hl2 : j < xs.length := by rw [unhide HXn]; exact hlt2
            rcases axls_up (unhide HX) hv with hnil | ⟨bx, offx, rfl, hcx⟩
            · rw [hnil] at hl2; simp at hl2
            obtain ⟨y0, y1, y2⟩ := hcx j hl2
            clear hcx y0 y2
            have HS := hide ((unhide ho).trans (heX_step hl2))
            have hwj : IntKind.i64.wrap ((j : Int) + 1) = (j : Int) + 1 := IntWalk.i64_in _ ⟨by omega, by omega⟩
            obtain ⟨lm, hlm⟩ : ∃ t, xs[j].lim = t := ⟨_, rfl⟩
            rw [hlm] at y1
            have HS2 := hide (⟨fun x : lm < ev => (by rw [unhide HS, hlm, decide_eq_true x]; rfl : heX ev xs = true), fun x : ¬ lm < ev => (by rw [unhide HS, hlm, decide_eq_false x]; rfl : heX ev xs = heX ev (xs.drop (j + 1)))⟩ : (lm < ev → _) ∧ (¬ lm < ev → _))
            clear ho HS hlm
            by_cases hb : lm < ev
            · have h1 := (unhide HS2).1 hb
              obtain rfl := fsn_stop (unhide HK) hk (by rw [unhide EN]; exact h1)
              have f1' := (unhide E3).1 hlt
              have f2' := (unhide E4).1 (by rw [f1']; decide)
              subst f1' f2'
              clear HS2 E3 E4 HK h1
              go_wp2_with fail
              go_ret2
              exact ⟨⟨none, 0, rfl, .inl rfl⟩, up_trans hu2 hv⟩
            · have h2 := hide ((unhide HS2).2 hb)
              have hd : decide (lm < ev) = false := decide_eq_false hb
              clear HS2
              go_wp2_with fail
              go_roundw
              case rel => exact ⟨j + 1, by omega, by first | rfl | trivial | go_num, hv, h2⟩
              case measure => simp [intOf]; omega
          · obtain rfl : j = xn := by omega
            have hfin : heX ev xs = false := by rw [unhide ho, List.drop_of_length_le (by rw [unhide HXn]; omega)]; rfl
            have hkK := fsn_go (unhide HK) hk hlt (by rw [unhide EN]; exact hfin)
            have HO7 := hide (own_upI (unhide HO) hv)
            have U7 := up_trans hu hv
            clear ho hfin HK E3 E4 HX hv HO EN
            go_wp2_with (at_builtin; refine wpList_append_own _ rfl _ _ 47 rfl wo.heap.size 2 i0' _ 1 8 Try.underlying47 (unhide HI) hz0 hz1 hz2 rfl (by decide) _ k (cellsI (axR us fn tn' m P Q k)) rfl ((unhide HO7).alloc _) ⟨wr.heap.size, 0, none⟩ 1 1 [.int .i64 ev] rfl rfl (one_newI _ _ _) (by intro u hu; simp at hu; rcases hu with rfl; rfl) (by unfold maxLen; omega) (by omega) (by have := U7.size; simp; omega) ?_; intro v' w8 hown' hgrow _)
            have R1 := own_grown (v' := v') (ys := []) (unhide HO7) (up_alloc U7 _) hgrow
            rw [← cellsI_snoc, ← unhide EV, ← axR_succ] at hown'
            have R2 := hide hown'
            clear hown' hgrow EV HO7 U7
            go_wp2_with fail
            go_roundw
            case rel => exact ⟨k + 1, by omega, by first | rfl | trivial | go_num, unhide R2, R1⟩
            case measure => simp [intOf]; omega
    · obtain rfl : k = n := by omega
      have hKe : K = k := by omega
      have f1' := (unhide E3).2 (by omega)
      have f2' := (unhide E4).2 f1'
      obtain ⟨A', c', hv', hI⟩ := own_ints (unhide HO)
      have hlen' := axR_len us fn tn' m P Q k
      rw [← f2'] at hI hv' hlen'
      clear f2' HO E3 E4 HK
      subst hv' f1'
      go_wp2_with fail
      go_ret2
      exact ⟨⟨A', c', rfl, hI⟩, hu2⟩
end Go.Proofs.Ytgfehjhngmabeaa
