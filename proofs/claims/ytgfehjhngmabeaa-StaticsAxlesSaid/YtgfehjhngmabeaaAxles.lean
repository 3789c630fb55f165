/- What each axle of each unit carries: the program's. -/
import Derived.Test.YtgfehjhngmabeaaOnU
namespace Go.Proofs.Ytgfehjhngmabeaa
open Go.RowKit Go.Proofs.Gn
def eaV (us : List Unt) (f t : Nat) (m P Q : Int) (k : Nat) : Int := match us[k]? with
  | some u => up (u.ma + caI f t m P Q k) u.xs.length 1
  | none => 0
def heX (e : Int) (xs : List Axl) : Bool := xs.any fun a => decide (a.lim < e)
def eaN (us : List Unt) (f t : Nat) (m P Q : Int) (k : Nat) : Bool := match us[k]? with
  | some u => heX (eaV us f t m P Q k) u.xs
  | none => false
theorem eaV_at {us : List Unt} {f t : Nat} {m P Q : Int} {k : Nat} (h : k < us.length) : eaV us f t m P Q k = up (us[k].ma + caI f t m P Q k) us[k].xs.length 1 := by
  unfold eaV; rw [List.getElem?_eq_getElem h]
theorem eaN_at {us : List Unt} {f t : Nat} {m P Q : Int} {k : Nat} (h : k < us.length) : eaN us f t m P Q k = heX (eaV us f t m P Q k) us[k].xs := by
  unfold eaN; rw [List.getElem?_eq_getElem h]
theorem heX_step {e : Int} {xs : List Axl} {j : Nat} (h : j < xs.length) : heX e (xs.drop j) = (decide (xs[j].lim < e) || heX e (xs.drop (j + 1))) := any_step h
def axR (us : List Unt) (f t : Nat) (m P Q : Int) (k : Nat) : List Int := (List.range k).map (eaV us f t m P Q)
theorem axR_succ (us : List Unt) (f t : Nat) (m P Q : Int) (k : Nat) : axR us f t m P Q (k + 1) = axR us f t m P Q k ++ [eaV us f t m P Q k] := by
  unfold axR; rw [List.range_succ, List.map_append]; rfl
theorem axR_len (us : List Unt) (f t : Nat) (m P Q : Int) (k : Nat) : (axR us f t m P Q k).length = k := by unfold axR; simp
/-- Which error there is, K being the first unit that is loaded too much. -/
def axF (E m L u : Int) (n K : Nat) : Int := if E = 0 then (if msE m = 0 then (if win L 1 16777216 then (if win u 0 L then (if K < n then 14 else 0) else 19) else 3) else 3) else E
def axLs (E : Int) (us : List Unt) (f t : Nat) (m L u : Int) (K : Nat) : List Int := if axF E m L u us.length K = 0 then axR us f t m (up m L (L - u)) (up m L u) us.length else []
theorem p_winS (n a b : Int) (w : World) : Calls Try.prog 47 #[.int .i64 n, .int .i64 a, .int .i64 b] w fun e w' => e = .returned (.bool (win n a b)) ∧ w = w' := p_within n a b w
theorem ve_ok {s : ByteArray} {us : List Unt} {f t : Int} (h : veE s us f t = 0) : us.length ≤ 12 ∧ us.all okU = true ∧ us.any bigU = false ∧ 0 ≤ f ∧ f ≤ t ∧ t < us.length := by
  unfold veE at h
  split at h
  · cases h
  · rename_i h1
    split at h
    · rename_i h2
      simp only [Bool.and_eq_true, win_iff, decide_eq_true_eq, auV] at h2
      unfold tmV at h1
      simp only [Bool.or_eq_true, not_or, decide_eq_true_eq, Bool.not_eq_true] at h1
      obtain ⟨_, ⟨a, _⟩, ⟨b, c⟩, d⟩ := h2
      exact ⟨by omega, a, h1.2, b, c, d⟩
    · cases h
theorem okU_get {us : List Unt} (h : us.all okU = true) {k : Nat} (hk : k < us.length) : (1 ≤ us[k].ma ∧ us[k].ma ≤ 1048576) ∧ 0 < us[k].xs.length := by
  have t := List.all_eq_true.1 h _ (List.getElem_mem hk)
  unfold okU axU at t
  simp only [Bool.and_eq_true, decide_eq_true_eq] at t
  exact ⟨(szU_bd t.1).2.2.2.2.2.2.2.1, t.2.2⟩
theorem big_get {us : List Unt} (h : us.any bigU = false) {k : Nat} (hk : k < us.length) : us[k].xs.length ≤ 24 := by
  rw [List.any_eq_false] at h
  have t := h _ (List.getElem_mem hk)
  unfold bigU at t
  simp only [decide_eq_true_eq] at t
  omega
theorem caI_bd {f t : Nat} {m P Q : Int} (hm : 1 ≤ m ∧ m ≤ 16777216) (hP : 0 ≤ P ∧ P ≤ m) (hQ : 0 ≤ Q ∧ Q ≤ m) (k : Nat) : 0 ≤ caI f t m P Q k ∧ caI f t m P Q k ≤ 16777216 := by
  unfold caI
  split <;> split <;> (try split) <;> omega
theorem ms_ok {m : Int} (h : msE m = 0) : 1 ≤ m ∧ m ≤ 16777216 := by
  unfold msE at h
  split at h
  · rename_i h1; exact (win_iff _ _ _).1 h1
  · cases h
theorem ms_no {m : Int} (h : ¬ msE m = 0) : msE m = 3 := by
  unfold msE at h ⊢
  split
  · rename_i h1; rw [if_pos h1] at h; exact absurd rfl h
  · rfl
theorem ax_len {E : Int} {us : List Unt} {f t : Nat} {m L u : Int} {K : Nat} (h : ¬ axF E m L u us.length K = 0) : axLs E us f t m L u K = [] := by unfold axLs; rw [if_neg h]
set_option maxRecDepth 100000 in
set_option maxHeartbeats 40000000 in
theorem p_Axles (s : ByteArray) (A : Option Addr) (us : List Unt) (cap : Nat) (f t m L u : Int) (K : Nat) (hK : Fsn us.length (eaN us f.toNat t.toNat m (up m L (L - u)) (up m L u)) K) (w : World) (h : Unts w A us) (hn : us.length ≤ 9223372036854775807) :
    Calls Try.prog 21 #[veV s A us.length cap f t, .int .i64 m, .int .i64 L, .int .i64 u] w fun e w' => (∃ A' c', e = .returned (.tuple #[.slice A' (axLs (veE s us f t) us f.toNat t.toNat m L u K).length c', .int .i64 (axF (veE s us f t) m L u us.length K)]) ∧ Ints w' A' (axLs (veE s us f t) us f.toNat t.toNat m L u K)) ∧ Up w w' := by
  have HC := hide (fun W (hW : Up w W) => p_CheckV s A us cap f t W (unts_up h hW) hn)
  have HM := hide (fun W => p_checkMass m W)
  have HW1 := hide (fun W => p_winS L 1 16777216 W)
  have HW2 := hide (fun W => p_winS u 0 L W)
  have HV := hide (fun x : veE s us f t = 0 => ve_ok x)
  have HF : ∀ E0, veE s us f t = E0 → axF (veE s us f t) m L u us.length K = axF E0 m L u us.length K := fun E0 x => by rw [x]
  have HA := hide h
  clear h
  by_cases hE : veE s us f t = 0
  rotate_left
  · have hF : axF (veE s us f t) m L u us.length K = veE s us f t := by unfold axF; rw [if_neg hE]
    have hL := ax_len (us := us) (f := f.toNat) (t := t.toNat) (K := K) (show ¬ axF (veE s us f t) m L u us.length K = 0 by rw [hF]; exact hE)
    rw [hL, hF]
    clear hF hL HF HV hK HA
    generalize veE s us f t = E at *
    generalize us.length = n at *
    have ht : (E == 0) = false := by simp [hE]
    have HH := hide hE
    clear hE HM HW1 HW2
    go_enter Try.func21, Try.ntmps21
    go_upto_region 1 with fail
    refine at_wp (fun W0 hW0 => ?_)
    have U0 : Up w W0 := by rw [hW0]; exact (by repeat' (first | (with_reducible exact up_refl _) | (with_reducible assumption) | (with_reducible refine up_alloc ?_ _) | (with_reducible refine up_drewN ?_ _) | (with_reducible refine up_drew ?_) | (with_reducible refine up_set ?_ (by first | (simp; done) | (simp; omega) | omega) _) | (refine up_trans ?_ (by with_reducible assumption))))
    have B0 : Bx W0 w.heap.size [.string s, .slice A n cap, .int .i64 f, .int .i64 t] := by rw [hW0]; exact bx_new w _ 43
    clear hW0
    have c0 := (B0 0 _ rfl).1
    have c1 := (B0 1 _ rfl).1
    have c2 := (B0 2 _ rfl).1
    have c3 := (B0 3 _ rfl).1
    go_wp2_with (first | (go_at_call 52; (with_reducible refine (unhide HC _ U0).mono ?_); rintro e w1 ⟨rfl, hb1⟩; have U1 := up_trans U0 hb1; have B1 := bx_up B0 hb1; have e0 := (B1 0 _ rfl).1; have e1 := (B1 1 _ rfl).1; have e2 := (B1 2 _ rfl).1; have e3 := (B1 3 _ rfl).1))
    go_ret2
    exact ⟨⟨none, 0, rfl, .inl rfl⟩, U1⟩
  have hV := unhide HV hE
  rw [hE] at HC
  by_cases hM : msE m = 0
  rotate_left
  · have hF : axF (veE s us f t) m L u us.length K = 3 := by unfold axF; rw [if_pos hE, if_neg hM]
    have hL := ax_len (us := us) (f := f.toNat) (t := t.toNat) (K := K) (show ¬ axF (veE s us f t) m L u us.length K = 0 by rw [hF]; decide)
    rw [hL, hF]
    clear hF hL HF HV hK HA
    rw [ms_no hM] at HM
    generalize us.length = n at *
    clear hM HW1 HW2 hV
    go_enter Try.func21, Try.ntmps21
    go_upto_region 1 with fail
    refine at_wp (fun W0 hW0 => ?_)
    have U0 : Up w W0 := by rw [hW0]; exact (by repeat' (first | (with_reducible exact up_refl _) | (with_reducible assumption) | (with_reducible refine up_alloc ?_ _) | (with_reducible refine up_drewN ?_ _) | (with_reducible refine up_drew ?_) | (with_reducible refine up_set ?_ (by first | (simp; done) | (simp; omega) | omega) _) | (refine up_trans ?_ (by with_reducible assumption))))
    have B0 : Bx W0 w.heap.size [.string s, .slice A n cap, .int .i64 f, .int .i64 t] := by rw [hW0]; exact bx_new w _ 43
    clear hW0
    have c0 := (B0 0 _ rfl).1
    have c1 := (B0 1 _ rfl).1
    have c2 := (B0 2 _ rfl).1
    have c3 := (B0 3 _ rfl).1
    go_wp2_with (first | (go_at_call 52; (with_reducible refine (unhide HC _ U0).mono ?_); rintro e w1 ⟨rfl, hb1⟩; have U1 := up_trans U0 hb1; have B1 := bx_up B0 hb1; have e0 := (B1 0 _ rfl).1; have e1 := (B1 1 _ rfl).1; have e2 := (B1 2 _ rfl).1; have e3 := (B1 3 _ rfl).1) | (go_at_call 46; (with_reducible refine (unhide HM _).mono ?_); rintro e v1 ⟨rfl, rfl⟩))
    go_ret2
    exact ⟨⟨none, 0, rfl, .inl rfl⟩, U1⟩
  rw [hM] at HM
  have hm := ms_ok hM
  cases hW1 : win L 1 16777216
  · rw [hW1] at HW1
    have hF : axF (veE s us f t) m L u us.length K = 3 := by unfold axF; rw [if_pos hE, if_pos hM, if_neg (by rw [hW1]; simp)]
    have hL := ax_len (us := us) (f := f.toNat) (t := t.toNat) (K := K) (show ¬ axF (veE s us f t) m L u us.length K = 0 by rw [hF]; decide)
    rw [hL, hF]
    clear hF hL HF HV hK HA
    generalize us.length = n at *
    clear hM HW2 hV hW1 hm
    go_enter Try.func21, Try.ntmps21
    go_upto_region 1 with fail
    refine at_wp (fun W0 hW0 => ?_)
    have U0 : Up w W0 := by rw [hW0]; exact (by repeat' (first | (with_reducible exact up_refl _) | (with_reducible assumption) | (with_reducible refine up_alloc ?_ _) | (with_reducible refine up_drewN ?_ _) | (with_reducible refine up_drew ?_) | (with_reducible refine up_set ?_ (by first | (simp; done) | (simp; omega) | omega) _) | (refine up_trans ?_ (by with_reducible assumption))))
    have B0 : Bx W0 w.heap.size [.string s, .slice A n cap, .int .i64 f, .int .i64 t] := by rw [hW0]; exact bx_new w _ 43
    clear hW0
    have c0 := (B0 0 _ rfl).1
    have c1 := (B0 1 _ rfl).1
    have c2 := (B0 2 _ rfl).1
    have c3 := (B0 3 _ rfl).1
    go_wp2_with (first | (go_at_call 52; (with_reducible refine (unhide HC _ U0).mono ?_); rintro e w1 ⟨rfl, hb1⟩; have U1 := up_trans U0 hb1; have B1 := bx_up B0 hb1; have e0 := (B1 0 _ rfl).1; have e1 := (B1 1 _ rfl).1; have e2 := (B1 2 _ rfl).1; have e3 := (B1 3 _ rfl).1) | (go_at_call 46; (with_reducible refine (unhide HM _).mono ?_); rintro e v1 ⟨rfl, rfl⟩) | (go_at_call 47; (with_reducible refine (unhide HW1 _).mono ?_); rintro e v2 ⟨rfl, rfl⟩))
    go_ret2
    exact ⟨⟨none, 0, rfl, .inl rfl⟩, U1⟩
  rw [hW1] at HW1
  have hL1 := (win_iff _ _ _).1 hW1
  cases hW2 : win u 0 L
  · rw [hW2] at HW2
    have hF : axF (veE s us f t) m L u us.length K = 19 := by unfold axF; rw [if_pos hE, if_pos hM, if_pos hW1, if_neg (by rw [hW2]; simp)]
    have hL := ax_len (us := us) (f := f.toNat) (t := t.toNat) (K := K) (show ¬ axF (veE s us f t) m L u us.length K = 0 by rw [hF]; decide)
    rw [hL, hF]
    clear hF hL HF HV hK HA
    generalize us.length = n at *
    clear hM hV hW1 hW2 hm hL1
    go_enter Try.func21, Try.ntmps21
    go_upto_region 1 with fail
    refine at_wp (fun W0 hW0 => ?_)
    have U0 : Up w W0 := by rw [hW0]; exact (by repeat' (first | (with_reducible exact up_refl _) | (with_reducible assumption) | (with_reducible refine up_alloc ?_ _) | (with_reducible refine up_drewN ?_ _) | (with_reducible refine up_drew ?_) | (with_reducible refine up_set ?_ (by first | (simp; done) | (simp; omega) | omega) _) | (refine up_trans ?_ (by with_reducible assumption))))
    have B0 : Bx W0 w.heap.size [.string s, .slice A n cap, .int .i64 f, .int .i64 t] := by rw [hW0]; exact bx_new w _ 43
    clear hW0
    have c0 := (B0 0 _ rfl).1
    have c1 := (B0 1 _ rfl).1
    have c2 := (B0 2 _ rfl).1
    have c3 := (B0 3 _ rfl).1
    go_wp2_with (first | (go_at_call 52; (with_reducible refine (unhide HC _ U0).mono ?_); rintro e w1 ⟨rfl, hb1⟩; have U1 := up_trans U0 hb1; have B1 := bx_up B0 hb1; have e0 := (B1 0 _ rfl).1; have e1 := (B1 1 _ rfl).1; have e2 := (B1 2 _ rfl).1; have e3 := (B1 3 _ rfl).1) | (go_at_call 46; (with_reducible refine (unhide HM _).mono ?_); rintro e v1 ⟨rfl, rfl⟩) | (go_at_call 47; (with_reducible refine (unhide HW1 _).mono ?_); rintro e v2 ⟨rfl, rfl⟩) | (go_at_call 47; (with_reducible refine (unhide HW2 _).mono ?_); rintro e v3 ⟨rfl, rfl⟩))
    go_ret2
    exact ⟨⟨none, 0, rfl, .inl rfl⟩, U1⟩
  rw [hW2] at HW2
  have hu1 := (win_iff _ _ _).1 hW2
  obtain ⟨n12, hall, hbig, f0, ft, tn⟩ := hV
  have E3 := hide (⟨fun x : K < us.length => by unfold axF; rw [if_pos hE, if_pos hM, if_pos hW1, if_pos hW2, if_pos x], fun x : ¬ K < us.length => by unfold axF; rw [if_pos hE, if_pos hM, if_pos hW1, if_pos hW2, if_neg x]⟩ : (K < us.length → axF (veE s us f t) m L u us.length K = 14) ∧ (¬ K < us.length → axF (veE s us f t) m L u us.length K = 0))
  have E4 := hide (⟨fun x => ax_len x, fun x => by unfold axLs; rw [if_pos x]⟩ : (¬ axF (veE s us f t) m L u us.length K = 0 → axLs (veE s us f t) us f.toNat t.toNat m L u K = []) ∧ (axF (veE s us f t) m L u us.length K = 0 → axLs (veE s us f t) us f.toNat t.toNat m L u K = axR us f.toNat t.toNat m (up m L (L - u)) (up m L u) us.length))
  clear HF HV hE hM hW1 hW2
  generalize axF (veE s us f t) m L u us.length K = F at *
  generalize axLs (veE s us f t) us f.toNat t.toNat m L u K = Ls at *
  obtain ⟨fn, rfl⟩ : ∃ fn : Nat, f = (fn : Int) := ⟨f.toNat, by omega⟩
  obtain ⟨tn', rfl⟩ : ∃ tn : Nat, t = (tn : Int) := ⟨t.toNat, by omega⟩
  simp only [Int.toNat_natCast] at *
  have HOn := hide (fun W => p_onUnits s A us.length cap fn tn' m L u W n12 (by omega) (by omega) hm hL1 hu1)
  have hP := up_bd0 (n := m) (d := L) (t := L - u) (by omega) (by omega) (by omega)
  have hQ := up_bd0 (n := m) (d := L) (t := u) (by omega) (by omega) (by omega)
  generalize up m L (L - u) = P at *
  generalize up m L u = Q at *
  have HU := hide (⟨fun k (hk : k < us.length) => okU_get hall hk, fun k (hk : k < us.length) => big_get hbig hk⟩ : (∀ k (hk : k < us.length), _) ∧ (∀ k (hk : k < us.length), _))
  have HCa := hide (fun k => caI_bd (f := fn) (t := tn') hm hP hQ k)
  have HK := hide hK
  have hK1 := hK.1
  have HG := hide (fun k (hk : k < us.length) => caL_get (n := us.length) (f := fn) (t := tn') (m := m) (P := P) (Q := Q) hk (by omega) (by omega))
  clear hK hall hbig hP hQ hL1 hu1 hm f0 ft
  obtain ⟨i0', hi, hz0, hz1, hz2⟩ := info_parts info_i64I
  have HI := hide hi
  clear hi
  obtain ⟨n, hN⟩ : ∃ n, us.length = n := ⟨_, rfl⟩
  have HN := hide hN
  rw [hN] at HC HOn HK hK1 E3 E4 HG n12 tn ⊢
  clear hN hn
  generalize caL n fn tn' m P Q = CL at *
  go_enter Try.func21, Try.ntmps21
  go_upto_region 1 with fail
  refine at_wp (fun W0 hW0 => ?_)
  have U0 : Up w W0 := by rw [hW0]; exact (by repeat' (first | (with_reducible exact up_refl _) | (with_reducible assumption) | (with_reducible refine up_alloc ?_ _) | (with_reducible refine up_drewN ?_ _) | (with_reducible refine up_drew ?_) | (with_reducible refine up_set ?_ (by first | (simp; done) | (simp; omega) | omega) _) | (refine up_trans ?_ (by with_reducible assumption))))
  have B0 : Bx W0 w.heap.size [.string s, .slice A n cap, .int .i64 (fn : Nat), .int .i64 (tn' : Nat)] := by rw [hW0]; exact bx_new w _ 43
  clear hW0
  have c0 := (B0 0 _ rfl).1
  have c1 := (B0 1 _ rfl).1
  have c2 := (B0 2 _ rfl).1
  have c3 := (B0 3 _ rfl).1
  go_wp2_with (first | (go_at_call 52; (with_reducible refine (unhide HC _ U0).mono ?_); rintro e w1 ⟨rfl, hb1⟩; have U1 := up_trans U0 hb1; have B1 := bx_up B0 hb1; have e0 := (B1 0 _ rfl).1; have e1 := (B1 1 _ rfl).1; have e2 := (B1 2 _ rfl).1; have e3 := (B1 3 _ rfl).1) | (go_at_call 46; (with_reducible refine (unhide HM _).mono ?_); rintro e v1 ⟨rfl, rfl⟩) | (go_at_call 47; (with_reducible refine (unhide HW1 _).mono ?_); rintro e v2 ⟨rfl, rfl⟩) | (go_at_call 47; (with_reducible refine (unhide HW2 _).mono ?_); rintro e v3 ⟨rfl, rfl⟩) | (go_at_call 53; (with_reducible refine (unhide HOn _).mono ?_); rintro e w2 ⟨g, rfl, hG, hgs, hb2⟩))
  have U2 := up_trans U1 hb2
  have B2 := bx_up B1 hb2
  clear HC HM HW1 HW2 HOn hb1 hb2 c0 c1 c2 c3 e0 e1 e2 e3 B0 B1 U0 U1 hgs tn
  obtain ⟨wo, hwo⟩ : ∃ wo, wo = w2 := ⟨_, rfl⟩
  rw [← hwo] at hG U2 B2 ⊢
  clear hwo
  go_loopw [12, 42] (fun s12 s42 wr => ∃ k : Nat, k ≤ K ∧ s42 = .int .i64 k ∧ wr.ownsRow wo.heap.size 2 1 s12 k (cellsI (axR us fn tn' m P Q k)) ∧ Up wo wr) (fun _ s42 _ => n - (intOf s42).toNat)
  case atStart => exact ⟨0, by omega, rfl, World.ownsRow_nil _ _ _ _, up_refl _⟩
  case round =>
    obtain ⟨k, hk, rfl, hown, hu⟩ := hrel
    have HO := hide hown
    clear hown
    have hu2 := up_trans U2 hu
    by_cases hlt : k < n
    · have hl : k < us.length := by rw [unhide HN]; exact hlt
      rcases unts_up (unhide HA) hu2 with hnil | ⟨b, off, rfl, hc⟩
      · rw [hnil] at hl; simp at hl
      obtain ⟨d0, d1, d2, d3, d4, d5, d6, d7, d8, d9, d10, hX, hXn⟩ := hc k hl
      clear hc
      have kg := (bx_up hG hu k _ (unhide HG k hlt)).1
      have B3 := bx_up B2 hu
      have c1 := (B3 1 _ rfl).1
      have eV := eaV_at (us := us) (f := fn) (t := tn') (m := m) (P := P) (Q := Q) hl
      have eN := eaN_at (us := us) (f := fn) (t := tn') (m := m) (P := P) (Q := Q) hl
      have ub := (unhide HU).1 k hl
      have xb := (unhide HU).2 k hl
      have cb := unhide HCa k
      obtain ⟨xs, hxs⟩ : ∃ xs, us[k].xs = xs := ⟨_, rfl⟩
      rw [hxs] at d10 hX hXn eV eN ub xb
      generalize caI fn tn' m P Q k = ci at *
      obtain ⟨kd, hkd⟩ : ∃ t, us[k].kd = t := ⟨_, rfl⟩
      obtain ⟨le, hle⟩ : ∃ t, us[k].le = t := ⟨_, rfl⟩
      obtain ⟨be, hbe⟩ : ∃ t, us[k].be = t := ⟨_, rfl⟩
      obtain ⟨fro, hfro⟩ : ∃ t, us[k].fr = t := ⟨_, rfl⟩
      obtain ⟨re, hre⟩ : ∃ t, us[k].re = t := ⟨_, rfl⟩
      obtain ⟨wid, hwid⟩ : ∃ t, us[k].wi = t := ⟨_, rfl⟩
      obtain ⟨he, hhe⟩ : ∃ t, us[k].he = t := ⟨_, rfl⟩
      obtain ⟨ma, hma⟩ : ∃ t, us[k].ma = t := ⟨_, rfl⟩
      obtain ⟨st, hst⟩ : ∃ t, us[k].st = t := ⟨_, rfl⟩
      obtain ⟨mo, hmo⟩ : ∃ t, us[k].mo = t := ⟨_, rfl⟩
      rw [hkd] at d0
      rw [hle] at d1
      rw [hbe] at d2
      rw [hfro] at d3
      rw [hre] at d4
      rw [hwid] at d5
      rw [hhe] at d6
      rw [hma] at d7
      rw [hst] at d8
      rw [hmo] at d9
      rw [hma] at eV ub
      obtain ⟨XA, hXA⟩ : ∃ t, us[k].A = t := ⟨_, rfl⟩
      obtain ⟨xc, hxc⟩ : ∃ t, us[k].cap = t := ⟨_, rfl⟩
      rw [hXA] at d10 hX
      rw [hxc] at d10
      clear hxs hXA hxc hkd hle hbe hfro hre hwid hhe hma hst hmo
      obtain ⟨xn, hxn⟩ : ∃ xn, xs.length = xn := ⟨_, rfl⟩
      rw [hxn] at d10 hXn eV ub xb
      have HXn := hide hxn
      have HX := hide hX
      clear hxn hX
      obtain ⟨⟨ub1, ub2⟩, ub3⟩ := ub
      obtain ⟨cb1, cb2⟩ := cb
      obtain ⟨ms, hms⟩ : ∃ ms, ma + ci = ms := ⟨_, rfl⟩
      have hw1 : IntKind.i64.wrap (ma + ci) = ms := by rw [hms]; exact IntWalk.i64_in _ ⟨by omega, by omega⟩
      rw [hms] at eV
      have HUp := hide (fun W => p_up ms xn 1 W (by omega) (by omega) (by omega) (by rw [amt_pos (by omega), amt_pos (by omega)]; omega))
      obtain ⟨ev, hev⟩ : ∃ ev, up ms xn 1 = ev := ⟨_, rfl⟩
      rw [hev] at HUp eV
      have EV := hide eV
      have EN := hide (eN.trans (by rw [eV]))
      have hwk : IntKind.i64.wrap ((k : Int) + 1) = (k : Int) + 1 := IntWalk.i64_in _ ⟨by omega, by omega⟩
      clear eV eN hev ub1 ub2 cb1 cb2 hms
      go_upto_region 17 with (go_at_call 54; (with_reducible refine (unhide HUp _).mono ?_); rintro e w6 ⟨rfl, hb6⟩)
      have NB := bx_up (bx_new wr [.int .i64 kd, .int .i64 le, .int .i64 be, .int .i64 fro, .int .i64 re, .int .i64 wid, .int .i64 he, .int .i64 ma, .int .i64 st, .int .i64 mo, .slice XA xn xc] 96) hb6
      have u6 : Up wr w6 := (by repeat' (first | (with_reducible exact up_refl _) | (with_reducible assumption) | (with_reducible refine up_alloc ?_ _) | (with_reducible refine up_drewN ?_ _) | (with_reducible refine up_drew ?_) | (with_reducible refine up_set ?_ (by first | (simp; done) | (simp; omega) | omega) _) | (refine up_trans ?_ (by with_reducible assumption))))
      have HO6 := hide (own_upI (unhide HO) u6)
      have U6 := up_trans hu u6
      have n10 := (NB 10 _ rfl).1
      clear HUp HO hb6 c1 d0 d1 d2 d3 d4 d5 d6 d7 d8 d9 d10 kg hu hu2 B3 hw1
      have HX6 := hide (axls_up (unhide HX) u6)
      clear HX u6
      go_wp2_with fail
      obtain ⟨wv, hwv⟩ : ∃ wv, wv = w6 := ⟨_, rfl⟩
      rw [← hwv] at HO6 U6 HX6 ⊢
      clear hwv n10 NB
      go_loopw [64] (fun s64 wi => ∃ j : Nat, j ≤ xn ∧ s64 = .int .i64 j ∧ Up wv wi ∧ Hid (heX ev xs = heX ev (xs.drop j))) (fun s64 _ => xn - (intOf s64).toNat)
      case atStart => exact ⟨0, by omega, rfl, up_refl _, rfl⟩
      case round =>
        obtain ⟨j, hj, rfl, hv, ho⟩ := hrel
        by_cases hlt2 : j < xn
        · have hl2 : j < xs.length := by rw [unhide HXn]; exact hlt2
          rcases axls_up (unhide HX6) hv with hnil | ⟨bx, offx, rfl, hcx⟩
          · rw [hnil] at hl2; simp at hl2
          obtain ⟨y0, y1, y2⟩ := hcx j hl2
          clear hcx
          have HS := hide ((unhide ho).trans (heX_step hl2))
          have hwj : IntKind.i64.wrap ((j : Int) + 1) = (j : Int) + 1 := IntWalk.i64_in _ ⟨by omega, by omega⟩
          obtain ⟨lm, hlm⟩ : ∃ t, xs[j].lim = t := ⟨_, rfl⟩
          rw [hlm] at y1
          have HS2 := hide (⟨fun x : lm < ev => (by rw [unhide HS, hlm, decide_eq_true x]; rfl : heX ev xs = true), fun x : ¬ lm < ev => (by rw [unhide HS, hlm, decide_eq_false x]; rfl : heX ev xs = heX ev (xs.drop (j + 1)))⟩ : (lm < ev → _) ∧ (¬ lm < ev → _))
          clear ho HS hlm
          by_cases hb : lm < ev
          · have h1 := (unhide HS2).1 hb
            obtain rfl := fsn_stop (unhide HK) hk (by rw [unhide EN]; exact h1)
            have f1' := (unhide E3).1 hlt
            have f2' := (unhide E4).1 (by rw [f1']; decide)
            subst f1' f2'
            clear HS2 E3 E4 HK h1
            go_wp2_with fail
            go_ret2
            exact ⟨⟨none, 0, rfl, .inl rfl⟩, up_alloc (up_trans U2 (up_trans U6 hv)) _⟩
          · have h2 := hide ((unhide HS2).2 hb)
            have hd : decide (lm < ev) = false := decide_eq_false hb
            clear HS2
            go_wp2_with fail
            go_roundw
            case rel => exact ⟨j + 1, by omega, by first | rfl | trivial | go_num, up_alloc hv _, h2⟩
            case measure => simp [intOf]; omega
        · obtain rfl : j = xn := by omega
          have hfin : heX ev xs = false := by rw [unhide ho, List.drop_of_length_le (by rw [unhide HXn]; omega)]; rfl
          have hkK := fsn_go (unhide HK) hk hlt (by rw [unhide EN]; exact hfin)
          have HO7 := hide (own_upI (unhide HO6) hv)
          have U7 := up_trans U6 hv
          clear ho hfin HK E3 E4 HX6 hv HO6 U6 EN
          go_wp2_with (at_builtin; refine wpList_append_own _ rfl _ _ 47 rfl wo.heap.size 2 i0' _ 1 8 Try.underlying47 (unhide HI) hz0 hz1 hz2 rfl (by decide) _ k (cellsI (axR us fn tn' m P Q k)) rfl ((unhide HO7).alloc _) ⟨wr.heap.size, 0, none⟩ 1 1 [.int .i64 ev] rfl rfl (one_newI _ _ _) (by intro u hu; simp at hu; rcases hu with rfl; rfl) (by unfold maxLen; omega) (by omega) (by have := U7.size; simp; omega) ?_; intro v' w8 hown' hgrow _)
          have R1 := own_grown (v' := v') (ys := []) (unhide HO7) (up_alloc U7 _) hgrow
          rw [← cellsI_snoc, ← unhide EV, ← axR_succ] at hown'
          have R2 := hide hown'
          clear hown' hgrow EV HO7 U7
          go_wp2_with fail
          go_roundw
          case rel => exact ⟨k + 1, by omega, by first | rfl | trivial | go_num, unhide R2, R1⟩
          case measure => simp [intOf]; omega
    · obtain rfl : k = n := by omega
      have hKe : K = k := by omega
      have f1' := (unhide E3).2 (by omega)
      have f2' := (unhide E4).2 f1'
      obtain ⟨A', c', hv', hI⟩ := own_ints (unhide HO)
      have hlen' := axR_len us fn tn' m P Q k
      rw [← f2'] at hI hv' hlen'
      clear f2' HO E3 E4 HK
      subst hv' f1'
      go_wp2_with fail
      go_ret2
      exact ⟨⟨A', c', rfl, hI⟩, hu2⟩
end Go.Proofs.Ytgfehjhngmabeaa
