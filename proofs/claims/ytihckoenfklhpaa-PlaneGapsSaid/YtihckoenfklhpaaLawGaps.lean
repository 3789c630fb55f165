/- PlaneGaps: the law's function returns true. -/
import Derived.Test.YtihckoenfklhpaaTwoHulls
import Derived.Test.YtihckoenfklhpaaGrow
import Derived.Test.YtihckoenfklhpaaGap
import Derived.BigRegion
import Derived.Deep.RegionLaw
namespace Go.Proofs.Ytihckoenfklhpaa
open Go.RowKit Go.Proofs.Gn
def mx (x y : Int) : Int := if y > x then y else x
theorem run_max4 {P : Program} (ts : Array TypeId) (t : TypeId) (x y z u : Int) (w : World) : (Builtin.max_ ts t #[.int .i64 x, .int .i64 y, .int .i64 z, .int .i64 u]).run P w = .ok (.int .i64 (mx (mx (mx x y) z) u)) w := by
  simp only [Builtin.max_, List.foldlM_cons, List.foldlM_nil, Builtin.max2, Sem.run_bind, Sem.run_pure, Result.andThen_ok]
  rfl
set_option maxRecDepth 100000 in
set_option maxHeartbeats 4000000 in
/-- The first list is empty. -/
theorem l_Gaps_none (A B : Option Addr) (ps ms : Pl) (ca cb : Nat) (dx dy : Int) (w : World) (h1 : Smalls w A ps) (h2 : Smalls w B ms) (n1 : ps.length ≤ 9223372036854775807) (n2 : ms.length ≤ 9223372036854775807) (h0 : (ps.take 8).length = 0) :
    Calls Try.prog 7 #[.slice A ps.length ca, .slice B ms.length cb, .int .i8 dx, .int .i8 dy] w fun e w' => e = .returned (.bool true) ∧ Below w.heap.size w w' := by
  have l0 : ps.length = 0 := by simpa using h0
  obtain ⟨qs, hq⟩ : ∃ qs, ps.take 8 = qs := ⟨_, rfl⟩
  obtain ⟨rs, hr⟩ : ∃ rs, ms.take 8 = rs := ⟨_, rfl⟩
  have PF1 : ∀ W, Up w W → Calls Try.prog 28 #[.slice A ps.length ca, .int .i64 8] W fun e w' => ∃ v, e = .returned v ∧ w'.ownsRow W.heap.size 24 2 v qs.length (cellsPl qs) ∧ Up W w' := fun W hu => l_few8 A ps ca W (smalls_up2 h1 hu) n1 hq
  have PF2 : ∀ W, Up w W → Calls Try.prog 28 #[.slice B ms.length cb, .int .i64 8] W fun e w' => ∃ v, e = .returned v ∧ w'.ownsRow W.heap.size 24 2 v rs.length (cellsPl rs) ∧ Up W w' := fun W hu => l_few8 B ms cb W (smalls_up2 h2 hu) n2 hr
  have PH1 : ∀ (b : Nat) (v : Value) (W : World), W.ownsRow b 24 2 v qs.length (cellsPl qs) → Calls Try.prog 9 #[v] W fun e w' => e = .returned (.tuple #[.slice none 0 0, .int .i64 5]) ∧ Up W w' := fun b v W ho => p_HullOff (by rw [← hq]; exact h0) ho
  have PH2 : ∀ (b : Nat) (v : Value) (W : World), W.ownsRow b 24 2 v rs.length (cellsPl rs) → Calls Try.prog 9 #[v] W fun e w' => ∃ v n, e = .returned (.tuple #[v, .int .i64 n]) ∧ Up W w' := fun b v W ho =>
    p_HullAny (by rw [← hr]; simp; omega) (fun p hp => smalls_bd2 h2 p (List.mem_of_mem_take (by rw [hr]; exact hp))) ho
  have HPF1 := hide PF1
  have HPF2 := hide PF2
  have HPH1 := hide PH1
  have HPH2 := hide PH2
  obtain ⟨N1, e1⟩ : ∃ n, ps.length = n := ⟨_, rfl⟩
  obtain ⟨N2, e2⟩ : ∃ n, ms.length = n := ⟨_, rfl⟩
  rw [e1] at HPF1 l0 ⊢
  rw [e2] at HPF2 ⊢
  subst l0
  clear PF1 PF2 PH1 PH2 h1 h2 hq hr h0 e1 e2 n1 n2
  go_enter Try.func7, Try.ntmps7
  go_wp2_with (first
    | (go_at_call 28; (with_reducible refine (unhide HPF1 _ (by repeat' (first | (with_reducible exact up_refl _) | (with_reducible assumption) | (with_reducible refine up_alloc ?_ _) | (with_reducible refine up_drewN ?_ _) | (with_reducible refine up_drew ?_) | (with_reducible refine up_set ?_ (by first | (simp; done) | (simp; omega) | omega) _) | (refine up_trans ?_ (by with_reducible assumption))))).mono ?_); rintro e w1 ⟨v, rfl, hown, hb1⟩; have HO1 := hide hown; clear hown)
    | (go_at_call 28; (with_reducible refine (unhide HPF2 _ (by repeat' (first | (with_reducible exact up_refl _) | (with_reducible assumption) | (with_reducible refine up_alloc ?_ _) | (with_reducible refine up_drewN ?_ _) | (with_reducible refine up_drew ?_) | (with_reducible refine up_set ?_ (by first | (simp; done) | (simp; omega) | omega) _) | (refine up_trans ?_ (by with_reducible assumption))))).mono ?_); rintro e w3 ⟨v3, rfl, hown, hb3⟩; have HO2 := hide hown; clear hown)
    | (go_at_call 9; (with_reducible refine (unhide HPH1 _ _ _ (unhide HO1)).mono ?_); rintro e w2 ⟨rfl, hb2⟩)
    | (go_at_call 9; (with_reducible refine (unhide HPH2 _ _ _ (unhide HO2)).mono ?_); rintro e w4 ⟨v4, n4, rfl, hb4⟩)
    | (go_at_call 8; refine (l_works _).mono ?_; rintro e w5 ⟨rfl, hb5⟩))
  exact bodyPost_ret (v := .bool true) (by simp [results, Try.results7, go_sem]) rfl ⟨rfl, (by repeat' (first | (with_reducible exact up_refl _) | (with_reducible assumption) | (with_reducible refine up_alloc ?_ _) | (with_reducible refine up_drewN ?_ _) | (with_reducible refine up_drew ?_) | (with_reducible refine up_set ?_ (by first | (simp; done) | (simp; omega) | omega) _) | (refine up_trans ?_ (by with_reducible assumption))))⟩
set_option maxRecDepth 100000 in
set_option maxHeartbeats 4000000 in
/-- The second list is empty. -/
theorem l_Gaps_half (A B : Option Addr) (ps ms : Pl) (ca cb : Nat) (dx dy : Int) (w : World) (h1 : Smalls w A ps) (h2 : Smalls w B ms) (n1 : ps.length ≤ 9223372036854775807) (n2 : ms.length ≤ 9223372036854775807) (h0 : 0 < (ps.take 8).length) (h0' : (ms.take 8).length = 0) :
    Calls Try.prog 7 #[.slice A ps.length ca, .slice B ms.length cb, .int .i8 dx, .int .i8 dy] w fun e w' => e = .returned (.bool true) ∧ Below w.heap.size w w' := by
  have l0 : ms.length = 0 := by simpa using h0'
  have l1 : ((ps.length : Int) == 0) = false := by rw [List.length_take] at h0; exact beq_false_of_ne (by omega)
  obtain ⟨qs, hq⟩ : ∃ qs, ps.take 8 = qs := ⟨_, rfl⟩
  obtain ⟨rs, hr⟩ : ∃ rs, ms.take 8 = rs := ⟨_, rfl⟩
  have PF1 : ∀ W, Up w W → Calls Try.prog 28 #[.slice A ps.length ca, .int .i64 8] W fun e w' => ∃ v, e = .returned v ∧ w'.ownsRow W.heap.size 24 2 v qs.length (cellsPl qs) ∧ Up W w' := fun W hu => l_few8 A ps ca W (smalls_up2 h1 hu) n1 hq
  have PF2 : ∀ W, Up w W → Calls Try.prog 28 #[.slice B ms.length cb, .int .i64 8] W fun e w' => ∃ v, e = .returned v ∧ w'.ownsRow W.heap.size 24 2 v rs.length (cellsPl rs) ∧ Up W w' := fun W hu => l_few8 B ms cb W (smalls_up2 h2 hu) n2 hr
  have PH2 : ∀ (b : Nat) (v : Value) (W : World), W.ownsRow b 24 2 v rs.length (cellsPl rs) → Calls Try.prog 9 #[v] W fun e w' => e = .returned (.tuple #[.slice none 0 0, .int .i64 5]) ∧ Up W w' := fun b v W ho => p_HullOff (by rw [← hr]; exact h0') ho
  have PH1 : ∀ (b : Nat) (v : Value) (W : World), W.ownsRow b 24 2 v qs.length (cellsPl qs) → Calls Try.prog 9 #[v] W fun e w' => ∃ g c, e = .returned (.tuple #[.slice (some ⟨g, 0, none⟩) (Gx.hullF qs).length c, .int .i64 0]) ∧ Up W w' := fun b v W ho =>
    (p_HullFew (by rw [← hq]; exact h0) (by rw [← hq]; simp; omega) (fun p hp => smalls_bd2 h1 p (List.mem_of_mem_take (by rw [hq]; exact hp))) ho).mono fun e w' ⟨g, c, he, _, hu⟩ => ⟨g, c, he, hu⟩
  have HPF1 := hide PF1
  have HPF2 := hide PF2
  have HPH1 := hide PH1
  have HPH2 := hide PH2
  obtain ⟨N1, e1⟩ : ∃ n, ps.length = n := ⟨_, rfl⟩
  obtain ⟨N2, e2⟩ : ∃ n, ms.length = n := ⟨_, rfl⟩
  rw [e1] at HPF1 l1 ⊢
  rw [e2] at HPF2 l0 ⊢
  subst l0
  clear PF1 PF2 PH1 PH2 h1 h2 hq hr h0 h0' e1 e2 n1 n2
  go_enter Try.func7, Try.ntmps7
  go_wp2_with (first
    | (go_at_call 28; (with_reducible refine (unhide HPF1 _ (by repeat' (first | (with_reducible exact up_refl _) | (with_reducible assumption) | (with_reducible refine up_alloc ?_ _) | (with_reducible refine up_drewN ?_ _) | (with_reducible refine up_drew ?_) | (with_reducible refine up_set ?_ (by first | (simp; done) | (simp; omega) | omega) _) | (refine up_trans ?_ (by with_reducible assumption))))).mono ?_); rintro e w1 ⟨v, rfl, hown, hb1⟩; have HO1 := hide hown; clear hown)
    | (go_at_call 28; (with_reducible refine (unhide HPF2 _ (by repeat' (first | (with_reducible exact up_refl _) | (with_reducible assumption) | (with_reducible refine up_alloc ?_ _) | (with_reducible refine up_drewN ?_ _) | (with_reducible refine up_drew ?_) | (with_reducible refine up_set ?_ (by first | (simp; done) | (simp; omega) | omega) _) | (refine up_trans ?_ (by with_reducible assumption))))).mono ?_); rintro e w3 ⟨v3, rfl, hown, hb3⟩; have HO2 := hide hown; clear hown)
    | (go_at_call 9; (with_reducible refine (unhide HPH1 _ _ _ (unhide HO1)).mono ?_); rintro e w2 ⟨g2, c2, rfl, hb2⟩)
    | (go_at_call 9; (with_reducible refine (unhide HPH2 _ _ _ (unhide HO2)).mono ?_); rintro e w4 ⟨rfl, hb4⟩)
    | (go_at_call 8; refine (l_works _).mono ?_; rintro e w5 ⟨rfl, hb5⟩))
  exact bodyPost_ret (v := .bool true) (by simp [results, Try.results7, go_sem]) rfl ⟨rfl, (by repeat' (first | (with_reducible exact up_refl _) | (with_reducible assumption) | (with_reducible refine up_alloc ?_ _) | (with_reducible refine up_drewN ?_ _) | (with_reducible refine up_drew ?_) | (with_reducible refine up_set ?_ (by first | (simp; done) | (simp; omega) | omega) _) | (refine up_trans ?_ (by with_reducible assumption))))⟩
set_option maxRecDepth 100000 in
set_option maxHeartbeats 40000000 in
theorem l_Gaps_some (A B : Option Addr) (ps ms : Pl) (ca cb : Nat) (dx dy : Int) (w : World) (h1 : Smalls w A ps) (h2 : Smalls w B ms) (n1 : ps.length ≤ 9223372036854775807) (n2 : ms.length ≤ 9223372036854775807) (h0 : 0 < (ps.take 8).length) (h0' : 0 < (ms.take 8).length)
    (b1 : -128 ≤ dx ∧ dx ≤ 127) (b2 : -128 ≤ dy ∧ dy ≤ 127) :
    Calls Try.prog 7 #[.slice A ps.length ca, .slice B ms.length cb, .int .i8 dx, .int .i8 dy] w fun e w' => e = .returned (.bool true) ∧ Below w.heap.size w w' := by
  obtain ⟨qs, hq⟩ : ∃ qs, ps.take 8 = qs := ⟨_, rfl⟩
  obtain ⟨rs, hr⟩ : ∃ rs, ms.take 8 = rs := ⟨_, rfl⟩
  rw [hq] at h0
  rw [hr] at h0'
  have lq : qs.length ≤ 8 := by rw [← hq]; simp; omega
  have lr : rs.length ≤ 8 := by rw [← hr]; simp; omega
  have bq := fun p (hp : p ∈ qs) => smalls_bd2 h1 p (List.mem_of_mem_take (by rw [hq]; exact hp))
  have br := fun p (hp : p ∈ rs) => smalls_bd2 h2 p (List.mem_of_mem_take (by rw [hr]; exact hp))
  have ha := hv_few h0 lq bq
  have la : (Gx.hullF qs).length ≤ 16 := by have := hullF_len qs; omega
  have sa : ∀ p ∈ Gx.hullF qs, (-128 ≤ p.1 ∧ p.1 ≤ 127) ∧ (-128 ≤ p.2 ∧ p.2 ≤ 127) := fun p hp => bq p ((hullOf (List.ne_nil_of_length_pos h0)).mem p hp)
  have sb : ∀ p ∈ Gx.hullF rs, (-128 ≤ p.1 ∧ p.1 ≤ 127) ∧ (-128 ≤ p.2 ∧ p.2 ≤ 127) := fun p hp => br p ((hullOf (List.ne_nil_of_length_pos h0')).mem p hp)
  have hb := hv_few h0' lr br
  obtain ⟨a, hae⟩ : ∃ a, Gx.hullF qs = a := ⟨_, rfl⟩
  obtain ⟨b, hbe⟩ : ∃ a, Gx.hullF rs = a := ⟨_, rfl⟩
  have PF1 : ∀ W, Up w W → Calls Try.prog 28 #[.slice A ps.length ca, .int .i64 8] W fun e w' => ∃ v, e = .returned v ∧ w'.ownsRow W.heap.size 24 2 v qs.length (cellsPl qs) ∧ Up W w' := fun W hu => l_few8 A ps ca W (smalls_up2 h1 hu) n1 hq
  have PF2 : ∀ W, Up w W → Calls Try.prog 28 #[.slice B ms.length cb, .int .i64 8] W fun e w' => ∃ v, e = .returned v ∧ w'.ownsRow W.heap.size 24 2 v rs.length (cellsPl rs) ∧ Up W w' := fun W hu => l_few8 B ms cb W (smalls_up2 h2 hu) n2 hr
  have PH1 : ∀ (B : Nat) (v : Value) (W : World), W.ownsRow B 24 2 v qs.length (cellsPl qs) → Calls Try.prog 9 #[v] W fun e w' => ∃ g c, e = .returned (.tuple #[.slice (some ⟨g, 0, none⟩) a.length c, .int .i64 0]) ∧ At w' g 0 c a ∧ Up W w' := fun B v W ho => by
    rw [← hae]; exact p_HullFew h0 lq bq ho
  have PH2 : ∀ (B : Nat) (v : Value) (W : World), W.ownsRow B 24 2 v rs.length (cellsPl rs) → Calls Try.prog 9 #[v] W fun e w' => ∃ g c, e = .returned (.tuple #[.slice (some ⟨g, 0, none⟩) b.length c, .int .i64 0]) ∧ At w' g 0 c b ∧ Up W w' := fun B v W ho => by
    rw [← hbe]; exact p_HullFew h0' lr br ho
  rw [hae] at ha la sa
  rw [hbe] at hb sb
  clear hae hbe h0 h0' lq lr bq br hq hr h1 h2 n1 n2
  obtain ⟨n, hn⟩ := gap_ex ha hb
  have n0 := hn.nonneg
  have n1 : n ≤ 1000 := (hn.room 1000 (by omega)).2 (Gx.room_near ha.poly.ne hb.poly.ne fun x hx y hy => by have := sa x hx; have := sb y hy; omega)
  have hm : HV (Gx.mvL (dx, dy) b) := ⟨Gx.mvL_poly hb.poly _, by rw [Gx.mvL_len]; exact hb.len, List.all_eq_true.2 fun r hr => by
    obtain ⟨y, hy, rfl⟩ := Gx.mem_mvL.1 hr
    have := sb y hy
    unfold Gx.ad okp okc
    simp
    omega⟩
  obtain ⟨h, hh⟩ := gap_ex ha hm
  obtain ⟨T, hT⟩ : ∃ T, mx (mx (mx dx (-dx)) dy) (-dy) = T := ⟨_, rfl⟩
  have t0 : (-T ≤ dx ∧ dx ≤ T) ∧ (-T ≤ dy ∧ dy ≤ T) ∧ T ≤ 128 := by
    unfold mx at hT
    (repeat' split at hT) <;> omega
  have k1 : h ≤ n + T := (hh.room (n + T) (by omega)).2 (Gx.room_move (d := (dx, dy)) ⟨t0.1, t0.2.1⟩ ((hn.room n n0).1 (Int.le_refl _)))
  have k2 : n ≤ h + T := (hn.room (h + T) (by have := hh.nonneg; omega)).2 (Gx.room_back (d := (dx, dy)) ⟨t0.1, t0.2.1⟩ ((hh.room h hh.nonneg).1 (Int.le_refl _)))
  have h0 := hh.nonneg
  have PG1 : ∀ (ga ca gb cb : Nat) (W : World), At W ga 0 ca a → At W gb 0 cb b → Calls Try.prog 22 #[.slice (some ⟨ga, 0, none⟩) a.length ca, .slice (some ⟨gb, 0, none⟩) b.length cb] W fun e w' => e = .returned (.tuple #[.int .i64 n, .int .i64 0]) ∧ Up W w' := fun ga ca gb cb W h1 h2 => p_Gap ha hb W h1 h2 hn
  have PG2 : ∀ (ga ca gb cb : Nat) (W : World), At W ga 0 ca a → At W gb 0 cb (Gx.mvL (dx, dy) b) → Calls Try.prog 22 #[.slice (some ⟨ga, 0, none⟩) a.length ca, .slice (some ⟨gb, 0, none⟩) b.length cb] W fun e w' => e = .returned (.tuple #[.int .i64 h, .int .i64 0]) ∧ Up W w' := fun ga ca gb cb W h1 h2 => by
    have q := p_Gap ha hm W h1 h2 hh
    rw [Gx.mvL_len] at q
    exact q
  have PW : ∀ (t : Int), 0 ≤ t → t ≤ 1002 → ∀ (ga ca : Nat) (W : World), At W ga 0 ca a → Calls Try.prog 18 #[.slice (some ⟨ga, 0, none⟩) a.length ca, .int .i64 t] W fun e w' => ∃ v, e = .returned (.tuple #[v, .int .i64 0]) ∧ GrowAt a t v w' ∧ Up W w' := fun t q0 q1 ga ca W hA =>
    p_Grow ha (by omega) W hA t q0 (by omega) fun x hx y hy => by
      have := sa x hx
      have := Gx.sqL_bd q0 hy
      unfold okp okc
      simp
      omega
  have PM : ∀ (t : Int) (m : Bool), 0 ≤ t → (m = true ↔ n ≤ t) → ∀ (v : Value) (gb cb : Nat) (W : World), GrowAt a t v W → At W gb 0 cb b → Calls Try.prog 20 #[v, .slice (some ⟨gb, 0, none⟩) b.length cb] W fun e w' => e = .returned (.tuple #[.bool m, .int .i64 0]) ∧ Up W w' := fun t m q0 hm v gb cb W hG hB => by
    obtain ⟨G, g, cap, rfl, hp, hv, hA⟩ := hG
    exact p_Meet hv hb W hA hB (hm.trans ((hn.room t q0).trans (Gx.grown_diffs q0 hp).symm))
  have sb' : ∀ k (hk : k < b.length), (-128 ≤ b[k].1 ∧ b[k].1 ≤ 127) ∧ (-128 ≤ b[k].2 ∧ b[k].2 ≤ 127) := fun k hk => sb _ (List.getElem_mem hk)
  have lb := hb.len
  have e1 : IntKind.i64.wrap dx = dx := IntWalk.i64_in _ ⟨by omega, by omega⟩
  have e2 : IntKind.i64.wrap dy = dy := IntWalk.i64_in _ ⟨by omega, by omega⟩
  have e3 : IntKind.i64.wrap (-dx) = -dx := IntWalk.i64_in _ ⟨by omega, by omega⟩
  have e4 : IntKind.i64.wrap (-dy) = -dy := IntWalk.i64_in _ ⟨by omega, by omega⟩
  have e5 : IntKind.i64.wrap (n + T) = n + T := IntWalk.i64_in _ ⟨by omega, by omega⟩
  have e6 : IntKind.i64.wrap (h + T) = h + T := IntWalk.i64_in _ ⟨by omega, by omega⟩
  have e7 : IntKind.i64.wrap (n - 2) = n - 2 := IntWalk.i64_in _ ⟨by omega, by omega⟩
  have e8 : IntKind.i64.wrap (n + 1) = n + 1 := IntWalk.i64_in _ ⟨by omega, by omega⟩
  have r4 := fun (ts : Array TypeId) (t : TypeId) (W : World) => (show (Builtin.max_ ts t #[.int .i64 dx, .int .i64 (-dx), .int .i64 dy, .int .i64 (-dy)]).run Try.prog W = .ok (.int .i64 T) W by rw [run_max4, hT])
  obtain ⟨M0, hM0⟩ : ∃ M, (if n - 2 > 0 then n - 2 else 0) = M := ⟨_, rfl⟩
  have m0 : 0 ≤ M0 ∧ M0 ≤ n := by split at hM0 <;> omega
  have r2 := fun (ts : Array TypeId) (t : TypeId) (W : World) => (show (Builtin.max_ ts t #[.int .i64 0, .int .i64 (n - 2)]).run Try.prog W = .ok (.int .i64 M0) W by rw [run_max_int2, hM0])
  have z1 : ¬ n < 0 := by omega
  have z2 : ¬ 1000 < n := by omega
  have HPF1 := hide PF1
  have HPF2 := hide PF2
  have HPH1 := hide PH1
  have HPH2 := hide PH2
  have HPG1 := hide PG1
  have HPG2 := hide PG2
  have HPW := hide PW
  have HPM := hide PM
  have HSB := hide sb'
  obtain ⟨N1, f1⟩ : ∃ n, ps.length = n := ⟨_, rfl⟩
  obtain ⟨N2, f2⟩ : ∃ n, ms.length = n := ⟨_, rfl⟩
  obtain ⟨na, g1⟩ : ∃ n, a.length = n := ⟨_, rfl⟩
  obtain ⟨nb, g2⟩ : ∃ n, b.length = n := ⟨_, rfl⟩
  have nb0 := hb.pos
  rw [f1] at HPF1 ⊢
  rw [f2] at HPF2 ⊢
  rw [g1] at HPH1 HPG1 HPG2 HPW
  rw [g2] at HPH2 HPG1 HPG2 HPM lb nb0
  have HNB := hide g2
  clear PF1 PF2 PH1 PH2 PG1 PG2 PW PM ha hb hm hn hh f1 f2 g1 g2 sa sb sb' hT la hM0
  obtain ⟨i0, hi, hz0, hz1, hz2⟩ := info_parts info_pt
  have HI := hide hi
  clear hi
  go_enter Try.func7, Try.ntmps7
  go_upto_region 5 with (first
    | (go_at_call 28; (with_reducible refine (unhide HPF1 _ (by repeat' (first | (with_reducible exact up_refl _) | (with_reducible assumption) | (with_reducible refine up_alloc ?_ _) | (with_reducible refine up_drewN ?_ _) | (with_reducible refine up_drew ?_) | (with_reducible refine up_set ?_ (by first | (simp; done) | (simp; omega) | omega) _) | (refine up_trans ?_ (by with_reducible assumption))))).mono ?_); rintro e w1 ⟨v, rfl, hown, hb1⟩; have HO1 := hide hown; clear hown)
    | (go_at_call 28; (with_reducible refine (unhide HPF2 _ (by repeat' (first | (with_reducible exact up_refl _) | (with_reducible assumption) | (with_reducible refine up_alloc ?_ _) | (with_reducible refine up_drewN ?_ _) | (with_reducible refine up_drew ?_) | (with_reducible refine up_set ?_ (by first | (simp; done) | (simp; omega) | omega) _) | (refine up_trans ?_ (by with_reducible assumption))))).mono ?_); rintro e w3 ⟨v3, rfl, hown, hb3⟩; have HO2 := hide hown; clear hown)
    | (go_at_call 9; (with_reducible refine (unhide HPH1 _ _ _ (unhide HO1)).mono ?_); rintro e w2 ⟨ga, ka, rfl, hA, hb2⟩; have HA0 := hide hA; clear hA)
    | (go_at_call 9; (with_reducible refine (unhide HPH2 _ _ _ (unhide HO2)).mono ?_); rintro e w4 ⟨gb, kb, rfl, hB, hb4⟩; have HB := hide hB; clear hB))
  have HA := hide ((unhide HA0).up (show Up w2 w4 from (by repeat' (first | (with_reducible exact up_refl _) | (with_reducible assumption) | (with_reducible refine up_alloc ?_ _) | (with_reducible refine up_drewN ?_ _) | (with_reducible refine up_drew ?_) | (with_reducible refine up_set ?_ (by first | (simp; done) | (simp; omega) | omega) _) | (refine up_trans ?_ (by with_reducible assumption))))))
  have hW := hide (show Up w w4 from (by repeat' (first | (with_reducible exact up_refl _) | (with_reducible assumption) | (with_reducible refine up_alloc ?_ _) | (with_reducible refine up_drewN ?_ _) | (with_reducible refine up_drew ?_) | (with_reducible refine up_set ?_ (by first | (simp; done) | (simp; omega) | omega) _) | (refine up_trans ?_ (by with_reducible assumption)))))
  clear HPF1 HPF2 HPH1 HPH2 HO1 HO2 HA0 hb1 hb2 hb3 hb4
  go_wp2_with (go_at_call 22; (with_reducible refine (unhide HPG1 _ _ _ _ _ (unhide HA) (unhide HB)).mono ?_); rintro e w5 ⟨rfl, hb5⟩)
  clear r2 e7 HPG1
  go_loopw [14] (fun s14 wr => ∃ t : Int, 0 ≤ t ∧ t ≤ n + 2 ∧ s14 = .int .i64 t ∧ Up w4 wr) (fun s14 _ => (n + 2 - intOf s14).toNat)
  case atStart => exact ⟨M0, m0.1, by omega, rfl, hb5⟩
  case round =>
    clear hb5
    obtain ⟨t, q0, q1, rfl, hu⟩ := hrel
    by_cases hlt : t ≤ n + 1
    · have w1 : IntKind.i64.wrap (t + 1) = t + 1 := IntWalk.i64_in _ ⟨by omega, by omega⟩
      have HPWt := hide (unhide HPW t q0 (by omega))
      by_cases c : n ≤ t
      · have HPMt := hide (unhide HPM t true q0 (by simp [c]))
        clear HPW HPM HPG2 r4 HSB
        go_wp2_with (first
          | (go_at_call 18; (with_reducible refine (unhide HPWt _ _ _ ((unhide HA).up hu)).mono ?_); rintro e w6 ⟨v, rfl, hG, hb6⟩; have HG := hide hG; clear hG)
          | (go_at_call 20; (with_reducible refine (unhide HPMt _ _ _ _ (unhide HG) ((unhide HB).up (up_trans hu hb6))).mono ?_); rintro e w7 ⟨rfl, hb7⟩))
        first
          | exact ⟨⟨t + 1, by omega, by omega, rfl, (by repeat' (first | (with_reducible exact up_refl _) | (with_reducible assumption) | (with_reducible refine up_alloc ?_ _) | (with_reducible refine up_drewN ?_ _) | (with_reducible refine up_drew ?_) | (with_reducible refine up_set ?_ (by first | (simp; done) | (simp; omega) | omega) _) | (refine up_trans ?_ (by with_reducible assumption))))⟩, by simp [intOf]; omega⟩
          | (go_roundw; (case rel => exact ⟨t + 1, by omega, by omega, rfl, (by repeat' (first | (with_reducible exact up_refl _) | (with_reducible assumption) | (with_reducible refine up_alloc ?_ _) | (with_reducible refine up_drewN ?_ _) | (with_reducible refine up_drew ?_) | (with_reducible refine up_set ?_ (by first | (simp; done) | (simp; omega) | omega) _) | (refine up_trans ?_ (by with_reducible assumption))))⟩); (case measure => simp [intOf]; omega))
      · have HPMt := hide (unhide HPM t false q0 (by simp [c]))
        clear HPW HPM HPG2 r4 HSB
        go_wp2_with (first
          | (go_at_call 18; (with_reducible refine (unhide HPWt _ _ _ ((unhide HA).up hu)).mono ?_); rintro e w6 ⟨v, rfl, hG, hb6⟩; have HG := hide hG; clear hG)
          | (go_at_call 20; (with_reducible refine (unhide HPMt _ _ _ _ (unhide HG) ((unhide HB).up (up_trans hu hb6))).mono ?_); rintro e w7 ⟨rfl, hb7⟩))
        first
          | exact ⟨⟨t + 1, by omega, by omega, rfl, (by repeat' (first | (with_reducible exact up_refl _) | (with_reducible assumption) | (with_reducible refine up_alloc ?_ _) | (with_reducible refine up_drewN ?_ _) | (with_reducible refine up_drew ?_) | (with_reducible refine up_set ?_ (by first | (simp; done) | (simp; omega) | omega) _) | (refine up_trans ?_ (by with_reducible assumption))))⟩, by simp [intOf]; omega⟩
          | (go_roundw; (case rel => exact ⟨t + 1, by omega, by omega, rfl, (by repeat' (first | (with_reducible exact up_refl _) | (with_reducible assumption) | (with_reducible refine up_alloc ?_ _) | (with_reducible refine up_drewN ?_ _) | (with_reducible refine up_drew ?_) | (with_reducible refine up_set ?_ (by first | (simp; done) | (simp; omega) | omega) _) | (refine up_trans ?_ (by with_reducible assumption))))⟩); (case measure => simp [intOf]; omega))
    · have k3 : ¬ t ≤ n + 1 := hlt
      clear HPW HPM
      have HU := hide hu
      go_wp2_with fail
      clear hu hlt q1 q0 k3
      go_loopw [19, 20] (fun s19 s20 wr => ∃ k : Nat, k ≤ nb ∧ s20 = .int .i64 k ∧ wr.ownsRow w4.heap.size 24 2 s19 k (cellsPl ((Gx.mvL (dx, dy) b).take k)) ∧ Up w4 wr) (fun _ s20 _ => nb - (intOf s20).toNat)
      case atStart => exact ⟨0, Nat.zero_le _, rfl, World.ownsRow_nil _ _ _ _, unhide HU⟩
      case round =>
        clear HU
        obtain ⟨k, hk, rfl, hown, hu⟩ := hrel
        by_cases hlt : k < nb
        · have h1' : (k : Int) < (nb : Int) := by omega
          have hl : k < b.length := by rw [unhide HNB]; exact hlt
          obtain ⟨c0, c1⟩ := (unhide HB).pts k hl
          have bb := unhide HSB k hl
          have ht : (Gx.mvL (dx, dy) b).take (k + 1) = (Gx.mvL (dx, dy) b).take k ++ [(b[k].1 + dx, b[k].2 + dy)] := by
            rw [List.take_succ_eq_append_getElem (by rw [Gx.mvL_len]; exact hl)]
            simp [Gx.mvL, Gx.ad]
          obtain ⟨x, hx⟩ : ∃ x, b[k].1 = x := ⟨_, rfl⟩
          obtain ⟨y, hy⟩ : ∃ y, b[k].2 = y := ⟨_, rfl⟩
          rw [hx] at c0 ht bb
          rw [hy] at c1 ht bb
          have d0 := up_cell hu c0
          have d1 := up_cell hu c1
          simp only [Nat.zero_add] at d0 d1
          have HT := hide ht
          have HO := hide hown
          have HU := hide hu
          have W1 : IntKind.i64.wrap (x + dx) = x + dx := IntWalk.i64_in _ ⟨by omega, by omega⟩
          have W2 : IntKind.i64.wrap (y + dy) = y + dy := IntWalk.i64_in _ ⟨by omega, by omega⟩
          clear ht hown hu c0 c1 hx hy hl bb HPG2 r4 HSB
          go_wp2_with fail
          go_region_law (refine step_append_mine _ rfl (.tmp 108) (.tmp 126) 22 rfl w4.heap.size 24 i0 _ 2 16 Try.underlying22 (unhide HI) hz0 hz1 hz2 rfl (Nat.zero_lt_succ _) _ k (cellsPl ((Gx.mvL (dx, dy) b).take k)) rfl ((unhide HO).alloc _) ⟨wr.heap.size, 0, none⟩ 1 1 [.int .i64 (x + dx), .int .i64 (y + dy)] rfl rfl (two_new _ _ _ _) (by intro u hu; simp at hu; rcases hu with rfl | rfl <;> rfl) (by unfold maxLen; omega) (by omega) (by have := (unhide HU).size; simp; omega) ?_; intro v' w1 hown' hgrow)
          all_goals
            have R := few_rel (unhide HT) (unhide HO) (Below.drew (Below.alloc (unhide HU) (unhide HU).size _)) hown' hgrow
            have R1 := hide R.1
            have R2 := hide R.2
            clear R hown' hgrow
            go_wp2_with fail
            go_roundw
            case rel => exact ⟨k + 1, by omega, by go_num, unhide R1, unhide R2⟩
            case measure => simp [intOf]; omega
        · obtain rfl : k = nb := by omega
          have h1' : ¬ (k : Int) < (k : Int) := by omega
          obtain ⟨g, cap, rfl, q1, q2, q3⟩ := own_some hown nb0
          rw [List.take_of_length_le (by rw [Gx.mvL_len, unhide HNB]; exact Nat.le_refl _)] at hown
          have hC : At wr g 0 cap (Gx.mvL (dx, dy) b) := ⟨own_cells hown, by rw [Gx.mvL_len, unhide HNB]; exact q2, q3⟩
          have HC := hide hC
          clear hown hC q1 q2 q3 hlt HSB
          go_wp2_with (first
            | (go_at_call 22; (with_reducible refine (unhide HPG2 _ _ _ _ _ ((unhide HA).up hu) (unhide HC)).mono ?_); rintro e w8 ⟨rfl, hb8⟩)
            | (go_at_call 8; refine (l_works _).mono ?_; rintro e w9 ⟨rfl, hb9⟩))
          exact bodyPost_ret (v := .bool true) (by simp [results, Try.results7, go_sem]) rfl ⟨rfl, up_trans (unhide hW) (by repeat' (first | (with_reducible exact up_refl _) | (with_reducible assumption) | (with_reducible refine up_alloc ?_ _) | (with_reducible refine up_drewN ?_ _) | (with_reducible refine up_drew ?_) | (with_reducible refine up_set ?_ (by first | (simp; done) | (simp; omega) | omega) _) | (refine up_trans ?_ (by with_reducible assumption))))⟩
theorem l_Gaps (A B : Option Addr) (ps ms : Pl) (ca cb : Nat) (dx dy : Int) (w : World) (h1 : Smalls w A ps) (h2 : Smalls w B ms) (n1 : ps.length ≤ 9223372036854775807) (n2 : ms.length ≤ 9223372036854775807) (b1 : -128 ≤ dx ∧ dx ≤ 127) (b2 : -128 ≤ dy ∧ dy ≤ 127) :
    Calls Try.prog 7 #[.slice A ps.length ca, .slice B ms.length cb, .int .i8 dx, .int .i8 dy] w fun e w' => e = .returned (.bool true) ∧ Below w.heap.size w w' := by
  by_cases c1 : (ps.take 8).length = 0
  · exact l_Gaps_none A B ps ms ca cb dx dy w h1 h2 n1 n2 c1
  · by_cases c2 : (ms.take 8).length = 0
    · exact l_Gaps_half A B ps ms ca cb dx dy w h1 h2 n1 n2 (by omega) c2
    · exact l_Gaps_some A B ps ms ca cb dx dy w h1 h2 n1 n2 (by omega) (by omega) b1 b2
end Go.Proofs.Ytihckoenfklhpaa
