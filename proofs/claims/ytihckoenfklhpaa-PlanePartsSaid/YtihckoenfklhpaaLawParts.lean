/- PlaneParts: the law's function returns true. -/
import Derived.Test.YtihckoenfklhpaaTwoHulls
import Derived.Test.YtihckoenfklhpaaCheckP
namespace Go.Proofs.Ytihckoenfklhpaa
open Go.RowKit Go.Proofs.Gn
theorem sz1 (w : World) (o : Obj) : (w.alloc o).heap.size = w.heap.size + 1 := by
  unfold World.alloc
  exact Array.size_push _
abbrev sm (x y : Int) : Value := .agg #[.int .i8 x, .int .i8 y]
set_option maxRecDepth 100000 in
set_option maxHeartbeats 4000000 in
/-- The first list is empty. -/
theorem l_Parts_none (A B : Option Addr) (ps ms : Pl) (ca cb : Nat) (x y k p1 p2 : Int) (w : World) (h1 : Smalls w A ps) (h2 : Smalls w B ms) (n1 : ps.length ≤ 9223372036854775807) (n2 : ms.length ≤ 9223372036854775807) (h0 : (ps.take 8).length = 0) :
    Calls Try.prog 6 #[.slice A ps.length ca, .slice B ms.length cb, ln x y k, sm p1 p2] w fun e w' => e = .returned (.bool true) ∧ Below w.heap.size w w' := by
  have l0 : ps.length = 0 := by simpa using h0
  obtain ⟨qs, hq⟩ : ∃ qs, ps.take 8 = qs := ⟨_, rfl⟩
  obtain ⟨rs, hr⟩ : ∃ rs, ms.take 8 = rs := ⟨_, rfl⟩
  have PF1 : ∀ W, Up w W → Calls Try.prog 28 #[.slice A ps.length ca, .int .i64 8] W fun e w' => ∃ v, e = .returned v ∧ w'.ownsRow W.heap.size 24 2 v qs.length (cellsPl qs) ∧ Up W w' := fun W hu => l_few8 A ps ca W (smalls_up2 h1 hu) n1 hq
  have PF2 : ∀ W, Up w W → Calls Try.prog 28 #[.slice B ms.length cb, .int .i64 8] W fun e w' => ∃ v, e = .returned v ∧ w'.ownsRow W.heap.size 24 2 v rs.length (cellsPl rs) ∧ Up W w' := fun W hu => l_few8 B ms cb W (smalls_up2 h2 hu) n2 hr
  have PH1 : ∀ (b : Nat) (v : Value) (W : World), W.ownsRow b 24 2 v qs.length (cellsPl qs) → Calls Try.prog 9 #[v] W fun e w' => e = .returned (.tuple #[.slice none 0 0, .int .i64 5]) ∧ Up W w' := fun b v W ho => p_HullOff (by rw [← hq]; exact h0) ho
  have PH2 : ∀ (b : Nat) (v : Value) (W : World), W.ownsRow b 24 2 v rs.length (cellsPl rs) → Calls Try.prog 9 #[v] W fun e w' => ∃ v n, e = .returned (.tuple #[v, .int .i64 n]) ∧ Up W w' := fun b v W ho =>
    p_HullAny (by rw [← hr]; simp; omega) (fun p hp => smalls_bd2 h2 p (List.mem_of_mem_take (by rw [hr]; exact hp))) ho
  have HPF1 := hide PF1
  have HPF2 := hide PF2
  have HPH1 := hide PH1
  have HPH2 := hide PH2
  obtain ⟨N1, e1⟩ : ∃ n, ps.length = n := ⟨_, rfl⟩
  obtain ⟨N2, e2⟩ : ∃ n, ms.length = n := ⟨_, rfl⟩
  rw [e1] at HPF1 l0 ⊢
  rw [e2] at HPF2 ⊢
  subst l0
  clear PF1 PF2 PH1 PH2 h1 h2 hq hr h0 e1 e2 n1 n2
  go_enter Try.func6, Try.ntmps6
  go_wp2_with (first
    | (go_at_call 28; (with_reducible refine (unhide HPF1 _ (by repeat' (first | (with_reducible exact up_refl _) | (with_reducible assumption) | (with_reducible refine up_alloc ?_ _) | (with_reducible refine up_drewN ?_ _) | (with_reducible refine up_drew ?_) | (with_reducible refine up_set ?_ (by first | (simp; done) | (simp; omega) | omega) _) | (refine up_trans ?_ (by with_reducible assumption))))).mono ?_); rintro e w1 ⟨v, rfl, hown, hb1⟩; have HO1 := hide hown; clear hown)
    | (go_at_call 28; (with_reducible refine (unhide HPF2 _ (by repeat' (first | (with_reducible exact up_refl _) | (with_reducible assumption) | (with_reducible refine up_alloc ?_ _) | (with_reducible refine up_drewN ?_ _) | (with_reducible refine up_drew ?_) | (with_reducible refine up_set ?_ (by first | (simp; done) | (simp; omega) | omega) _) | (refine up_trans ?_ (by with_reducible assumption))))).mono ?_); rintro e w3 ⟨v3, rfl, hown, hb3⟩; have HO2 := hide hown; clear hown)
    | (go_at_call 9; (with_reducible refine (unhide HPH1 _ _ _ (unhide HO1)).mono ?_); rintro e w2 ⟨rfl, hb2⟩)
    | (go_at_call 9; (with_reducible refine (unhide HPH2 _ _ _ (unhide HO2)).mono ?_); rintro e w4 ⟨v4, n4, rfl, hb4⟩)
    | (go_at_call 8; refine (l_works _).mono ?_; rintro e w5 ⟨rfl, hb5⟩))
  exact bodyPost_ret (v := .bool true) (by simp [results, Try.results6, go_sem]) rfl ⟨rfl, (by repeat' (first | (with_reducible exact up_refl _) | (with_reducible assumption) | (with_reducible refine up_alloc ?_ _) | (with_reducible refine up_drewN ?_ _) | (with_reducible refine up_drew ?_) | (with_reducible refine up_set ?_ (by first | (simp; done) | (simp; omega) | omega) _) | (refine up_trans ?_ (by with_reducible assumption))))⟩
set_option maxRecDepth 100000 in
set_option maxHeartbeats 4000000 in
/-- The second list is empty. -/
theorem l_Parts_half (A B : Option Addr) (ps ms : Pl) (ca cb : Nat) (x y k p1 p2 : Int) (w : World) (h1 : Smalls w A ps) (h2 : Smalls w B ms) (n1 : ps.length ≤ 9223372036854775807) (n2 : ms.length ≤ 9223372036854775807) (h0 : 0 < (ps.take 8).length) (h0' : (ms.take 8).length = 0) :
    Calls Try.prog 6 #[.slice A ps.length ca, .slice B ms.length cb, ln x y k, sm p1 p2] w fun e w' => e = .returned (.bool true) ∧ Below w.heap.size w w' := by
  have l0 : ms.length = 0 := by simpa using h0'
  have l1 : ((ps.length : Int) == 0) = false := by rw [List.length_take] at h0; exact beq_false_of_ne (by omega)
  obtain ⟨qs, hq⟩ : ∃ qs, ps.take 8 = qs := ⟨_, rfl⟩
  obtain ⟨rs, hr⟩ : ∃ rs, ms.take 8 = rs := ⟨_, rfl⟩
  have PF1 : ∀ W, Up w W → Calls Try.prog 28 #[.slice A ps.length ca, .int .i64 8] W fun e w' => ∃ v, e = .returned v ∧ w'.ownsRow W.heap.size 24 2 v qs.length (cellsPl qs) ∧ Up W w' := fun W hu => l_few8 A ps ca W (smalls_up2 h1 hu) n1 hq
  have PF2 : ∀ W, Up w W → Calls Try.prog 28 #[.slice B ms.length cb, .int .i64 8] W fun e w' => ∃ v, e = .returned v ∧ w'.ownsRow W.heap.size 24 2 v rs.length (cellsPl rs) ∧ Up W w' := fun W hu => l_few8 B ms cb W (smalls_up2 h2 hu) n2 hr
  have PH2 : ∀ (b : Nat) (v : Value) (W : World), W.ownsRow b 24 2 v rs.length (cellsPl rs) → Calls Try.prog 9 #[v] W fun e w' => e = .returned (.tuple #[.slice none 0 0, .int .i64 5]) ∧ Up W w' := fun b v W ho => p_HullOff (by rw [← hr]; exact h0') ho
  have PH1 : ∀ (b : Nat) (v : Value) (W : World), W.ownsRow b 24 2 v qs.length (cellsPl qs) → Calls Try.prog 9 #[v] W fun e w' => ∃ g c, e = .returned (.tuple #[.slice (some ⟨g, 0, none⟩) (Gx.hullF qs).length c, .int .i64 0]) ∧ Up W w' := fun b v W ho =>
    (p_HullFew (by rw [← hq]; exact h0) (by rw [← hq]; simp; omega) (fun p hp => smalls_bd2 h1 p (List.mem_of_mem_take (by rw [hq]; exact hp))) ho).mono fun e w' ⟨g, c, he, _, hu⟩ => ⟨g, c, he, hu⟩
  have HPF1 := hide PF1
  have HPF2 := hide PF2
  have HPH1 := hide PH1
  have HPH2 := hide PH2
  obtain ⟨N1, e1⟩ : ∃ n, ps.length = n := ⟨_, rfl⟩
  obtain ⟨N2, e2⟩ : ∃ n, ms.length = n := ⟨_, rfl⟩
  rw [e1] at HPF1 l1 ⊢
  rw [e2] at HPF2 l0 ⊢
  subst l0
  clear PF1 PF2 PH1 PH2 h1 h2 hq hr h0 h0' e1 e2 n1 n2
  go_enter Try.func6, Try.ntmps6
  go_wp2_with (first
    | (go_at_call 28; (with_reducible refine (unhide HPF1 _ (by repeat' (first | (with_reducible exact up_refl _) | (with_reducible assumption) | (with_reducible refine up_alloc ?_ _) | (with_reducible refine up_drewN ?_ _) | (with_reducible refine up_drew ?_) | (with_reducible refine up_set ?_ (by first | (simp; done) | (simp; omega) | omega) _) | (refine up_trans ?_ (by with_reducible assumption))))).mono ?_); rintro e w1 ⟨v, rfl, hown, hb1⟩; have HO1 := hide hown; clear hown)
    | (go_at_call 28; (with_reducible refine (unhide HPF2 _ (by repeat' (first | (with_reducible exact up_refl _) | (with_reducible assumption) | (with_reducible refine up_alloc ?_ _) | (with_reducible refine up_drewN ?_ _) | (with_reducible refine up_drew ?_) | (with_reducible refine up_set ?_ (by first | (simp; done) | (simp; omega) | omega) _) | (refine up_trans ?_ (by with_reducible assumption))))).mono ?_); rintro e w3 ⟨v3, rfl, hown, hb3⟩; have HO2 := hide hown; clear hown)
    | (go_at_call 9; (with_reducible refine (unhide HPH1 _ _ _ (unhide HO1)).mono ?_); rintro e w2 ⟨g2, c2, rfl, hb2⟩)
    | (go_at_call 9; (with_reducible refine (unhide HPH2 _ _ _ (unhide HO2)).mono ?_); rintro e w4 ⟨rfl, hb4⟩)
    | (go_at_call 8; refine (l_works _).mono ?_; rintro e w5 ⟨rfl, hb5⟩))
  exact bodyPost_ret (v := .bool true) (by simp [results, Try.results6, go_sem]) rfl ⟨rfl, (by repeat' (first | (with_reducible exact up_refl _) | (with_reducible assumption) | (with_reducible refine up_alloc ?_ _) | (with_reducible refine up_drewN ?_ _) | (with_reducible refine up_drew ?_) | (with_reducible refine up_set ?_ (by first | (simp; done) | (simp; omega) | omega) _) | (refine up_trans ?_ (by with_reducible assumption))))⟩
set_option maxRecDepth 100000 in
set_option maxHeartbeats 40000000 in
theorem l_Parts_some (A B : Option Addr) (ps ms : Pl) (ca cb : Nat) (x y k p1 p2 : Int) (w : World) (h1 : Smalls w A ps) (h2 : Smalls w B ms) (n1 : ps.length ≤ 9223372036854775807) (n2 : ms.length ≤ 9223372036854775807) (h0 : 0 < (ps.take 8).length) (h0' : 0 < (ms.take 8).length)
    (b1 : -128 ≤ p1 ∧ p1 ≤ 127) (b2 : -128 ≤ p2 ∧ p2 ≤ 127) :
    Calls Try.prog 6 #[.slice A ps.length ca, .slice B ms.length cb, ln x y k, sm p1 p2] w fun e w' => e = .returned (.bool true) ∧ Below w.heap.size w w' := by
  obtain ⟨qs, hq⟩ : ∃ qs, ps.take 8 = qs := ⟨_, rfl⟩
  obtain ⟨rs, hr⟩ : ∃ rs, ms.take 8 = rs := ⟨_, rfl⟩
  rw [hq] at h0
  rw [hr] at h0'
  have lq : qs.length ≤ 8 := by rw [← hq]; simp; omega
  have lr : rs.length ≤ 8 := by rw [← hr]; simp; omega
  have bq := fun p (hp : p ∈ qs) => smalls_bd2 h1 p (List.mem_of_mem_take (by rw [hq]; exact hp))
  have br := fun p (hp : p ∈ rs) => smalls_bd2 h2 p (List.mem_of_mem_take (by rw [hr]; exact hp))
  have ha := hv_few h0 lq bq
  have hb := hv_few h0' lr br
  obtain ⟨a, hae⟩ : ∃ a, Gx.hullF qs = a := ⟨_, rfl⟩
  obtain ⟨b, hbe⟩ : ∃ a, Gx.hullF rs = a := ⟨_, rfl⟩
  have PF1 : ∀ W, Up w W → Calls Try.prog 28 #[.slice A ps.length ca, .int .i64 8] W fun e w' => ∃ v, e = .returned v ∧ w'.ownsRow W.heap.size 24 2 v qs.length (cellsPl qs) ∧ Up W w' := fun W hu => l_few8 A ps ca W (smalls_up2 h1 hu) n1 hq
  have PF2 : ∀ W, Up w W → Calls Try.prog 28 #[.slice B ms.length cb, .int .i64 8] W fun e w' => ∃ v, e = .returned v ∧ w'.ownsRow W.heap.size 24 2 v rs.length (cellsPl rs) ∧ Up W w' := fun W hu => l_few8 B ms cb W (smalls_up2 h2 hu) n2 hr
  have PH1 : ∀ (B : Nat) (v : Value) (W : World), W.ownsRow B 24 2 v qs.length (cellsPl qs) → Calls Try.prog 9 #[v] W fun e w' => ∃ g c, e = .returned (.tuple #[.slice (some ⟨g, 0, none⟩) a.length c, .int .i64 0]) ∧ At w' g 0 c a ∧ Up W w' := fun B v W ho => by
    rw [← hae]; exact p_HullFew h0 lq bq ho
  have PH2 : ∀ (B : Nat) (v : Value) (W : World), W.ownsRow B 24 2 v rs.length (cellsPl rs) → Calls Try.prog 9 #[v] W fun e w' => ∃ g c, e = .returned (.tuple #[.slice (some ⟨g, 0, none⟩) b.length c, .int .i64 0]) ∧ At w' g 0 c b ∧ Up W w' := fun B v W ho => by
    rw [← hbe]; exact p_HullFew h0' lr br ho
  rw [hae] at ha
  rw [hbe] at hb
  clear hae hbe h0 h0' lq lr bq br hq hr h1 h2 n1 n2
  have ho : okp p1 p2 = true := by unfold okp okc; simp; omega
  obtain ⟨n, hn⟩ := gap_ex ha hb
  obtain ⟨i1, hi1⟩ : ∃ i : Bool, i = true ↔ Gx.Cont a (p1, p2) := by by_cases c : Gx.Cont a (p1, p2); exact ⟨true, by simp [c]⟩; exact ⟨false, by simp [c]⟩
  obtain ⟨i2, hi2⟩ : ∃ i : Bool, i = true ↔ Gx.Cont b (p1, p2) := by by_cases c : Gx.Cont b (p1, p2); exact ⟨true, by simp [c]⟩; exact ⟨false, by simp [c]⟩
  have PI1 : ∀ (g c : Nat) (W : World), At W g 0 c a → Calls Try.prog 14 #[.slice (some ⟨g, 0, none⟩) a.length c, pt p1 p2] W fun e w' => e = .returned (.tuple #[.bool i1, .int .i64 0]) ∧ Up W w' := fun g c W hA =>
    (p_Inside g 0 a c p1 p2 W hA.pt ha.pos ha.len ha.ok hA.room hA.most ha.is ho).mono fun e w' ⟨⟨v, he, hv⟩, hu⟩ => ⟨by
      rw [he, show v = i1 from by have k := hv.trans hi1.symm; cases v <;> cases i1 <;> simp at k ⊢], hu⟩
  have PI2 : ∀ (g c : Nat) (W : World), At W g 0 c b → Calls Try.prog 14 #[.slice (some ⟨g, 0, none⟩) b.length c, pt p1 p2] W fun e w' => e = .returned (.tuple #[.bool i2, .int .i64 0]) ∧ Up W w' := fun g c W hA =>
    (p_Inside g 0 b c p1 p2 W hA.pt hb.pos hb.len hb.ok hA.room hA.most hb.is ho).mono fun e w' ⟨⟨v, he, hv⟩, hu⟩ => ⟨by
      rw [he, show v = i2 from by have k := hv.trans hi2.symm; cases v <;> cases i2 <;> simp at k ⊢], hu⟩
  have both : i1 = true → i2 = true → Gx.Diffs a b (0, 0) := fun c1 c2 w => by
    obtain ⟨x, hx, e⟩ := Gx.sc_of_cont ha.poly.toIsH (hi1.1 c1) w
    obtain ⟨y, hy, f⟩ := Gx.sc_of_cont hb.poly.toIsH (hi2.1 c2) (Gx.ng w)
    refine ⟨x, hx, y, hy, ?_⟩
    rw [Gx.crs_sb]
    unfold Gx.crs at e f ⊢
    unfold Gx.ng at f
    simp only at e f ⊢
    grind
  have PM1 : ∀ {m : Bool}, (m = true ↔ Gx.Diffs a b (0, 0)) → ∀ (ga ca gb cb : Nat) (W : World), At W ga 0 ca a → At W gb 0 cb b → Calls Try.prog 20 #[.slice (some ⟨ga, 0, none⟩) a.length ca, .slice (some ⟨gb, 0, none⟩) b.length cb] W fun e w' => e = .returned (.tuple #[.bool m, .int .i64 0]) ∧ Up W w' := fun hm ga ca gb cb W h1 h2 => p_Meet ha hb W h1 h2 hm
  have PM2 : ∀ {m : Bool}, (m = true ↔ Gx.Diffs a b (0, 0)) → ∀ (ga ca gb cb : Nat) (W : World), At W ga 0 ca a → At W gb 0 cb b → Calls Try.prog 20 #[.slice (some ⟨gb, 0, none⟩) b.length cb, .slice (some ⟨ga, 0, none⟩) a.length ca] W fun e w' => e = .returned (.tuple #[.bool m, .int .i64 0]) ∧ Up W w' := fun hm ga ca gb cb W h1 h2 => p_Meet hb ha W h2 h1 (hm.trans Gx.diffs_swap)
  have PG1 : ∀ (ga ca gb cb : Nat) (W : World), At W ga 0 ca a → At W gb 0 cb b → Calls Try.prog 22 #[.slice (some ⟨ga, 0, none⟩) a.length ca, .slice (some ⟨gb, 0, none⟩) b.length cb] W fun e w' => e = .returned (.tuple #[.int .i64 n, .int .i64 0]) ∧ Up W w' := fun ga ca gb cb W h1 h2 => p_Gap ha hb W h1 h2 hn
  have PG2 : ∀ (ga ca gb cb : Nat) (W : World), At W ga 0 ca a → At W gb 0 cb b → Calls Try.prog 22 #[.slice (some ⟨gb, 0, none⟩) b.length cb, .slice (some ⟨ga, 0, none⟩) a.length ca] W fun e w' => e = .returned (.tuple #[.int .i64 n, .int .i64 0]) ∧ Up W w' := fun ga ca gb cb W h1 h2 => p_Gap hb ha W h2 h1 hn.swap
  have hz := hn.zero
  have PP : ∀ (ga ca gb cb : Nat) (W : World), At W ga 0 ca a → At W gb 0 cb b → Calls Try.prog 26 #[.slice (some ⟨ga, 0, none⟩) a.length ca, .slice (some ⟨gb, 0, none⟩) b.length cb] W fun e w' => ∃ r, e = .returned r ∧ PartIs a b r ∧ Up W w' := fun ga ca gb cb W h1 h2 => p_Part ha hb W h1 h2
  have PK : ∀ (x y k : Int) (ga ca gb cb : Nat) (W : World), At W ga 0 ca a → At W gb 0 cb b → Calls Try.prog 24 #[.slice (some ⟨ga, 0, none⟩) a.length ca, .slice (some ⟨gb, 0, none⟩) b.length cb, ln x y k] W fun e w' => e = .returned (.int .i64 (cpV a b x y k)) ∧ Up W w' := fun x y k ga ca gb cb W h1 h2 => p_CheckPart ha hb W h1 h2 x y k
  have e1 : IntKind.i64.wrap p1 = p1 := IntWalk.i64_in _ ⟨by omega, by omega⟩
  have e2 : IntKind.i64.wrap p2 = p2 := IntWalk.i64_in _ ⟨by omega, by omega⟩
  have BX := hide (bx_new w [.int .i64 x, .int .i64 y, .int .i64 k] 39)
  have by0 := bx_new (w.alloc (.cells #[.int .i64 x, .int .i64 y, .int .i64 k] 39)) [.int .i8 p1, .int .i8 p2] 53
  rw [show (w.alloc (.cells #[.int .i64 x, .int .i64 y, .int .i64 k] 39)).heap.size = w.heap.size + 1 from sz1 _ _] at by0
  have BY := hide by0
  clear by0
  have HPF1 := hide PF1
  have HPF2 := hide PF2
  have HPH1 := hide PH1
  have HPH2 := hide PH2
  have HPG1 := hide PG1
  have HPG2 := hide PG2
  have HPI1 := hide PI1
  have HPI2 := hide PI2
  obtain ⟨N1, f1⟩ : ∃ n, ps.length = n := ⟨_, rfl⟩
  obtain ⟨N2, f2⟩ : ∃ n, ms.length = n := ⟨_, rfl⟩
  obtain ⟨n1, g1⟩ : ∃ n, a.length = n := ⟨_, rfl⟩
  obtain ⟨n2, g2⟩ : ∃ n, b.length = n := ⟨_, rfl⟩
  rw [f1] at HPF1 ⊢
  rw [f2] at HPF2 ⊢
  rw [g1] at HPH1 HPG1 HPG2 HPI1 PM1 PM2 PP PK
  rw [g2] at HPH2 HPG1 HPG2 HPI2 PM1 PM2 PP PK
  have hva := ha
  clear PF1 PF2 PH1 PH2 PG1 PG2 PI1 PI2 ha hb ho hi1 hi2 hn b1 b2 f1 f2 g1 g2
  by_cases d : Gx.Diffs a b (0, 0)
  · have HPM1 := hide (PM1 (m := true) (by simp [d]))
    have HPM2 := hide (PM2 (m := true) (by simp [d]))
    obtain rfl : n = 0 := hz.2 d
    have PP' : ∀ (ga ca gb cb : Nat) (W : World), At W ga 0 ca a → At W gb 0 cb b → Calls Try.prog 26 #[.slice (some ⟨ga, 0, none⟩) n1 ca, .slice (some ⟨gb, 0, none⟩) n2 cb] W fun e w' => e = .returned (.tuple #[ln 0 0 0, .int .i64 5]) ∧ Up W w' := fun ga ca gb cb W h1 h2 =>
      (PP ga ca gb cb W h1 h2).mono fun e w' ⟨r, he, hr, hu⟩ => ⟨by rw [he]; rcases hr with ⟨_, rfl⟩ | ⟨c, _⟩; rfl; exact absurd d c, hu⟩
    have HPP := hide PP'
    have cn : (cpV a b x y k == 0) = false := by simpa using cp_no d x y k
    have PKo := PK x y k
    obtain ⟨V, hV⟩ : ∃ V, cpV a b x y k = V := ⟨_, rfl⟩
    rw [hV] at cn PKo
    have HPK := hide PKo
    clear PM1 PM2 PP PP' PK PKo hV d both hz hva
    go_enter Try.func6, Try.ntmps6
    go_upto_region 5 with (first
      | (go_at_call 28; (with_reducible refine (unhide HPF1 _ (by repeat' (first | (with_reducible exact up_refl _) | (with_reducible assumption) | (with_reducible refine up_alloc ?_ _) | (with_reducible refine up_drewN ?_ _) | (with_reducible refine up_drew ?_) | (with_reducible refine up_set ?_ (by first | (simp; done) | (simp; omega) | omega) _) | (refine up_trans ?_ (by with_reducible assumption))))).mono ?_); rintro e w1 ⟨v, rfl, hown, hb1⟩; have HO1 := hide hown; clear hown)
      | (go_at_call 28; (with_reducible refine (unhide HPF2 _ (by repeat' (first | (with_reducible exact up_refl _) | (with_reducible assumption) | (with_reducible refine up_alloc ?_ _) | (with_reducible refine up_drewN ?_ _) | (with_reducible refine up_drew ?_) | (with_reducible refine up_set ?_ (by first | (simp; done) | (simp; omega) | omega) _) | (refine up_trans ?_ (by with_reducible assumption))))).mono ?_); rintro e w3 ⟨v3, rfl, hown, hb3⟩; have HO2 := hide hown; clear hown)
      | (go_at_call 9; (with_reducible refine (unhide HPH1 _ _ _ (unhide HO1)).mono ?_); rintro e w2 ⟨ga, ka, rfl, hA, hb2⟩; have HA0 := hide hA; clear hA)
      | (go_at_call 9; (with_reducible refine (unhide HPH2 _ _ _ (unhide HO2)).mono ?_); rintro e w4 ⟨gb, kb, rfl, hB, hb4⟩; have HB := hide hB; clear hB))
    have HA := hide ((unhide HA0).up (show Up w2 w4 from (by repeat' (first | (with_reducible exact up_refl _) | (with_reducible assumption) | (with_reducible refine up_alloc ?_ _) | (with_reducible refine up_drewN ?_ _) | (with_reducible refine up_drew ?_) | (with_reducible refine up_set ?_ (by first | (simp; done) | (simp; omega) | omega) _) | (refine up_trans ?_ (by with_reducible assumption))))))
    have hU : Up ((w.alloc (.cells #[.int .i64 x, .int .i64 y, .int .i64 k] 39)).alloc (.cells #[.int .i8 p1, .int .i8 p2] 53)) w4 := (by repeat' (first | (with_reducible exact up_refl _) | (with_reducible assumption) | (with_reducible refine up_alloc ?_ _) | (with_reducible refine up_drewN ?_ _) | (with_reducible refine up_drew ?_) | (with_reducible refine up_set ?_ (by first | (simp; done) | (simp; omega) | omega) _) | (refine up_trans ?_ (by with_reducible assumption))))
    have hW : Up w w4 := (by repeat' (first | (with_reducible exact up_refl _) | (with_reducible assumption) | (with_reducible refine up_alloc ?_ _) | (with_reducible refine up_drewN ?_ _) | (with_reducible refine up_drew ?_) | (with_reducible refine up_set ?_ (by first | (simp; done) | (simp; omega) | omega) _) | (refine up_trans ?_ (by with_reducible assumption))))
    have BZ := bx_up (bx_alloc (unhide BX) _) hU
    have z0 := (bx3 BZ).1
    have z1 := (bx3 BZ).2.1
    have z2 := (bx3 BZ).2.2
    have BZ2 := bx_up (unhide BY) hU
    have y0 : w4.cell? ⟨w.heap.size + 1, 0, none⟩ = some (.int .i8 p1) := (bx2 BZ2).1
    have y1 : w4.cell? ⟨w.heap.size + 1, 1, none⟩ = some (.int .i8 p2) := (bx2 BZ2).2
    clear BZ BZ2 BX BY hU HPF1 HPF2 HPH1 HPH2 HO1 HO2 HA0 hb1 hb2 hb3 hb4
    go_wp2_with (first
      | (go_at_call 20; (with_reducible refine (unhide HPM1 _ _ _ _ _ ((unhide HA).up (by repeat' (first | (with_reducible exact up_refl _) | (with_reducible assumption) | (with_reducible refine up_alloc ?_ _) | (with_reducible refine up_drewN ?_ _) | (with_reducible refine up_drew ?_) | (with_reducible refine up_set ?_ (by first | (simp; done) | (simp; omega) | omega) _) | (refine up_trans ?_ (by with_reducible assumption))))) ((unhide HB).up (by repeat' (first | (with_reducible exact up_refl _) | (with_reducible assumption) | (with_reducible refine up_alloc ?_ _) | (with_reducible refine up_drewN ?_ _) | (with_reducible refine up_drew ?_) | (with_reducible refine up_set ?_ (by first | (simp; done) | (simp; omega) | omega) _) | (refine up_trans ?_ (by with_reducible assumption)))))).mono ?_); rintro e w5 ⟨rfl, hb5⟩)
      | (go_at_call 20; (with_reducible refine (unhide HPM2 _ _ _ _ _ ((unhide HA).up (by repeat' (first | (with_reducible exact up_refl _) | (with_reducible assumption) | (with_reducible refine up_alloc ?_ _) | (with_reducible refine up_drewN ?_ _) | (with_reducible refine up_drew ?_) | (with_reducible refine up_set ?_ (by first | (simp; done) | (simp; omega) | omega) _) | (refine up_trans ?_ (by with_reducible assumption))))) ((unhide HB).up (by repeat' (first | (with_reducible exact up_refl _) | (with_reducible assumption) | (with_reducible refine up_alloc ?_ _) | (with_reducible refine up_drewN ?_ _) | (with_reducible refine up_drew ?_) | (with_reducible refine up_set ?_ (by first | (simp; done) | (simp; omega) | omega) _) | (refine up_trans ?_ (by with_reducible assumption)))))).mono ?_); rintro e w6 ⟨rfl, hb6⟩)
      | (go_at_call 22; (with_reducible refine (unhide HPG1 _ _ _ _ _ ((unhide HA).up (by repeat' (first | (with_reducible exact up_refl _) | (with_reducible assumption) | (with_reducible refine up_alloc ?_ _) | (with_reducible refine up_drewN ?_ _) | (with_reducible refine up_drew ?_) | (with_reducible refine up_set ?_ (by first | (simp; done) | (simp; omega) | omega) _) | (refine up_trans ?_ (by with_reducible assumption))))) ((unhide HB).up (by repeat' (first | (with_reducible exact up_refl _) | (with_reducible assumption) | (with_reducible refine up_alloc ?_ _) | (with_reducible refine up_drewN ?_ _) | (with_reducible refine up_drew ?_) | (with_reducible refine up_set ?_ (by first | (simp; done) | (simp; omega) | omega) _) | (refine up_trans ?_ (by with_reducible assumption)))))).mono ?_); rintro e w7 ⟨rfl, hb7⟩)
      | (go_at_call 22; (with_reducible refine (unhide HPG2 _ _ _ _ _ ((unhide HA).up (by repeat' (first | (with_reducible exact up_refl _) | (with_reducible assumption) | (with_reducible refine up_alloc ?_ _) | (with_reducible refine up_drewN ?_ _) | (with_reducible refine up_drew ?_) | (with_reducible refine up_set ?_ (by first | (simp; done) | (simp; omega) | omega) _) | (refine up_trans ?_ (by with_reducible assumption))))) ((unhide HB).up (by repeat' (first | (with_reducible exact up_refl _) | (with_reducible assumption) | (with_reducible refine up_alloc ?_ _) | (with_reducible refine up_drewN ?_ _) | (with_reducible refine up_drew ?_) | (with_reducible refine up_set ?_ (by first | (simp; done) | (simp; omega) | omega) _) | (refine up_trans ?_ (by with_reducible assumption)))))).mono ?_); rintro e w8 ⟨rfl, hb8⟩)
      | (go_at_call 26; (with_reducible refine (unhide HPP _ _ _ _ _ ((unhide HA).up (by repeat' (first | (with_reducible exact up_refl _) | (with_reducible assumption) | (with_reducible refine up_alloc ?_ _) | (with_reducible refine up_drewN ?_ _) | (with_reducible refine up_drew ?_) | (with_reducible refine up_set ?_ (by first | (simp; done) | (simp; omega) | omega) _) | (refine up_trans ?_ (by with_reducible assumption))))) ((unhide HB).up (by repeat' (first | (with_reducible exact up_refl _) | (with_reducible assumption) | (with_reducible refine up_alloc ?_ _) | (with_reducible refine up_drewN ?_ _) | (with_reducible refine up_drew ?_) | (with_reducible refine up_set ?_ (by first | (simp; done) | (simp; omega) | omega) _) | (refine up_trans ?_ (by with_reducible assumption)))))).mono ?_); rintro e w9 ⟨rfl, hb9⟩; have hu9 : Up w4 w9 := (by repeat' (first | (with_reducible exact up_refl _) | (with_reducible assumption) | (with_reducible refine up_alloc ?_ _) | (with_reducible refine up_drewN ?_ _) | (with_reducible refine up_drew ?_) | (with_reducible refine up_set ?_ (by first | (simp; done) | (simp; omega) | omega) _) | (refine up_trans ?_ (by with_reducible assumption)))); have c0 := fun o => alloc_cell o (up_cell hu9 z0); have c1 := fun o => alloc_cell o (up_cell hu9 z1); have c2 := fun o => alloc_cell o (up_cell hu9 z2))
      | (go_at_call 24; (with_reducible refine (unhide HPK _ _ _ _ _ ((unhide HA).up (by repeat' (first | (with_reducible exact up_refl _) | (with_reducible assumption) | (with_reducible refine up_alloc ?_ _) | (with_reducible refine up_drewN ?_ _) | (with_reducible refine up_drew ?_) | (with_reducible refine up_set ?_ (by first | (simp; done) | (simp; omega) | omega) _) | (refine up_trans ?_ (by with_reducible assumption))))) ((unhide HB).up (by repeat' (first | (with_reducible exact up_refl _) | (with_reducible assumption) | (with_reducible refine up_alloc ?_ _) | (with_reducible refine up_drewN ?_ _) | (with_reducible refine up_drew ?_) | (with_reducible refine up_set ?_ (by first | (simp; done) | (simp; omega) | omega) _) | (refine up_trans ?_ (by with_reducible assumption)))))).mono ?_); rintro e w10 ⟨rfl, hb10⟩; have hu10 : Up w4 w10 := (by repeat' (first | (with_reducible exact up_refl _) | (with_reducible assumption) | (with_reducible refine up_alloc ?_ _) | (with_reducible refine up_drewN ?_ _) | (with_reducible refine up_drew ?_) | (with_reducible refine up_set ?_ (by first | (simp; done) | (simp; omega) | omega) _) | (refine up_trans ?_ (by with_reducible assumption)))); have d0 := up_cell hu10 y0; have d1 := up_cell hu10 y1)
      | (go_at_call 14; (with_reducible refine (unhide HPI1 _ _ _ ((unhide HA).up (by repeat' (first | (with_reducible exact up_refl _) | (with_reducible assumption) | (with_reducible refine up_alloc ?_ _) | (with_reducible refine up_drewN ?_ _) | (with_reducible refine up_drew ?_) | (with_reducible refine up_set ?_ (by first | (simp; done) | (simp; omega) | omega) _) | (refine up_trans ?_ (by with_reducible assumption)))))).mono ?_); rintro e w11 ⟨rfl, hb11⟩; have j0 : w11.cell? ⟨w10.heap.size, 0, none⟩ = some (.int .i64 p1) := up_cell hb11 (by go_cell); have j1 : w11.cell? ⟨w10.heap.size, 1, none⟩ = some (.int .i64 p2) := up_cell hb11 (by go_cell))
      | (go_at_call 14; (with_reducible refine (unhide HPI2 _ _ _ ((unhide HB).up (by repeat' (first | (with_reducible exact up_refl _) | (with_reducible assumption) | (with_reducible refine up_alloc ?_ _) | (with_reducible refine up_drewN ?_ _) | (with_reducible refine up_drew ?_) | (with_reducible refine up_set ?_ (by first | (simp; done) | (simp; omega) | omega) _) | (refine up_trans ?_ (by with_reducible assumption)))))).mono ?_); rintro e w12 ⟨rfl, hb12⟩)
      | (go_at_call 8; refine (l_works _).mono ?_; rintro e w13 ⟨rfl, hb13⟩))
    exact bodyPost_ret (v := .bool true) (by simp [results, Try.results6, go_sem]) rfl ⟨rfl, (by repeat' (first | (with_reducible exact up_refl _) | (with_reducible assumption) | (with_reducible refine up_alloc ?_ _) | (with_reducible refine up_drewN ?_ _) | (with_reducible refine up_drew ?_) | (with_reducible refine up_set ?_ (by first | (simp; done) | (simp; omega) | omega) _) | (refine up_trans ?_ (by with_reducible assumption))))⟩
  · have HPM1 := hide (PM1 (m := false) (by simp [d]))
    have HPM2 := hide (PM2 (m := false) (by simp [d]))
    have nz : (n == 0) = false := beq_false_of_ne fun c => d (hz.1 c)
    have PP' : ∀ (ga ca gb cb : Nat) (W : World), At W ga 0 ca a → At W gb 0 cb b → Calls Try.prog 26 #[.slice (some ⟨ga, 0, none⟩) n1 ca, .slice (some ⟨gb, 0, none⟩) n2 cb] W fun e w' => ∃ x y k : Int, e = .returned (.tuple #[ln x y k, .int .i64 0]) ∧ cpV a b x y k = 0 ∧ Up W w' := fun ga ca gb cb W h1 h2 =>
      (PP ga ca gb cb W h1 h2).mono fun e w' ⟨r, he, hr, hu⟩ => by
        rcases hr with ⟨c, _⟩ | ⟨_, v, rfl, h3, h4⟩
        · exact absurd c d
        · exact ⟨_, _, _, he, cp_yes hva h3 h4.1 h4.2, hu⟩
    have HPP := hide PP'
    have PKo : ∀ (x y k : Int), cpV a b x y k = 0 → ∀ (ga ca gb cb : Nat) (W : World), At W ga 0 ca a → At W gb 0 cb b → Calls Try.prog 24 #[.slice (some ⟨ga, 0, none⟩) n1 ca, .slice (some ⟨gb, 0, none⟩) n2 cb, ln x y k] W fun e w' => e = .returned (.int .i64 0) ∧ Up W w' := fun x y k h ga ca gb cb W h1 h2 => by
      have q := PK x y k ga ca gb cb W h1 h2
      rw [h] at q
      exact q
    have HPK := hide PKo
    have BOTH := hide (fun c1 c2 => d (both c1 c2))
    clear PM1 PM2 PP PP' PK PKo d both hz hva
    go_enter Try.func6, Try.ntmps6
    go_upto_region 5 with (first
      | (go_at_call 28; (with_reducible refine (unhide HPF1 _ (by repeat' (first | (with_reducible exact up_refl _) | (with_reducible assumption) | (with_reducible refine up_alloc ?_ _) | (with_reducible refine up_drewN ?_ _) | (with_reducible refine up_drew ?_) | (with_reducible refine up_set ?_ (by first | (simp; done) | (simp; omega) | omega) _) | (refine up_trans ?_ (by with_reducible assumption))))).mono ?_); rintro e w1 ⟨v, rfl, hown, hb1⟩; have HO1 := hide hown; clear hown)
      | (go_at_call 28; (with_reducible refine (unhide HPF2 _ (by repeat' (first | (with_reducible exact up_refl _) | (with_reducible assumption) | (with_reducible refine up_alloc ?_ _) | (with_reducible refine up_drewN ?_ _) | (with_reducible refine up_drew ?_) | (with_reducible refine up_set ?_ (by first | (simp; done) | (simp; omega) | omega) _) | (refine up_trans ?_ (by with_reducible assumption))))).mono ?_); rintro e w3 ⟨v3, rfl, hown, hb3⟩; have HO2 := hide hown; clear hown)
      | (go_at_call 9; (with_reducible refine (unhide HPH1 _ _ _ (unhide HO1)).mono ?_); rintro e w2 ⟨ga, ka, rfl, hA, hb2⟩; have HA0 := hide hA; clear hA)
      | (go_at_call 9; (with_reducible refine (unhide HPH2 _ _ _ (unhide HO2)).mono ?_); rintro e w4 ⟨gb, kb, rfl, hB, hb4⟩; have HB := hide hB; clear hB))
    have HA := hide ((unhide HA0).up (show Up w2 w4 from (by repeat' (first | (with_reducible exact up_refl _) | (with_reducible assumption) | (with_reducible refine up_alloc ?_ _) | (with_reducible refine up_drewN ?_ _) | (with_reducible refine up_drew ?_) | (with_reducible refine up_set ?_ (by first | (simp; done) | (simp; omega) | omega) _) | (refine up_trans ?_ (by with_reducible assumption))))))
    have hU : Up ((w.alloc (.cells #[.int .i64 x, .int .i64 y, .int .i64 k] 39)).alloc (.cells #[.int .i8 p1, .int .i8 p2] 53)) w4 := (by repeat' (first | (with_reducible exact up_refl _) | (with_reducible assumption) | (with_reducible refine up_alloc ?_ _) | (with_reducible refine up_drewN ?_ _) | (with_reducible refine up_drew ?_) | (with_reducible refine up_set ?_ (by first | (simp; done) | (simp; omega) | omega) _) | (refine up_trans ?_ (by with_reducible assumption))))
    have hW : Up w w4 := (by repeat' (first | (with_reducible exact up_refl _) | (with_reducible assumption) | (with_reducible refine up_alloc ?_ _) | (with_reducible refine up_drewN ?_ _) | (with_reducible refine up_drew ?_) | (with_reducible refine up_set ?_ (by first | (simp; done) | (simp; omega) | omega) _) | (refine up_trans ?_ (by with_reducible assumption))))
    have BZ := bx_up (bx_alloc (unhide BX) _) hU
    have z0 := (bx3 BZ).1
    have z1 := (bx3 BZ).2.1
    have z2 := (bx3 BZ).2.2
    have BZ2 := bx_up (unhide BY) hU
    have y0 : w4.cell? ⟨w.heap.size + 1, 0, none⟩ = some (.int .i8 p1) := (bx2 BZ2).1
    have y1 : w4.cell? ⟨w.heap.size + 1, 1, none⟩ = some (.int .i8 p2) := (bx2 BZ2).2
    clear BZ BZ2 BX BY hU HPF1 HPF2 HPH1 HPH2 HO1 HO2 HA0 hb1 hb2 hb3 hb4
    go_upto_region 17 with (first
      | (go_at_call 20; (with_reducible refine (unhide HPM1 _ _ _ _ _ ((unhide HA).up (by repeat' (first | (with_reducible exact up_refl _) | (with_reducible assumption) | (with_reducible refine up_alloc ?_ _) | (with_reducible refine up_drewN ?_ _) | (with_reducible refine up_drew ?_) | (with_reducible refine up_set ?_ (by first | (simp; done) | (simp; omega) | omega) _) | (refine up_trans ?_ (by with_reducible assumption))))) ((unhide HB).up (by repeat' (first | (with_reducible exact up_refl _) | (with_reducible assumption) | (with_reducible refine up_alloc ?_ _) | (with_reducible refine up_drewN ?_ _) | (with_reducible refine up_drew ?_) | (with_reducible refine up_set ?_ (by first | (simp; done) | (simp; omega) | omega) _) | (refine up_trans ?_ (by with_reducible assumption)))))).mono ?_); rintro e w5 ⟨rfl, hb5⟩)
      | (go_at_call 20; (with_reducible refine (unhide HPM2 _ _ _ _ _ ((unhide HA).up (by repeat' (first | (with_reducible exact up_refl _) | (with_reducible assumption) | (with_reducible refine up_alloc ?_ _) | (with_reducible refine up_drewN ?_ _) | (with_reducible refine up_drew ?_) | (with_reducible refine up_set ?_ (by first | (simp; done) | (simp; omega) | omega) _) | (refine up_trans ?_ (by with_reducible assumption))))) ((unhide HB).up (by repeat' (first | (with_reducible exact up_refl _) | (with_reducible assumption) | (with_reducible refine up_alloc ?_ _) | (with_reducible refine up_drewN ?_ _) | (with_reducible refine up_drew ?_) | (with_reducible refine up_set ?_ (by first | (simp; done) | (simp; omega) | omega) _) | (refine up_trans ?_ (by with_reducible assumption)))))).mono ?_); rintro e w6 ⟨rfl, hb6⟩)
      | (go_at_call 22; (with_reducible refine (unhide HPG1 _ _ _ _ _ ((unhide HA).up (by repeat' (first | (with_reducible exact up_refl _) | (with_reducible assumption) | (with_reducible refine up_alloc ?_ _) | (with_reducible refine up_drewN ?_ _) | (with_reducible refine up_drew ?_) | (with_reducible refine up_set ?_ (by first | (simp; done) | (simp; omega) | omega) _) | (refine up_trans ?_ (by with_reducible assumption))))) ((unhide HB).up (by repeat' (first | (with_reducible exact up_refl _) | (with_reducible assumption) | (with_reducible refine up_alloc ?_ _) | (with_reducible refine up_drewN ?_ _) | (with_reducible refine up_drew ?_) | (with_reducible refine up_set ?_ (by first | (simp; done) | (simp; omega) | omega) _) | (refine up_trans ?_ (by with_reducible assumption)))))).mono ?_); rintro e w7 ⟨rfl, hb7⟩)
      | (go_at_call 22; (with_reducible refine (unhide HPG2 _ _ _ _ _ ((unhide HA).up (by repeat' (first | (with_reducible exact up_refl _) | (with_reducible assumption) | (with_reducible refine up_alloc ?_ _) | (with_reducible refine up_drewN ?_ _) | (with_reducible refine up_drew ?_) | (with_reducible refine up_set ?_ (by first | (simp; done) | (simp; omega) | omega) _) | (refine up_trans ?_ (by with_reducible assumption))))) ((unhide HB).up (by repeat' (first | (with_reducible exact up_refl _) | (with_reducible assumption) | (with_reducible refine up_alloc ?_ _) | (with_reducible refine up_drewN ?_ _) | (with_reducible refine up_drew ?_) | (with_reducible refine up_set ?_ (by first | (simp; done) | (simp; omega) | omega) _) | (refine up_trans ?_ (by with_reducible assumption)))))).mono ?_); rintro e w8 ⟨rfl, hb8⟩)
      | (go_at_call 26; (with_reducible refine (unhide HPP _ _ _ _ _ ((unhide HA).up (by repeat' (first | (with_reducible exact up_refl _) | (with_reducible assumption) | (with_reducible refine up_alloc ?_ _) | (with_reducible refine up_drewN ?_ _) | (with_reducible refine up_drew ?_) | (with_reducible refine up_set ?_ (by first | (simp; done) | (simp; omega) | omega) _) | (refine up_trans ?_ (by with_reducible assumption))))) ((unhide HB).up (by repeat' (first | (with_reducible exact up_refl _) | (with_reducible assumption) | (with_reducible refine up_alloc ?_ _) | (with_reducible refine up_drewN ?_ _) | (with_reducible refine up_drew ?_) | (with_reducible refine up_set ?_ (by first | (simp; done) | (simp; omega) | omega) _) | (refine up_trans ?_ (by with_reducible assumption)))))).mono ?_); rintro e w9 ⟨nx, ny, nk, rfl, hcp, hb9⟩; have HCP := hide hcp; clear hcp)
      | (go_at_call 24; (with_reducible refine (unhide HPK _ _ _ (unhide HCP) _ _ _ _ _ ((unhide HA).up (by repeat' (first | (with_reducible exact up_refl _) | (with_reducible assumption) | (with_reducible refine up_alloc ?_ _) | (with_reducible refine up_drewN ?_ _) | (with_reducible refine up_drew ?_) | (with_reducible refine up_set ?_ (by first | (simp; done) | (simp; omega) | omega) _) | (refine up_trans ?_ (by with_reducible assumption))))) ((unhide HB).up (by repeat' (first | (with_reducible exact up_refl _) | (with_reducible assumption) | (with_reducible refine up_alloc ?_ _) | (with_reducible refine up_drewN ?_ _) | (with_reducible refine up_drew ?_) | (with_reducible refine up_set ?_ (by first | (simp; done) | (simp; omega) | omega) _) | (refine up_trans ?_ (by with_reducible assumption)))))).mono ?_); rintro e w10 ⟨rfl, hb10⟩; have hu10 : Up w4 w10 := (by repeat' (first | (with_reducible exact up_refl _) | (with_reducible assumption) | (with_reducible refine up_alloc ?_ _) | (with_reducible refine up_drewN ?_ _) | (with_reducible refine up_drew ?_) | (with_reducible refine up_set ?_ (by first | (simp; done) | (simp; omega) | omega) _) | (refine up_trans ?_ (by with_reducible assumption)))); have d0 := up_cell hu10 y0; have d1 := up_cell hu10 y1)
      | (go_at_call 14; (with_reducible refine (unhide HPI1 _ _ _ ((unhide HA).up (by repeat' (first | (with_reducible exact up_refl _) | (with_reducible assumption) | (with_reducible refine up_alloc ?_ _) | (with_reducible refine up_drewN ?_ _) | (with_reducible refine up_drew ?_) | (with_reducible refine up_set ?_ (by first | (simp; done) | (simp; omega) | omega) _) | (refine up_trans ?_ (by with_reducible assumption)))))).mono ?_); rintro e w11 ⟨rfl, hb11⟩; have j0 : w11.cell? ⟨w10.heap.size, 0, none⟩ = some (.int .i64 p1) := up_cell hb11 (by go_cell); have j1 : w11.cell? ⟨w10.heap.size, 1, none⟩ = some (.int .i64 p2) := up_cell hb11 (by go_cell))
      | (go_at_call 14; (with_reducible refine (unhide HPI2 _ _ _ ((unhide HB).up (by repeat' (first | (with_reducible exact up_refl _) | (with_reducible assumption) | (with_reducible refine up_alloc ?_ _) | (with_reducible refine up_drewN ?_ _) | (with_reducible refine up_drew ?_) | (with_reducible refine up_set ?_ (by first | (simp; done) | (simp; omega) | omega) _) | (refine up_trans ?_ (by with_reducible assumption)))))).mono ?_); rintro e w12 ⟨rfl, hb12⟩))
    have hU : Up w w12 := (by repeat' (first | (with_reducible exact up_refl _) | (with_reducible assumption) | (with_reducible refine up_alloc ?_ _) | (with_reducible refine up_drewN ?_ _) | (with_reducible refine up_drew ?_) | (with_reducible refine up_set ?_ (by first | (simp; done) | (simp; omega) | omega) _) | (refine up_trans ?_ (by with_reducible assumption))))
    have BT := unhide BOTH
    clear hb5 hb6 hb7 hb8 hb9 hb10 hb11 hb12 HPM1 HPM2 HPG1 HPG2 HPP HPK HPI1 HPI2 HA HB HCP BOTH
    cases i1 <;> cases i2
    case true.true => exact absurd rfl (fun c => BT c rfl)
    all_goals
      clear BT
      go_wp2_with (first
        | (go_at_call 8; refine (l_works _).mono ?_; rintro e w13 ⟨rfl, hb13⟩))
      exact bodyPost_ret (v := .bool true) (by simp [results, Try.results6, go_sem]) rfl ⟨rfl, (by repeat' (first | (with_reducible exact up_refl _) | (with_reducible assumption) | (with_reducible refine up_alloc ?_ _) | (with_reducible refine up_drewN ?_ _) | (with_reducible refine up_drew ?_) | (with_reducible refine up_set ?_ (by first | (simp; done) | (simp; omega) | omega) _) | (refine up_trans ?_ (by with_reducible assumption))))⟩
theorem l_Parts (A B : Option Addr) (ps ms : Pl) (ca cb : Nat) (x y k p1 p2 : Int) (w : World) (h1 : Smalls w A ps) (h2 : Smalls w B ms) (n1 : ps.length ≤ 9223372036854775807) (n2 : ms.length ≤ 9223372036854775807) (b1 : -128 ≤ p1 ∧ p1 ≤ 127) (b2 : -128 ≤ p2 ∧ p2 ≤ 127) :
    Calls Try.prog 6 #[.slice A ps.length ca, .slice B ms.length cb, ln x y k, sm p1 p2] w fun e w' => e = .returned (.bool true) ∧ Below w.heap.size w w' := by
  by_cases c1 : (ps.take 8).length = 0
  · exact l_Parts_none A B ps ms ca cb x y k p1 p2 w h1 h2 n1 n2 c1
  · by_cases c2 : (ms.take 8).length = 0
    · exact l_Parts_half A B ps ms ca cb x y k p1 p2 w h1 h2 n1 n2 (by omega) c2
    · exact l_Parts_some A B ps ms ca cb x y k p1 p2 w h1 h2 n1 n2 (by omega) (by omega) b1 b2
end Go.Proofs.Ytihckoenfklhpaa
