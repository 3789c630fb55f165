/- The lengths of all cylinders: the document's own answer. -/
import Derived.Test.YtgjcpgmnflpdkaaStrokes
namespace Go.Proofs.Ytgjcpgmnflpdkaa
open Go.RowKit Go.Proofs.Gn
set_option maxRecDepth 100000 in
set_option maxHeartbeats 40000000 in
theorem r_Strokes (A : Option Addr) (ps : List Gs.Sup) (cap : Nat) (B : Option Addr) (gs : List Int) (capg : Nat) (f0 f1 f2 : Int) (K : Nat) (hK : Fsn ps.length (stN ps gs f0 f1 f2) K) (hn : ps.length ≤ 9223372036854775807) (hng : gs.length ≤ 9223372036854775807) (w : World) (h : Sups w A ps) (hg : Ints w B gs) :
    Calls Try.prog 36 #[.slice A ps.length cap, .agg #[.int .i64 f0, .int .i64 f1, .int .i64 f2], .slice B gs.length capg] w fun e w' => (∃ A' c', e = .returned (.tuple #[.slice A' (stL ps gs f0 f1 f2 K).length c', .int .i64 (stF ps gs f0 f1 f2 K)]) ∧ Ints w' A' (stL ps gs f0 f1 f2 K)) ∧ Up w w' := by
  have hL := hide (fun (W : World) (hW : Up w W) => r_ground A ps cap B gs capg f0 f1 f2 hn hng W (sups_up h hW) (ints_up hg hW))
  have hBy := hide (fun X Y (a : atE ps X Y = 0) (W : World) (hW : Up w W) => r_beyond A ps cap X Y a W (sups_up h hW))
  have hH := hide (fun X Y (l : laE ps gs f0 f1 f2 = 0) (a : atE ps X Y = 0) (o : hoB ps X Y = false) (W : World) (hW : Up w W) => r_height A ps cap B gs capg f0 f1 f2 X Y a o (laE_ok l).2.2.1 (laE_ok l).2.2.2 (laE_ok l).2.1 W (sups_up h hW) (ints_up hg hW))
  have hbd := hide (fun X Y a b => heV_bd (ps := ps) (gs := gs) (f0 := f0) (f1 := f1) (f2 := f2) (X := X) (Y := Y) a b)
  have hcs := st_cases ps gs f0 f1 f2 K hK.1
  have hla := hide (fun x => laE_ok (ps := ps) (gs := gs) (f0 := f0) (f1 := f1) (f2 := f2) x)
  have HK := hide hK
  have hK1 := hK.1
  clear hK
  rcases hcs with ⟨c1, c3, c4⟩ | ⟨c1, e1, e2, e3⟩
  · obtain ⟨n, hN⟩ : ∃ n, ps.length = n := ⟨_, rfl⟩
    obtain ⟨m, hM⟩ : ∃ m, gs.length = m := ⟨_, rfl⟩
    clear hH hBy hbd hla HK h hg
    rw [hN] at hL hn ⊢
    rw [hM] at hL hng ⊢
    rw [c3, c4]
    clear hN hM c3 c4
    generalize laE ps gs f0 f1 f2 = E at *
    have c2 : (E == 0) = false := by simp; exact c1
    go_enter Try.func36, Try.ntmps36
    go_wp2_with (first | (go_at_call 76; (with_reducible refine (unhide hL _ (by repeat' (first | (with_reducible exact up_refl _) | (with_reducible assumption) | (with_reducible refine up_alloc ?_ _) | (with_reducible refine up_drewN ?_ _) | (with_reducible refine up_drew ?_) | (with_reducible refine up_set ?_ (by first | (simp; done) | (simp; omega) | omega) _) | (refine up_trans ?_ (by with_reducible assumption))))).mono ?_); rintro e w1 ⟨rfl, hb1⟩; have k0_0 : w1.cell? ⟨w.heap.size, 0, none⟩ = some (.int .i64 f0) := up_cell hb1 (by first | (with_reducible assumption) | (refine alloc_cell _ ?_; with_reducible assumption) | go_cell); have k0_1 : w1.cell? ⟨w.heap.size, 1, none⟩ = some (.int .i64 f1) := up_cell hb1 (by first | (with_reducible assumption) | (refine alloc_cell _ ?_; with_reducible assumption) | go_cell); have k0_2 : w1.cell? ⟨w.heap.size, 2, none⟩ = some (.int .i64 f2) := up_cell hb1 (by first | (with_reducible assumption) | (refine alloc_cell _ ?_; with_reducible assumption) | go_cell)) | (go_at_call 76; (with_reducible refine (unhide hL _ (by repeat' (first | (with_reducible exact up_refl _) | (with_reducible assumption) | (with_reducible refine up_alloc ?_ _) | (with_reducible refine up_drewN ?_ _) | (with_reducible refine up_drew ?_) | (with_reducible refine up_set ?_ (by first | (simp; done) | (simp; omega) | omega) _) | (refine up_trans ?_ (by with_reducible assumption))))).mono ?_); rintro e w2 ⟨rfl, hb2⟩))
    go_ret2
    exact ⟨⟨none, 0, rfl, .inl rfl⟩, (by repeat' (first | (with_reducible exact up_refl _) | (with_reducible assumption) | (with_reducible refine up_alloc ?_ _) | (with_reducible refine up_drewN ?_ _) | (with_reducible refine up_drew ?_) | (with_reducible refine up_set ?_ (by first | (simp; done) | (simp; omega) | omega) _) | (refine up_trans ?_ (by with_reducible assumption))))⟩
  obtain ⟨o1, o2, o3, o4⟩ := unhide hla c1
  have hok := chE_ok o1
  have hsup := hide (fun (k : Nat) (x : k < ps.length) => sup_at o1 x)
  have E1 := hide e1
  have E2 := hide e2
  have E3 := hide e3
  have O4 := hide o4
  have C1 := hide c1
  clear e1 e2 e3 hla o4
  rw [c1] at hL
  rcases h with hx | ⟨ba, off, rfl, hc⟩
  · rw [hx] at hok; exact absurd hok.2.2.1 (by simp)
  rcases hg with hx | ⟨bg, offg, rfl, hcg⟩
  · rw [hx] at o2; have := hok.2.2.1; rw [← o2] at this; exact absurd this (by simp)
  have HC := hide hc
  have HG := hide hcg
  have hlen := hok.2.1
  clear hc hcg hok o1 o3 c1
  obtain ⟨n, hN⟩ : ∃ n, ps.length = n := ⟨_, rfl⟩
  have HM := hide (o2.trans hN)
  have HN := hide hN
  rw [o2] at hL hH ⊢
  rw [hN] at hL hH hBy hlen HK hK1 E1 E2 E3 ⊢
  clear hN o2 hn hng
  generalize stF ps gs f0 f1 f2 K = F at *
  generalize stL ps gs f0 f1 f2 K = Ls at *
  obtain ⟨i0', hi, hz0, hz1, hz2⟩ := info_parts info_i64I
  have HI := hide hi
  clear hi
  go_enter Try.func36, Try.ntmps36
  go_upto_region 1 with fail
  refine at_wp (fun W0 hW0 => ?_)
  have U0' : Up w W0 := by rw [hW0]; exact (by repeat' (first | (with_reducible exact up_refl _) | (with_reducible assumption) | (with_reducible refine up_alloc ?_ _) | (with_reducible refine up_drewN ?_ _) | (with_reducible refine up_drew ?_) | (with_reducible refine up_set ?_ (by first | (simp; done) | (simp; omega) | omega) _) | (refine up_trans ?_ (by with_reducible assumption))))
  have F0 : Bx W0 w.heap.size [.int .i64 f0, .int .i64 f1, .int .i64 f2] := by rw [hW0]; exact bx_new w _ 30
  clear hW0
  obtain ⟨x0, x1, x2⟩ := bx3 F0
  go_upto_region 3 with (go_at_call 76; (with_reducible refine (unhide hL _ (by repeat' (first | (with_reducible exact up_refl _) | (with_reducible assumption) | (with_reducible refine up_alloc ?_ _) | (with_reducible refine up_drewN ?_ _) | (with_reducible refine up_drew ?_) | (with_reducible refine up_set ?_ (by first | (simp; done) | (simp; omega) | omega) _) | (refine up_trans ?_ (by with_reducible assumption))))).mono ?_); rintro e wo ⟨rfl, hb1⟩)
  have U0 := up_trans U0' hb1
  have F1 := bx_up F0 hb1
  clear hb1 hL F0 U0' x0 x1 x2
  go_wp2_with fail
  go_loopw [8, 9] (fun s8 s9 wr => ∃ k : Nat, k ≤ K ∧ s9 = .int .i64 k ∧ wr.ownsRow wo.heap.size 2 1 s8 k (cellsI (stR ps gs f0 f1 f2 k)) ∧ Up wo wr) (fun _ s9 _ => n - (intOf s9).toNat)
  case atStart => exact ⟨0, by omega, rfl, World.ownsRow_nil _ _ _ _, up_refl _⟩
  case round =>
    obtain ⟨k, hk, rfl, hown, hu⟩ := hrel
    have HO := hide hown
    clear hown
    have hu2 := up_trans U0 hu
    by_cases hlt : k < n
    · have hl : k < ps.length := by rw [unhide HN]; exact hlt
      have hl2 : k < gs.length := by rw [unhide HM]; exact hlt
      obtain ⟨k0', k1', k2', k3', k4', k5'⟩ := supAt_up (unhide HC k hl) hu2
      have kg := up_cell hu2 (unhide HG k hl2)
      have yb := gsB_at (unhide O4) hl2
      have sE := stE_at (ps := ps) (gs := gs) (f0 := f0) (f1 := f1) (f2 := f2) hl hl2
      have sV := stV_at (ps := ps) (gs := gs) (f0 := f0) (f1 := f1) (f2 := f2) hl hl2
      have hat := unhide hsup k hl
      have hBy2 := hide (unhide hBy ps[k].x ps[k].y hat)
      have hH2 := hide (unhide hH ps[k].x ps[k].y (unhide C1) hat)
      have hb2 := hide (fun (a : hoB ps ps[k].x ps[k].y = false) => unhide hbd ps[k].x ps[k].y (unhide C1) a)
      have sN : stN ps gs f0 f1 f2 k = (stE ps gs f0 f1 f2 k != 0) := rfl
      clear hat
      generalize heV ps gs f0 f1 f2 ps[k].x ps[k].y = H at *
      generalize hoB ps ps[k].x ps[k].y = B1 at *
      obtain ⟨x, hx⟩ : ∃ x, ps[k].x = x := ⟨_, rfl⟩
      obtain ⟨y, hy⟩ : ∃ x, ps[k].y = x := ⟨_, rfl⟩
      obtain ⟨g, hg⟩ : ∃ x, gs[k] = x := ⟨_, rfl⟩
      obtain ⟨lo, hlo⟩ : ∃ x, ps[k].lo = x := ⟨_, rfl⟩
      obtain ⟨hi, hhi⟩ : ∃ x, ps[k].hi = x := ⟨_, rfl⟩
      rw [hx] at k0' hH2 hBy2
      rw [hy] at k1' hH2 hBy2
      rw [hlo] at k4' sE
      rw [hhi] at k5' sE
      rw [hg] at kg yb sE sV
      clear hx hy hlo hhi hg
      obtain ⟨yb1, yb2⟩ := yb
      have i0 : (0 : Int) ≤ (k : Int) := by omega
      have i1 : (k : Int) < (n : Int) := by omega
      go_upto_region 7 with fail
      have hmk : ∀ wx' : World, Up wr wx' → wx'.cell? ⟨ba, off + k * 6, none⟩ = some (.int .i64 x) ∧ wx'.cell? ⟨ba, off + k * 6 + 1, none⟩ = some (.int .i64 y) ∧ Up wr wx' := fun wx' hq => ⟨up_cell hq k0', up_cell hq k1', hq⟩
      have HM2 := hide hmk
      go_cut [10] (fun sa wx' => ∃ g : Nat, sa = .pointer (some ⟨g, 0, none⟩) ∧ Bx wx' g [.int .i64 x, .int .i64 y] ∧ Up wr wx')
      case first =>
        have t1 := Nat.le_refl wr.heap.size
        clear hBy2 hH2 hb2 sE sV sN HK E1 E2 E3 HO
        go_region_held3 (fun wx' => wx'.cell? ⟨ba, off + k * 6, none⟩ = some (.int .i64 x) ∧ wx'.cell? ⟨ba, off + k * 6 + 1, none⟩ = some (.int .i64 y) ∧ Up wr wx') ((go_split_ands; exact unhide HM2 _ (by repeat' (first | (with_reducible exact up_refl _) | (with_reducible assumption) | (with_reducible refine up_alloc ?_ _) | (with_reducible refine up_drewN ?_ _) | (with_reducible refine up_drew ?_) | (with_reducible refine up_set ?_ (by first | (simp; done) | (simp; omega) | omega) _) | (refine up_trans ?_ (by with_reducible assumption)))))) (fail)
        all_goals go_wp2_with fail
        all_goals go_meet
        all_goals exact ⟨wr.heap.size, by with_reducible rfl, bx_new wr _ 29, (by repeat' (first | (with_reducible exact up_refl _) | (with_reducible assumption) | (with_reducible refine up_alloc ?_ _) | (with_reducible refine up_drewN ?_ _) | (with_reducible refine up_drew ?_) | (with_reducible refine up_set ?_ (by first | (simp; done) | (simp; omega) | omega) _) | (refine up_trans ?_ (by with_reducible assumption))))⟩
      case rest =>
      obtain ⟨G, rfl, P5, u5⟩ := hcut
      obtain ⟨W5, rfl⟩ : ∃ z : World, z = wc := ⟨_, rfl⟩
      have kg5 := up_cell u5 kg
      have HO5 := hide (own_upI (unhide HO) u5)
      have U5 := up_trans hu u5
      have F5 := bx_up F1 U5
      have c4 := up_cell u5 k4'
      have c5 := up_cell u5 k5'
      have V5 := up_trans U0 U5
      clear u5 hu hu2 kg k0' k1' k2' k3' k4' k5' HO hmk HM2
      obtain ⟨z0, z1⟩ := bx2 P5
      cases B1
      rotate_left
      · simp only [if_true] at sE
        obtain rfl := fsn_stop (unhide HK) hk (by rw [sN, sE]; rfl)
        have f1' := unhide E1 (by omega)
        have f2' := unhide E2 (by omega) (by rw [sE]; decide)
        rw [sE] at f1'
        subst f1' f2'
        clear HK E1 E2 E3 sE sV sN hH2
        go_wp2_with (go_at_call 77; (with_reducible refine (unhide hBy2 _ (by repeat' (first | (with_reducible exact up_refl _) | (with_reducible assumption) | (with_reducible refine up_alloc ?_ _) | (with_reducible refine up_drewN ?_ _) | (with_reducible refine up_drew ?_) | (with_reducible refine up_set ?_ (by first | (simp; done) | (simp; omega) | omega) _) | (refine up_trans ?_ (by with_reducible assumption))))).mono ?_); rintro e w6 ⟨rfl, hb6⟩)
        go_ret2
        exact ⟨⟨none, 0, rfl, .inl rfl⟩, up_trans V5 hb6⟩
      simp only [Bool.false_eq_true, if_false] at sE
      obtain ⟨hb3, hb4⟩ := unhide hb2 rfl
      have hH3 := hide (unhide hH2 rfl)
      go_upto_region 10 with (go_at_call 77; (with_reducible refine (unhide hBy2 _ (by repeat' (first | (with_reducible exact up_refl _) | (with_reducible assumption) | (with_reducible refine up_alloc ?_ _) | (with_reducible refine up_drewN ?_ _) | (with_reducible refine up_drew ?_) | (with_reducible refine up_set ?_ (by first | (simp; done) | (simp; omega) | omega) _) | (refine up_trans ?_ (by with_reducible assumption))))).mono ?_); rintro e w6 ⟨rfl, hb6⟩)
      have P6 := bx_up P5 hb6
      have F6 := bx_up F5 hb6
      have kg6 := up_cell hb6 kg5
      have HO6 := hide (own_upI (unhide HO5) hb6)
      have U6 := up_trans U5 hb6
      have V6 := up_trans V5 hb6
      have c6 := up_cell hb6 c4
      have c7 := up_cell hb6 c5
      clear P5 F5 kg5 HO5 U5 V5 c4 c5 hb6 hBy2 hH2 z0 z1
      obtain ⟨l, hl'⟩ : ∃ l, H - g = l := ⟨_, rfl⟩
      have ew : IntKind.i64.wrap (H - g) = l := by rw [← hl']; exact IntWalk.i64_in _ ⟨by omega, by omega⟩
      rw [hl'] at sE sV
      have m0 : ∀ p : UpW w6, p.v.cell? ⟨G, 0, none⟩ = some (.int .i64 x) := fun p => (bx2 (bx_up P6 p.up)).1
      have m1 : ∀ p : UpW w6, p.v.cell? ⟨G, 1, none⟩ = some (.int .i64 y) := fun p => (bx2 (bx_up P6 p.up)).2
      have m2 : ∀ p : UpW w6, p.v.cell? ⟨w.heap.size, 0, none⟩ = some (.int .i64 f0) := fun p => (bx3 (bx_up F6 p.up)).1
      have m3 : ∀ p : UpW w6, p.v.cell? ⟨w.heap.size, 1, none⟩ = some (.int .i64 f1) := fun p => (bx3 (bx_up F6 p.up)).2.1
      have m4 : ∀ p : UpW w6, p.v.cell? ⟨w.heap.size, 2, none⟩ = some (.int .i64 f2) := fun p => (bx3 (bx_up F6 p.up)).2.2
      have m5 : ∀ p : UpW w6, p.v.cell? ⟨bg, offg + k, none⟩ = some (.int .i64 g) := fun p => up_cell p.up kg6
      have mu : ∀ p : UpW w6, Up w p.v := fun p => up_trans V6 p.up
      refine wp_upq (by kernel_rfl) (by kernel_rfl) ?_; (repeat (go_big_quiet_step ((go_at_call 78; exact upq (unhide hH3 _ (mu _)))))); refine wpQuiet_nil ?_; intro _ hw'; obtain ⟨pq, hw''⟩ := hw'; subst hw''; have hpq := pq.up
      generalize pq.v = W7 at hpq ⊢
      have HO7 := hide (own_upI (unhide HO6) hpq)
      have U7 := up_trans U6 hpq
      have c8 := up_cell hpq c6
      have c9 := up_cell hpq c7
      clear m0 m1 m2 m3 m4 m5 mu P6 F6 kg6 HO6 U6 V6 c6 c7 hpq hH3 ew hl' hb3 hb4
      have hW := hide (fun W => r_within l lo hi W)
      have n0 : ∀ p : UpW W7, p.v.cell? ⟨ba, off + k * 6 + 4, none⟩ = some (.int .i64 lo) := fun p => up_cell p.up c8
      have n1 : ∀ p : UpW W7, p.v.cell? ⟨ba, off + k * 6 + 5, none⟩ = some (.int .i64 hi) := fun p => up_cell p.up c9
      go_upto_region 11 with fail
      cases hv : win l lo hi
      · rw [hv] at hW sE
        simp only [Bool.false_eq_true, if_false] at sE
        obtain rfl := fsn_stop (unhide HK) hk (by rw [sN, sE]; rfl)
        have f1' := unhide E1 (by omega)
        have f2' := unhide E2 (by omega) (by rw [sE]; decide)
        rw [sE] at f1'
        subst f1' f2'
        clear HK E1 E2 E3 sE sV sN hv
        refine wp_upq (by kernel_rfl) (by kernel_rfl) ?_; (repeat (go_big_quiet_step ((go_at_call 69; exact upq ((unhide hW _).mono fun _ _ ⟨a, b⟩ => ⟨a, b ▸ up_refl _⟩))))); refine wpQuiet_nil ?_; intro _ hw'; obtain ⟨pq, hw''⟩ := hw'; subst hw''; have hpq := pq.up
        generalize pq.v = W8 at hpq ⊢
        go_wp2_with fail
        go_ret2
        exact ⟨⟨none, 0, rfl, .inl rfl⟩, up_trans U0 (up_trans U7 hpq)⟩
      · rw [hv] at hW sE
        simp only [if_true] at sE
        have hkK := fsn_go (unhide HK) hk hlt (by rw [sN, sE]; rfl)
        clear HK E1 E2 E3 sE sN hv
        have SV := hide sV
        clear sV hb2
        refine wp_upq (by kernel_rfl) (by kernel_rfl) ?_; (repeat (go_big_quiet_step ((go_at_call 69; exact upq ((unhide hW _).mono fun _ _ ⟨a, b⟩ => ⟨a, b ▸ up_refl _⟩))))); refine wpQuiet_nil ?_; intro _ hw'; obtain ⟨pq, hw''⟩ := hw'; subst hw''; have hpq := pq.up
        generalize pq.v = W8 at hpq ⊢
        have HO8 := hide (own_upI (unhide HO7) hpq)
        have U8 := up_trans U7 hpq
        clear n0 n1 HO7 U7 c8 c9 hpq hW
        go_wp2_with (at_builtin; refine wpList_append_own _ rfl _ _ 53 rfl wo.heap.size 2 i0' _ 1 8 Try.underlying53 (unhide HI) hz0 hz1 hz2 rfl (by decide) _ k (cellsI (stR ps gs f0 f1 f2 k)) rfl ((unhide HO8).alloc _) ⟨W8.heap.size, 0, none⟩ 1 1 [.int .i64 l] rfl rfl (one_newI _ _ _) (by intro u hu; simp at hu; rcases hu with rfl; rfl) (by unfold maxLen; omega) (by omega) (by have := U8.size; simp; omega) ?_; intro v' w8 hown' hgrow _)
        have R1 := own_grown (v' := v') (ys := []) (unhide HO8) (up_alloc U8 _) hgrow
        rw [← cellsI_snoc, ← unhide SV, ← stR_succ] at hown'
        have R2 := hide hown'
        clear hown' hgrow SV HO8 U8
        go_wp2_with fail
        go_roundw
        case rel => exact ⟨k + 1, by omega, by go_num, unhide R2, R1⟩
        case measure => simp [intOf]; omega
    · obtain rfl : k = n := by omega
      have hKe : K = k := by omega
      obtain ⟨f1', f2'⟩ := unhide E3 hKe
      obtain ⟨A', c', hv', hI⟩ := own_ints (unhide HO)
      have hlen' := stR_len ps gs f0 f1 f2 k
      rw [← f2'] at hI hv' hlen'
      clear f2' HO E1 E2 E3
      subst hv' f1'
      go_wp2_with fail
      go_ret2
      exact ⟨⟨A', c', rfl, hI⟩, hu2⟩
end Go.Proofs.Ytgjcpgmnflpdkaa
