/- StaticsLeast: the law's function returns true. -/
import Derived.Test.YtepblnnebeglbaaLawDivides
namespace Go.Proofs.Ytepblnnebeglbaa
open Go.RowKit Go.Proofs.Gn
theorem bStep_le (b : Best) (d : List Int) (o : Bool) (x : Int) : (∀ c0, b = some c0 → ∃ c1, bStep b d o x = some c1 ∧ c1.2 ≤ c0.2) ∧ (o = true → ∃ c1, bStep b d o x = some c1 ∧ c1.2 ≤ x) := by
  cases b with
  | none =>
    refine ⟨(fun c0 h => by cases h), fun h => ?_⟩
    subst h
    exact ⟨_, bStep_none d x, Int.le_refl _⟩
  | some c =>
    by_cases hx : o = true ∧ x < c.2
    · obtain ⟨rfl, hx⟩ := hx
      exact ⟨fun c0 h => by cases h; exact ⟨_, bStep_lt hx, Int.le_of_lt hx⟩, fun _ => ⟨_, bStep_lt hx, Int.le_refl _⟩⟩
    · cases o
      · exact ⟨fun c0 h => by cases h; exact ⟨_, bStep_no _ _ _, Int.le_refl _⟩, fun h => by cases h⟩
      · have h2 : ¬ x < c.2 := fun k => hx ⟨rfl, k⟩
        exact ⟨fun c0 h => by cases h; exact ⟨_, bStep_ge h2, Int.le_refl _⟩, fun _ => ⟨_, bStep_ge h2, by omega⟩⟩
/-- The best division has the least load of all that are possible; and there is one if any is possible. -/
theorem best_min {ok : List Int → Bool} {v : List Int → Int} : ∀ {D : List (List Int)} {b : Best}, (∀ c0, b = some c0 → ∃ c1, bAll ok v b D = some c1 ∧ c1.2 ≤ c0.2) ∧ ∀ x ∈ D, ok x = true → ∃ c1, bAll ok v b D = some c1 ∧ c1.2 ≤ v x
  | [], b => ⟨fun c0 h => ⟨c0, h, Int.le_refl _⟩, fun x hx => by cases hx⟩
  | d :: D, b => by
    obtain ⟨i1, i2⟩ := best_min (ok := ok) (v := v) (D := D) (b := bStep b d (ok d) (v d))
    obtain ⟨s1, s2⟩ := bStep_le b d (ok d) (v d)
    rw [bAll_cons]
    refine ⟨fun c0 h => ?_, fun x hx ho => ?_⟩
    · obtain ⟨c1, e1, l1⟩ := s1 c0 h
      obtain ⟨c2, e2, l2⟩ := i1 c1 e1
      exact ⟨c2, e2, by omega⟩
    · rcases List.mem_cons.1 hx with rfl | k
      · obtain ⟨c1, e1, l1⟩ := s2 ho
        obtain ⟨c2, e2, l2⟩ := i1 c1 e1
        exact ⟨c2, e2, by omega⟩
      · exact i2 x k ho
theorem best_ok {ok : List Int → Bool} {v : List Int → Int} {c : List Int × Int} : ∀ {D : List (List Int)} {b : Best}, bAll ok v b D = some c → b = some c ∨ (ok c.1 = true ∧ v c.1 = c.2)
  | [], _, h => .inl h
  | d :: D, b, h => by
    rw [bAll_cons] at h
    rcases best_ok h with k | k
    · unfold bStep at k
      split at k
      · rename_i ho
        cases k
        exact .inr ⟨ho.1, rfl⟩
      · exact .inl k
    · exact .inr k
theorem boE_15 (ps : List Gs.Sup) (m X Y : Int) : boE ps m X Y ≠ 15 := by
  unfold boE chE msE ptE
  repeat' split
  all_goals decide
set_option maxRecDepth 100000 in
set_option maxHeartbeats 16000000 in
theorem l_LeastD (A : Option Addr) (ps : List Gs.Sup) (cap : Nat) (m X Y : Int) (w : World) (h : Sups w A ps) (hn : ps.length ≤ 9223372036854775807) :
    Calls Try.prog 4 #[.slice A ps.length cap, .int .i64 m, pt X Y] w fun e w' => e = .returned (.bool true) ∧ Up w w' := by
  have HP := hide (fun W (hW : Up w W) => p_Divide sortsO A ps cap m X Y W (sups_up h hW) hn)
  have H15 := boE_15 ps m X Y
  by_cases hE : boE ps m X Y = 0
  · obtain ⟨hat, _, _⟩ := boE_ok hE
    obtain ⟨ho, h48, h3, _⟩ := chE_ok (atE_ok hat).1
    rcases h with hx | ⟨b, off, rfl, hc⟩
    · rw [hx] at h3; simp at h3
    have h0 : 0 < ps.length := by omega
    have HDs := hide (fun W (hW : Up w W) => r_Divisions b off cap ps W (supsO_up hc hW) ho h0 h48)
    have HG := hide (fun (W : World) (g : Nat) (d : List Int) (hW : Up w W) (hd : Bx W g (cellsI d)) (hl : d.length = ps.length) => r_Grouped (some ⟨b, off, none⟩) ps cap (some ⟨g, 0, none⟩) d d.length hl h0 h48 W (.inr ⟨b, off, rfl, supsO_up hc hW⟩) (bx_intsG hd))
    have HSq := hide (fun (W : World) (B : Option Addr) (d : List Int) (c : Nat) (hl : d.length = ps.length) (hW : Sups W B (grp ps d)) => p_Shares B (grp ps d) c m X Y (by rw [grp_len hl]; omega) W hW)
    have HQL := hide (fun (d : List Int) (hl : d.length = ps.length) => grp_len hl)
    have HOk := hide (fun (d : List Int) => (⟨rfl, rfl⟩ : hvB ps m X Y d = (shE (grp ps d) m X Y == 0) ∧ hvV ps m X Y d = max (shV (grp ps d) m X Y (up m (paD (grp ps d)) (pa0 (grp ps d) X Y))) (max (shV (grp ps d) m X Y (up m (paD (grp ps d)) (pa1 (grp ps d) X Y))) (shV (grp ps d) m X Y (up m (paD (grp ps d)) (pa2 (grp ps d) X Y))))))
    have HDL := hide (fun (l : List Nat) => dvs_len (ps := ps) (l := l))
    have HDC := hide (fun (l : List Nat) => (by rw [dvs_K, dvsK_len] : (dvs ps l).length = 2 * (ps.length - 2)))
    have hpd : ∀ (be : BestA) (W : World), DvPost ps m X Y be W → ∃ l : List Nat, l.Perm (List.range ps.length) ∧ l.Pairwise (ltS ps) ∧ be.map (·.2) = bAll (hvB ps m X Y) (hvV ps m X Y) none (dvs ps l) := fun be W hd => hd.2.1 hE
    have HPD := hide hpd
    have HDE : Hid (∀ be, dvE ps m X Y be = if be.isSome then 0 else 15) := hide (fun be => by unfold dvE; rw [if_pos hE])
    have HBL := hide (fun (be : BestA) (W : World) (hd : DvPost ps m X Y be W) (g : Nat) (d : List Int) (v : Int) (e : be = some (g, d, v)) => (dv_len hd e).2)
    obtain ⟨ok, hok⟩ : ∃ ok, hvB ps m X Y = ok := ⟨_, rfl⟩
    obtain ⟨vl, hvl⟩ : ∃ vl, hvV ps m X Y = vl := ⟨_, rfl⟩
    rw [hok, hvl] at HOk HPD
    clear hc hE hat ho hok hvl hpd H15 hn
    obtain ⟨n, hN⟩ : ∃ n, ps.length = n := ⟨_, rfl⟩
    have HN := hide hN
    rw [hN] at HP HDs HG HSq HQL HDL HDC HPD HBL h0 h3 h48 ⊢
    clear hN
    have d1 : decide ((48 : Int) < n) = false := by simp; omega
    go_enter Try.func4, Try.ntmps4
    go_upto_region 3 with fail
    refine at_wp (fun W1 hW1 => ?_)
    have B1 : Bx W1 w.heap.size [.int .i64 X, .int .i64 Y] := by rw [hW1]; exact bx_new w _ 24
    have U1 : Up w W1 := by rw [hW1]; exact (by repeat' (first | (with_reducible exact up_refl _) | (with_reducible assumption) | (with_reducible refine up_alloc ?_ _) | (with_reducible refine up_drewN ?_ _) | (with_reducible refine up_drew ?_) | (with_reducible refine up_set ?_ (by first | (simp; done) | (simp; omega) | omega) _) | (refine up_trans ?_ (by with_reducible assumption))))
    clear hW1
    obtain ⟨c0, c1⟩ := bx2 B1
    go_cut [7, 8] (fun s8 s9 wx => ∃ (a : Nat) (be : BestA), s8 = .pointer (some ⟨a, 0, none⟩) ∧ s9 = .int .i64 (if be.isSome then 0 else 15) ∧ Bx wx a (beV n be) ∧ Hid (DvPost ps m X Y be wx) ∧ Up W1 wx)
    case first =>
      clear HDs HG HSq HQL HOk HDL HDC HPD HBL
      go_wp2_with fail
      refine (unhide HP _ U1).mono ?_
      rintro e w2 ⟨be, hd, rfl, hb⟩
      rw [unhide HDE]
      have HD := hide (dvPost_up hd (up_alloc (up_refl w2) (.cells (beV n be).toArray 28)))
      have BB := bx_new w2 (beV n be) 28
      clear hd HDE
      rcases be with _ | ⟨g, d, v⟩
      · simp only [beA, Option.isSome_none, Bool.false_eq_true, if_false]
        go_wp2_with fail
        go_meet
        exact ⟨_, none, by with_reducible rfl, by rfl, BB, HD, (by repeat' (first | (with_reducible exact up_refl _) | (with_reducible assumption) | (with_reducible refine up_alloc ?_ _) | (with_reducible refine up_drewN ?_ _) | (with_reducible refine up_drew ?_) | (with_reducible refine up_set ?_ (by first | (simp; done) | (simp; omega) | omega) _) | (refine up_trans ?_ (by with_reducible assumption))))⟩
      · simp only [beA, slV, Option.isSome_some, if_true]
        go_wp2_with fail
        go_meet
        exact ⟨_, some (g, d, v), by with_reducible rfl, by rfl, BB, HD, (by repeat' (first | (with_reducible exact up_refl _) | (with_reducible assumption) | (with_reducible refine up_alloc ?_ _) | (with_reducible refine up_drewN ?_ _) | (with_reducible refine up_drew ?_) | (with_reducible refine up_set ?_ (by first | (simp; done) | (simp; omega) | omega) _) | (refine up_trans ?_ (by with_reducible assumption))))⟩
    case rest =>
    obtain ⟨a, be, rfl, rfl, BA, HD, hu1⟩ := hcut
    have B2 := bx_up B1 hu1
    have U2 := up_trans U1 hu1
    obtain ⟨l, hp, hs, hbe⟩ := unhide HPD be _ (unhide HD)
    have HPs := hide (And.intro hp hs)
    have hbl := unhide HBL be _ (unhide HD)
    have hgr := (unhide HD).2.2
    clear HP HDE HPD HBL B1 U1 hu1 c0 c1 HD hp hs
    obtain ⟨w3, hw3⟩ : ∃ w3, w3 = wc := ⟨_, rfl⟩
    rw [← hw3] at BA B2 U2 hgr ⊢
    clear hw3
    obtain ⟨c0, c1⟩ := bx2 B2
    have hzw : w.heap.size < w3.heap.size := bx_lt B2 (by simp)
    have HGR := hide hgr
    have HBl := hide hbl
    have HBE := hide hbe
    clear hgr hbl hbe
    go_upto_region 4 with fail
    go_cut [31] (fun s wx => s = .bool false ∧ wx = w3)
    case first =>
      rcases be with _ | ⟨g, d, v⟩
      · simp only [Option.isSome_none, Bool.false_eq_true, if_false]
        go_wp2_with fail
        go_meet
        exact ⟨by first | rfl | (simp; done), rfl⟩
      · simp only [Option.isSome_some, if_true]
        go_wp2_with fail
        go_meet
        exact ⟨by first | rfl | (simp; done), rfl⟩
    case rest =>
    obtain ⟨rfl, rfl⟩ := hcut
    obtain ⟨w3, hw3⟩ : ∃ w3, w3 = wc := ⟨_, rfl⟩
    rw [← hw3] at BA B2 U2 HGR c0 c1 hzw ⊢
    clear hw3
    go_upto_region 6 with fail
    go_cut [40] (fun s wx => s = .bool be.isSome ∧ wx = w3)
    case first =>
      rcases be with _ | ⟨g, d, v⟩
      · simp only [Option.isSome_none, Bool.false_eq_true, if_false]
        go_wp2_with fail
        go_meet
        exact ⟨by first | rfl | (simp; done), rfl⟩
      · simp only [Option.isSome_some, if_true]
        go_wp2_with fail
        go_meet
        exact ⟨by first | rfl | (simp; done), rfl⟩
    case rest =>
    obtain ⟨rfl, rfl⟩ := hcut
    obtain ⟨w3, hw3⟩ : ∃ w3, w3 = wc := ⟨_, rfl⟩
    rw [← hw3] at BA B2 U2 HGR c0 c1 hzw ⊢
    clear hw3
    go_upto_if 40 with fail
    go_cut [] (fun wx => Up w3 wx)
    case first =>
      rcases be with _ | ⟨g, d, v⟩
      · go_wp2_with fail
        go_meet
        exact up_refl _
      · simp only [Option.isSome_some, if_true]
        have hld := unhide HBl g d v rfl
        have hbx := unhide HGR g d v rfl
        obtain ⟨hk1, hk2⟩ : ok d = true ∧ vl d = v := by
          rcases best_ok (unhide HBE).symm with k | k
          · cases k
          · exact k
        have ba : Bx w3 a [.slice (some ⟨g, 0, none⟩) n n, .int .i64 v] := BA
        obtain ⟨p0, p1⟩ := bx2 ba
        have hgq : ∀ W, Up w3 W → _ := fun W hW => (unhide HG W g d (up_trans U2 hW) (bx_up hbx hW) hld)
        have ql := unhide HQL d hld
        have hsq := fun W B c => unhide HSq W B d c hld
        obtain ⟨hok, hvl⟩ := unhide HOk d
        rw [hk1] at hok
        rw [hk2] at hvl
        clear HG HSq HQL HOk HDL HDC HDs HBl HGR HBE hbx hk1 hk2 BA ba
        obtain ⟨q, hq⟩ : ∃ q, grp ps d = q := ⟨_, rfl⟩
        rw [hq] at hgq ql hsq hok hvl
        rw [ql] at hgq hsq
        rw [hld] at hgq
        generalize shV q m X Y (up m (paD q) (pa0 q X Y)) = r0 at *
        generalize shV q m X Y (up m (paD q) (pa1 q X Y)) = r1 at *
        generalize shV q m X Y (up m (paD q) (pa2 q X Y)) = r2 at *
        generalize shE q m X Y = E at *
        obtain rfl : E = 0 := by simpa using hok.symm
        have hmax := fun (ts : Array TypeId) (t : TypeId) (W : World) => run_max3D (P := Try.prog) ts t r0 r1 r2 W
        rw [← hvl] at hmax
        have HMx := hide hmax
        have HGq := hide (fun W (hW : Up w3 W) => (hgq W hW).mono fun e w' h => (⟨h.1, h.2, up_trans hW h.2⟩ : _ ∧ _ ∧ _))
        have HSh := hide (fun W B c (hS : Sups W B q) (hW : Up w3 W) => (hsq W B c hS).mono fun e w' h => (⟨h.1, h.2, up_trans hW h.2⟩ : _ ∧ _ ∧ _))
        have HKq := hide (fun W (hW : Up w3 W) => (⟨up_cell hW p0, up_cell hW c0, up_cell hW c1, hW⟩ : W.cell? ⟨a, 0, none⟩ = some (.slice (some ⟨g, 0, none⟩) n n) ∧ W.cell? ⟨w.heap.size, 0, none⟩ = some (.int .i64 X) ∧ W.cell? ⟨w.heap.size, 1, none⟩ = some (.int .i64 Y) ∧ Up w3 W))
        clear hgq hsq hmax hok hvl hq ql hld HPs HN
        go_upto_region 9 with fail
        go_cut [9, 10] (fun s9 s10 wx => ∃ gs : Nat, s9 = .pointer (some ⟨gs, 0, none⟩) ∧ s10 = .int .i64 0 ∧ Bx wx gs [.int .i64 r0, .int .i64 r1, .int .i64 r2] ∧ Up w3 wx)
        case first =>
          have t0 := Nat.le_refl w3.heap.size
          clear HMx B2 U2
          go_region_held3 (fun wx => wx.cell? ⟨a, 0, none⟩ = some (.slice (some ⟨g, 0, none⟩) n n) ∧ wx.cell? ⟨w.heap.size, 0, none⟩ = some (.int .i64 X) ∧ wx.cell? ⟨w.heap.size, 1, none⟩ = some (.int .i64 Y) ∧ Up w3 wx) ((go_split_ands; exact unhide HKq _ (by repeat' (first | (with_reducible exact up_refl _) | (with_reducible assumption) | (with_reducible refine up_alloc ?_ _) | (with_reducible refine up_drewN ?_ _) | (with_reducible refine up_drew ?_) | (with_reducible refine up_set ?_ (by first | (simp; done) | (simp; omega) | omega) _) | (refine up_trans ?_ (by with_reducible assumption))))))
            (first
              | (go_at_call 10; (with_reducible refine (unhide HGq _ (by go_split_ands; exact (by repeat' (first | (with_reducible exact up_refl _) | (with_reducible assumption) | (with_reducible refine up_alloc ?_ _) | (with_reducible refine up_drewN ?_ _) | (with_reducible refine up_drew ?_) | (with_reducible refine up_set ?_ (by first | (simp; done) | (simp; omega) | omega) _) | (refine up_trans ?_ (by with_reducible assumption)))))).mono ?_); rintro e u1 ⟨⟨gq, cq, rfl, hq1⟩, hv1, hv1'⟩; have t1 := up_size hv1'; have zb := bx_up (bx_new _ [.int .i64 0, .int .i64 0, .int .i64 0] 36) hv1)
              | (go_at_call 10; (with_reducible refine (unhide HGq _ (by go_split_ands; exact (by repeat' (first | (with_reducible exact up_refl _) | (with_reducible assumption) | (with_reducible refine up_alloc ?_ _) | (with_reducible refine up_drewN ?_ _) | (with_reducible refine up_drew ?_) | (with_reducible refine up_set ?_ (by first | (simp; done) | (simp; omega) | omega) _) | (refine up_trans ?_ (by with_reducible assumption)))))).mono ?_); rintro e u1 ⟨⟨gq, cq, rfl, hq1⟩, hv1, hv1'⟩; have t1 := up_size hv1'; have zb := bx_up (bx_drew (bx_new _ [.int .i64 0, .int .i64 0, .int .i64 0] 36)) hv1)
              | (go_at_call 10; (with_reducible refine (unhide HGq _ (by go_split_ands; exact (by repeat' (first | (with_reducible exact up_refl _) | (with_reducible assumption) | (with_reducible refine up_alloc ?_ _) | (with_reducible refine up_drewN ?_ _) | (with_reducible refine up_drew ?_) | (with_reducible refine up_set ?_ (by first | (simp; done) | (simp; omega) | omega) _) | (refine up_trans ?_ (by with_reducible assumption)))))).mono ?_); rintro e u1 ⟨⟨gq, cq, rfl, hq1⟩, hv1, hv1'⟩; have t1 := up_size hv1')
              | (go_at_call 9; (with_reducible refine (unhide HSh _ _ _ (sups_up hq1 (by repeat' (first | (with_reducible exact up_refl _) | (with_reducible assumption) | (with_reducible refine up_alloc ?_ _) | (with_reducible refine up_drewN ?_ _) | (with_reducible refine up_drew ?_) | (with_reducible refine up_set ?_ (by first | (simp; done) | (simp; omega) | omega) _) | (refine up_trans ?_ (by with_reducible assumption))))) (by go_split_ands; exact (by repeat' (first | (with_reducible exact up_refl _) | (with_reducible assumption) | (with_reducible refine up_alloc ?_ _) | (with_reducible refine up_drewN ?_ _) | (with_reducible refine up_drew ?_) | (with_reducible refine up_set ?_ (by first | (simp; done) | (simp; omega) | omega) _) | (refine up_trans ?_ (by with_reducible assumption)))))).mono ?_); rintro e u2 ⟨rfl, hv2, hv2'⟩; have t2 := up_size hv2'; have zb2 := bx_up zb hv2; obtain ⟨z3, z4, z5⟩ := bx3 zb2; obtain ⟨f3, f4, f5⟩ := bxf3 zb2)
              | (go_at_call 9; (with_reducible refine (unhide HSh _ _ _ (sups_up hq1 (by repeat' (first | (with_reducible exact up_refl _) | (with_reducible assumption) | (with_reducible refine up_alloc ?_ _) | (with_reducible refine up_drewN ?_ _) | (with_reducible refine up_drew ?_) | (with_reducible refine up_set ?_ (by first | (simp; done) | (simp; omega) | omega) _) | (refine up_trans ?_ (by with_reducible assumption))))) (by go_split_ands; exact (by repeat' (first | (with_reducible exact up_refl _) | (with_reducible assumption) | (with_reducible refine up_alloc ?_ _) | (with_reducible refine up_drewN ?_ _) | (with_reducible refine up_drew ?_) | (with_reducible refine up_set ?_ (by first | (simp; done) | (simp; omega) | omega) _) | (refine up_trans ?_ (by with_reducible assumption)))))).mono ?_); rintro e u2 ⟨rfl, hv2, hv2'⟩; have t2 := up_size hv2'; have zb2 := bx_up (bx_new _ [.int .i64 0, .int .i64 0, .int .i64 0] 36) hv2; obtain ⟨z3, z4, z5⟩ := bx3 zb2; obtain ⟨f3, f4, f5⟩ := bxf3 zb2)
              | (go_at_call 9; (with_reducible refine (unhide HSh _ _ _ (sups_up hq1 (by repeat' (first | (with_reducible exact up_refl _) | (with_reducible assumption) | (with_reducible refine up_alloc ?_ _) | (with_reducible refine up_drewN ?_ _) | (with_reducible refine up_drew ?_) | (with_reducible refine up_set ?_ (by first | (simp; done) | (simp; omega) | omega) _) | (refine up_trans ?_ (by with_reducible assumption))))) (by go_split_ands; exact (by repeat' (first | (with_reducible exact up_refl _) | (with_reducible assumption) | (with_reducible refine up_alloc ?_ _) | (with_reducible refine up_drewN ?_ _) | (with_reducible refine up_drew ?_) | (with_reducible refine up_set ?_ (by first | (simp; done) | (simp; omega) | omega) _) | (refine up_trans ?_ (by with_reducible assumption)))))).mono ?_); rintro e u2 ⟨rfl, hv2, hv2'⟩; have t2 := up_size hv2'; have zb2 := bx_up (bx_drew (bx_new _ [.int .i64 0, .int .i64 0, .int .i64 0] 36)) hv2; obtain ⟨z3, z4, z5⟩ := bx3 zb2; obtain ⟨f3, f4, f5⟩ := bxf3 zb2)
              | (go_at_call 9; (with_reducible refine (unhide HSh _ _ _ (sups_up hq1 (by repeat' (first | (with_reducible exact up_refl _) | (with_reducible assumption) | (with_reducible refine up_alloc ?_ _) | (with_reducible refine up_drewN ?_ _) | (with_reducible refine up_drew ?_) | (with_reducible refine up_set ?_ (by first | (simp; done) | (simp; omega) | omega) _) | (refine up_trans ?_ (by with_reducible assumption))))) (by go_split_ands; exact (by repeat' (first | (with_reducible exact up_refl _) | (with_reducible assumption) | (with_reducible refine up_alloc ?_ _) | (with_reducible refine up_drewN ?_ _) | (with_reducible refine up_drew ?_) | (with_reducible refine up_set ?_ (by first | (simp; done) | (simp; omega) | omega) _) | (refine up_trans ?_ (by with_reducible assumption)))))).mono ?_); rintro e u2 ⟨rfl, hv2, hv2'⟩; have t2 := up_size hv2'))
          all_goals
            have v1 : Up w3 u1 := hv1'
            have v2 : Up w3 u2 := hv2'
            go_wp2_with fail
            go_meet
            first
              | (refine ⟨u2.heap.size, by with_reducible rfl, rfl, ?_, (by repeat' (first | (with_reducible exact up_refl _) | (with_reducible assumption) | (with_reducible refine up_alloc ?_ _) | (with_reducible refine up_drewN ?_ _) | (with_reducible refine up_drew ?_) | (with_reducible refine up_set ?_ (by first | (simp; done) | (simp; omega) | omega) _) | (refine up_trans ?_ (by with_reducible assumption))))⟩; exact bx_new u2 _ 36)
              | (refine ⟨w3.heap.size, by with_reducible rfl, rfl, ?_, (have t0 := Nat.le_refl w3.heap.size; (by repeat' (first | (with_reducible exact up_refl _) | (with_reducible assumption) | (with_reducible refine up_alloc ?_ _) | (with_reducible refine up_drewN ?_ _) | (with_reducible refine up_drew ?_) | (with_reducible refine up_set ?_ (by first | (simp; done) | (simp; omega) | omega) _) | (refine up_trans ?_ (by with_reducible assumption)))))⟩; exact bx_set3 zb2)
              | (refine ⟨u1.heap.size, by with_reducible rfl, rfl, ?_, (have t3 := up_size v1; (by repeat' (first | (with_reducible exact up_refl _) | (with_reducible assumption) | (with_reducible refine up_alloc ?_ _) | (with_reducible refine up_drewN ?_ _) | (with_reducible refine up_drew ?_) | (with_reducible refine up_set ?_ (by first | (simp; done) | (simp; omega) | omega) _) | (refine up_trans ?_ (by with_reducible assumption)))))⟩; exact bx_set3 zb2)
        case rest =>
        obtain ⟨gs, rfl, rfl, hB, hu2⟩ := hcut
        obtain ⟨o0, o1, o2⟩ := bx3 hB
        have p1' := up_cell hu2 p1
        have hmax := unhide HMx
        clear HGq HSh HKq
        go_wp2_with fail
        go_meet
        exact hu2
    case rest =>
    have hu2 := hcut
    have HKey : Hid (∀ x ∈ dvs ps l, ok x = true → ∃ g d v, be = some (g, d, v) ∧ v ≤ vl x) := hide (fun x hx ho => by
      obtain ⟨c1, e1, l1⟩ := (best_min (ok := ok) (v := vl) (D := dvs ps l) (b := none)).2 x hx ho
      rw [← unhide HBE] at e1
      cases be with
      | none => cases e1
      | some c =>
        obtain ⟨g, d, v⟩ := c
        obtain rfl : (d, v) = c1 := Option.some.inj e1
        exact ⟨g, d, v, rfl, l1⟩)
    have B3 := bx_up B2 hu2
    have BA3 := bx_up BA hu2
    have U3 := up_trans U2 hu2
    clear HGR HBl HBE BA B2 U2 c0 c1
    obtain ⟨w4, hw4⟩ : ∃ w4, w4 = wc := ⟨_, rfl⟩
    rw [← hw4] at B3 BA3 U3 ⊢
    clear hw4 hu2
    obtain ⟨E8, hE8⟩ : ∃ E : Int, (if be.isSome = true then (0 : Int) else 15) = E := ⟨_, rfl⟩
    rw [hE8]
    have HE8 := hide hE8
    clear hE8
    go_wp2_with (go_at_call 11; (with_reducible refine (unhide HDs _ U3).mono ?_); rintro e w5 ⟨l2, v, gs, rfl, hp2, hs2, hown, _, hbl, hu⟩)
    obtain rfl : l2 = l := ord_unique (hp2.trans (unhide HPs).1.symm) hs2 (unhide HPs).2
    have hM : gs.length = 2 * (n - 2) := by rw [hbl.1]; exact unhide HDC l2
    obtain ⟨gr, cr, rfl, hgr⟩ := own_someO hown (by omega)
    have HA := hide (fun i (hi : i < gs.length) => (by rw [hown.cellAt i (by omega), List.getElem?_map, List.getElem?_eq_getElem hi]; rfl : w5.cell? ⟨gr, i, none⟩ = some (slV n gs[i])))
    have B5 := bx_up B3 hu
    have BA5 := bx_up BA3 hu
    have U5 := up_trans U3 hu
    have HBl := hide hbl
    have HDl := hide (unhide HDL l2)
    obtain ⟨M, hMM⟩ : ∃ M, gs.length = M := ⟨_, rfl⟩
    have HMM := hide hMM
    have HMd := hide (hbl.1.symm.trans hMM)
    rw [hMM] at hM
    have hM1 : M ≤ 96 := by omega
    obtain ⟨D, hD⟩ : ∃ D, dvs ps l2 = D := ⟨_, rfl⟩
    rw [hD] at HBl HDl HMd HKey
    rw [hMM]
    clear hbl hp2 hs2 hown hMM HDs HDL HDC U3 hD hM hgr B3 BA3 HPs
    obtain ⟨wo, hwo⟩ : ∃ wo, wo = w5 := ⟨_, rfl⟩
    rw [← hwo] at B5 BA5 U5 HBl HA ⊢
    clear hwo hu
    go_wp2_with fail
    go_loopw [12] (fun s12 wr => ∃ i : Nat, i ≤ M ∧ s12 = .int .i64 i ∧ Up wo wr) (fun s12 _ => M - (intOf s12).toNat)
    case atStart => exact ⟨0, by omega, rfl, up_refl _⟩
    case round =>
      obtain ⟨i, hi, rfl, hup⟩ := hrel
      by_cases hlt : i < M
      · have hi1 : i < gs.length := by rw [unhide HMM]; exact hlt
        have hi2 : i < D.length := by rw [unhide HMd]; exact hlt
        have ca := up_cell hup (unhide HA i hi1)
        have hbx := bx_up ((unhide HBl).2 i hi1 hi2) hup
        have hld := unhide HDl _ (List.getElem_mem hi2)
        have hkey := unhide HKey _ (List.getElem_mem hi2)
        obtain ⟨x0, x1⟩ := bx2 (bx_up B5 hup)
        have ba := bx_up BA5 hup
        obtain ⟨g, hg⟩ : ∃ g, gs[i] = g := ⟨_, rfl⟩
        obtain ⟨d, hd⟩ : ∃ d, D[i] = d := ⟨_, rfl⟩
        rw [hg] at ca hbx
        rw [hd] at hbx hld hkey
        unfold slV at ca
        have hgq : ∀ W, Up wr W → _ := fun W hW => (unhide HG W g d (up_trans (up_trans U5 hup) hW) (bx_up hbx hW) hld)
        have ql := unhide HQL d hld
        have hsq := fun W B c => unhide HSq W B d c hld
        obtain ⟨hok, hvl⟩ := unhide HOk d
        clear HG HSq HQL HOk HBl HDl HKey HA hbx hg hd hi1 hi2
        obtain ⟨q, hq⟩ : ∃ q, grp ps d = q := ⟨_, rfl⟩
        rw [hq] at hgq ql hsq hok hvl
        rw [ql] at hgq hsq
        rw [hld] at hgq
        obtain ⟨v, hv⟩ : ∃ v, vl d = v := ⟨_, rfl⟩
        rw [hv] at hvl hkey
        rw [hok] at hkey
        generalize shV q m X Y (up m (paD q) (pa0 q X Y)) = r0 at *
        generalize shV q m X Y (up m (paD q) (pa1 q X Y)) = r1 at *
        generalize shV q m X Y (up m (paD q) (pa2 q X Y)) = r2 at *
        generalize shE q m X Y = E at *
        have hmax := fun (ts : Array TypeId) (t : TypeId) (W : World) => run_max3D (P := Try.prog) ts t r0 r1 r2 W
        rw [← hvl] at hmax
        have HMx := hide hmax
        have HKey := hide hkey
        have BAh := hide ba
        have HGq := hide (fun W (hW : Up wr W) => (hgq W hW).mono fun e w' h => (⟨h.1, h.2, up_trans hW h.2⟩ : _ ∧ _ ∧ _))
        have HSh := hide (fun W B c (hS : Sups W B q) (hW : Up wr W) => (hsq W B c hS).mono fun e w' h => (⟨h.1, h.2, up_trans hW h.2⟩ : _ ∧ _ ∧ _))
        have hzr : w.heap.size < wr.heap.size := World.block_lt_of_cell? _ _ x0
        have HKq := hide (fun W (hW : Up wr W) => (⟨up_cell hW ca, up_cell hW x0, up_cell hW x1, hW⟩ : W.cell? ⟨gr, i, none⟩ = some (.slice (some ⟨g, 0, none⟩) n n) ∧ W.cell? ⟨w.heap.size, 0, none⟩ = some (.int .i64 X) ∧ W.cell? ⟨w.heap.size, 1, none⟩ = some (.int .i64 Y) ∧ Up wr W))
        have hwk : IntKind.i64.wrap ((i : Int) + 1) = (i : Int) + 1 := IntWalk.i64_in _ ⟨by omega, by omega⟩
        have i0 : (0 : Int) ≤ (i : Int) := by omega
        have i1 : (i : Int) < (M : Int) := by omega
        clear hgq hsq hmax hok hvl hq ql hld hkey ba HN
        obtain ⟨wx, rfl⟩ : ∃ wx, wx = wr := ⟨_, rfl⟩
        go_upto_region 16 with fail
        go_cut [13, 14] (fun s9 s10 wy => ∃ gt : Nat, s9 = .pointer (some ⟨gt, 0, none⟩) ∧ s10 = .int .i64 E ∧ Bx wy gt [.int .i64 r0, .int .i64 r1, .int .i64 r2] ∧ Up wx wy)
        case first =>
          have t0 := Nat.le_refl wx.heap.size
          clear HMx B5 BA5 U5 HKey BAh
          go_region_held3 (fun wy => wy.cell? ⟨gr, i, none⟩ = some (.slice (some ⟨g, 0, none⟩) n n) ∧ wy.cell? ⟨w.heap.size, 0, none⟩ = some (.int .i64 X) ∧ wy.cell? ⟨w.heap.size, 1, none⟩ = some (.int .i64 Y) ∧ Up wx wy) ((go_split_ands; exact unhide HKq _ (by repeat' (first | (with_reducible exact up_refl _) | (with_reducible assumption) | (with_reducible refine up_alloc ?_ _) | (with_reducible refine up_drewN ?_ _) | (with_reducible refine up_drew ?_) | (with_reducible refine up_set ?_ (by first | (simp; done) | (simp; omega) | omega) _) | (refine up_trans ?_ (by with_reducible assumption))))))
            (first
              | (go_at_call 10; (with_reducible refine (unhide HGq _ (by go_split_ands; exact (by repeat' (first | (with_reducible exact up_refl _) | (with_reducible assumption) | (with_reducible refine up_alloc ?_ _) | (with_reducible refine up_drewN ?_ _) | (with_reducible refine up_drew ?_) | (with_reducible refine up_set ?_ (by first | (simp; done) | (simp; omega) | omega) _) | (refine up_trans ?_ (by with_reducible assumption)))))).mono ?_); rintro e u1 ⟨⟨gq, cq, rfl, hq1⟩, hv1, hv1'⟩; have t1 := up_size hv1'; have zb := bx_up (bx_new _ [.int .i64 0, .int .i64 0, .int .i64 0] 36) hv1)
              | (go_at_call 10; (with_reducible refine (unhide HGq _ (by go_split_ands; exact (by repeat' (first | (with_reducible exact up_refl _) | (with_reducible assumption) | (with_reducible refine up_alloc ?_ _) | (with_reducible refine up_drewN ?_ _) | (with_reducible refine up_drew ?_) | (with_reducible refine up_set ?_ (by first | (simp; done) | (simp; omega) | omega) _) | (refine up_trans ?_ (by with_reducible assumption)))))).mono ?_); rintro e u1 ⟨⟨gq, cq, rfl, hq1⟩, hv1, hv1'⟩; have t1 := up_size hv1'; have zb := bx_up (bx_drew (bx_new _ [.int .i64 0, .int .i64 0, .int .i64 0] 36)) hv1)
              | (go_at_call 10; (with_reducible refine (unhide HGq _ (by go_split_ands; exact (by repeat' (first | (with_reducible exact up_refl _) | (with_reducible assumption) | (with_reducible refine up_alloc ?_ _) | (with_reducible refine up_drewN ?_ _) | (with_reducible refine up_drew ?_) | (with_reducible refine up_set ?_ (by first | (simp; done) | (simp; omega) | omega) _) | (refine up_trans ?_ (by with_reducible assumption)))))).mono ?_); rintro e u1 ⟨⟨gq, cq, rfl, hq1⟩, hv1, hv1'⟩; have t1 := up_size hv1')
              | (go_at_call 9; (with_reducible refine (unhide HSh _ _ _ (sups_up hq1 (by repeat' (first | (with_reducible exact up_refl _) | (with_reducible assumption) | (with_reducible refine up_alloc ?_ _) | (with_reducible refine up_drewN ?_ _) | (with_reducible refine up_drew ?_) | (with_reducible refine up_set ?_ (by first | (simp; done) | (simp; omega) | omega) _) | (refine up_trans ?_ (by with_reducible assumption))))) (by go_split_ands; exact (by repeat' (first | (with_reducible exact up_refl _) | (with_reducible assumption) | (with_reducible refine up_alloc ?_ _) | (with_reducible refine up_drewN ?_ _) | (with_reducible refine up_drew ?_) | (with_reducible refine up_set ?_ (by first | (simp; done) | (simp; omega) | omega) _) | (refine up_trans ?_ (by with_reducible assumption)))))).mono ?_); rintro e u2 ⟨rfl, hv2, hv2'⟩; have t2 := up_size hv2'; have zb2 := bx_up zb hv2; obtain ⟨z3, z4, z5⟩ := bx3 zb2; obtain ⟨f3, f4, f5⟩ := bxf3 zb2)
              | (go_at_call 9; (with_reducible refine (unhide HSh _ _ _ (sups_up hq1 (by repeat' (first | (with_reducible exact up_refl _) | (with_reducible assumption) | (with_reducible refine up_alloc ?_ _) | (with_reducible refine up_drewN ?_ _) | (with_reducible refine up_drew ?_) | (with_reducible refine up_set ?_ (by first | (simp; done) | (simp; omega) | omega) _) | (refine up_trans ?_ (by with_reducible assumption))))) (by go_split_ands; exact (by repeat' (first | (with_reducible exact up_refl _) | (with_reducible assumption) | (with_reducible refine up_alloc ?_ _) | (with_reducible refine up_drewN ?_ _) | (with_reducible refine up_drew ?_) | (with_reducible refine up_set ?_ (by first | (simp; done) | (simp; omega) | omega) _) | (refine up_trans ?_ (by with_reducible assumption)))))).mono ?_); rintro e u2 ⟨rfl, hv2, hv2'⟩; have t2 := up_size hv2'; have zb2 := bx_up (bx_new _ [.int .i64 0, .int .i64 0, .int .i64 0] 36) hv2; obtain ⟨z3, z4, z5⟩ := bx3 zb2; obtain ⟨f3, f4, f5⟩ := bxf3 zb2)
              | (go_at_call 9; (with_reducible refine (unhide HSh _ _ _ (sups_up hq1 (by repeat' (first | (with_reducible exact up_refl _) | (with_reducible assumption) | (with_reducible refine up_alloc ?_ _) | (with_reducible refine up_drewN ?_ _) | (with_reducible refine up_drew ?_) | (with_reducible refine up_set ?_ (by first | (simp; done) | (simp; omega) | omega) _) | (refine up_trans ?_ (by with_reducible assumption))))) (by go_split_ands; exact (by repeat' (first | (with_reducible exact up_refl _) | (with_reducible assumption) | (with_reducible refine up_alloc ?_ _) | (with_reducible refine up_drewN ?_ _) | (with_reducible refine up_drew ?_) | (with_reducible refine up_set ?_ (by first | (simp; done) | (simp; omega) | omega) _) | (refine up_trans ?_ (by with_reducible assumption)))))).mono ?_); rintro e u2 ⟨rfl, hv2, hv2'⟩; have t2 := up_size hv2'; have zb2 := bx_up (bx_drew (bx_new _ [.int .i64 0, .int .i64 0, .int .i64 0] 36)) hv2; obtain ⟨z3, z4, z5⟩ := bx3 zb2; obtain ⟨f3, f4, f5⟩ := bxf3 zb2)
              | (go_at_call 9; (with_reducible refine (unhide HSh _ _ _ (sups_up hq1 (by repeat' (first | (with_reducible exact up_refl _) | (with_reducible assumption) | (with_reducible refine up_alloc ?_ _) | (with_reducible refine up_drewN ?_ _) | (with_reducible refine up_drew ?_) | (with_reducible refine up_set ?_ (by first | (simp; done) | (simp; omega) | omega) _) | (refine up_trans ?_ (by with_reducible assumption))))) (by go_split_ands; exact (by repeat' (first | (with_reducible exact up_refl _) | (with_reducible assumption) | (with_reducible refine up_alloc ?_ _) | (with_reducible refine up_drewN ?_ _) | (with_reducible refine up_drew ?_) | (with_reducible refine up_set ?_ (by first | (simp; done) | (simp; omega) | omega) _) | (refine up_trans ?_ (by with_reducible assumption)))))).mono ?_); rintro e u2 ⟨rfl, hv2, hv2'⟩; have t2 := up_size hv2'))
          all_goals
            have v1 : Up wx u1 := hv1'
            have v2 : Up wx u2 := hv2'
            go_wp2_with fail
            go_meet
            first
              | (refine ⟨u2.heap.size, by with_reducible rfl, rfl, ?_, (by repeat' (first | (with_reducible exact up_refl _) | (with_reducible assumption) | (with_reducible refine up_alloc ?_ _) | (with_reducible refine up_drewN ?_ _) | (with_reducible refine up_drew ?_) | (with_reducible refine up_set ?_ (by first | (simp; done) | (simp; omega) | omega) _) | (refine up_trans ?_ (by with_reducible assumption))))⟩; exact bx_new u2 _ 36)
              | (refine ⟨wx.heap.size, by with_reducible rfl, rfl, ?_, (have t0 := Nat.le_refl wx.heap.size; (by repeat' (first | (with_reducible exact up_refl _) | (with_reducible assumption) | (with_reducible refine up_alloc ?_ _) | (with_reducible refine up_drewN ?_ _) | (with_reducible refine up_drew ?_) | (with_reducible refine up_set ?_ (by first | (simp; done) | (simp; omega) | omega) _) | (refine up_trans ?_ (by with_reducible assumption)))))⟩; exact bx_set3 zb2)
              | (refine ⟨u1.heap.size, by with_reducible rfl, rfl, ?_, (have t3 := up_size v1; (by repeat' (first | (with_reducible exact up_refl _) | (with_reducible assumption) | (with_reducible refine up_alloc ?_ _) | (with_reducible refine up_drewN ?_ _) | (with_reducible refine up_drew ?_) | (with_reducible refine up_set ?_ (by first | (simp; done) | (simp; omega) | omega) _) | (refine up_trans ?_ (by with_reducible assumption)))))⟩; exact bx_set3 zb2)
        case rest =>
        obtain ⟨gt, rfl, rfl, hB, hu3⟩ := hcut
        obtain ⟨o0, o1, o2⟩ := bx3 hB
        have BAi := bx_up (unhide BAh) hu3
        have hmax := unhide HMx
        have hupp := up_trans hup hu3
        clear HGq HSh HKq ca x0 x1 hup hu3 BAh
        by_cases hE : E = 0
        · subst hE
          obtain ⟨g', d', v', rfl, hle⟩ := unhide HKey rfl
          have ba : Bx wc a [.slice (some ⟨g', 0, none⟩) n n, .int .i64 v'] := BAi
          obtain ⟨p0, p1⟩ := bx2 ba
          have hdl : decide (v < v') = false := decide_eq_false (by omega)
          clear HKey BAi ba
          have hE8 : E8 = 0 := by rw [← unhide HE8]; rfl
          subst hE8
          go_wp2_with fail
          go_roundw
          case rel => exact ⟨i + 1, by omega, by first | rfl | trivial | go_num, hupp⟩
          case measure => simp [intOf]; omega
        · have e1 : (E == 0) = false := beq_false_of_ne hE
          clear HKey BAi
          go_wp2_with fail
          go_roundw
          case rel => exact ⟨i + 1, by omega, by first | rfl | trivial | go_num, hupp⟩
          case measure => simp [intOf]; omega
      · obtain rfl : i = M := by omega
        have hU := up_trans U5 hup
        clear HG HSq HQL HOk HBl HDl HKey HA B5 BA5
        go_wp2_with (go_at_call 5; refine (l_known _).mono ?_; rintro e v2 ⟨rfl, hv2⟩)
        go_ret
        exact ⟨rfl, (by repeat' (first | (with_reducible exact up_refl _) | (with_reducible assumption) | (with_reducible refine up_alloc ?_ _) | (with_reducible refine up_drewN ?_ _) | (with_reducible refine up_drew ?_) | (with_reducible refine up_set ?_ (by first | (simp; done) | (simp; omega) | omega) _) | (refine up_trans ?_ (by with_reducible assumption))))⟩
  · have HC : Hid (∀ W, Up w W → Calls Try.prog 6 #[.slice A ps.length cap, .int .i64 m, pt X Y] W fun e w' => e = .returned (.tuple #[.agg #[.slice none 0 0, .int .i64 0], .int .i64 (boE ps m X Y)]) ∧ Up W w') := hide (fun W hW => (unhide HP W hW).mono fun e w' ⟨be, hd, he, hu⟩ => ⟨by rw [he, hd.1 hE]; unfold dvE beA; rw [if_neg hE], hu⟩)
    have e1 : (boE ps m X Y == 0) = false := beq_false_of_ne hE
    have e2 : (boE ps m X Y == 15) = false := beq_false_of_ne H15
    have e3 : (boE ps m X Y != 0) = true := by rw [bne, e1]; rfl
    have e4 : (boE ps m X Y != 15) = true := by rw [bne, e2]; rfl
    clear HP hE H15 h
    generalize boE ps m X Y = E at *
    generalize ps.length = n at *
    by_cases g1 : 48 < (n : Int)
    · go_enter Try.func4, Try.ntmps4
      go_wp2_with (go_at_call 5; refine (l_known _).mono ?_; rintro e w2 ⟨rfl, hb2⟩)
      go_ret
      exact ⟨rfl, (by repeat' (first | (with_reducible exact up_refl _) | (with_reducible assumption) | (with_reducible refine up_alloc ?_ _) | (with_reducible refine up_drewN ?_ _) | (with_reducible refine up_drew ?_) | (with_reducible refine up_set ?_ (by first | (simp; done) | (simp; omega) | omega) _) | (refine up_trans ?_ (by with_reducible assumption))))⟩
    · have d1 : decide ((48 : Int) < n) = false := by simp only [decide_eq_false_iff_not]; exact g1
      go_enter Try.func4, Try.ntmps4
      go_wp2_with (first | (go_at_call 6; (with_reducible refine (unhide HC _ (by repeat' (first | (with_reducible exact up_refl _) | (with_reducible assumption) | (with_reducible refine up_alloc ?_ _) | (with_reducible refine up_drewN ?_ _) | (with_reducible refine up_drew ?_) | (with_reducible refine up_set ?_ (by first | (simp; done) | (simp; omega) | omega) _) | (refine up_trans ?_ (by with_reducible assumption))))).mono ?_); rintro e w1 ⟨rfl, hb1⟩) | (go_at_call 5; refine (l_known _).mono ?_; rintro e w2 ⟨rfl, hb2⟩))
      go_ret
      exact ⟨rfl, (by repeat' (first | (with_reducible exact up_refl _) | (with_reducible assumption) | (with_reducible refine up_alloc ?_ _) | (with_reducible refine up_drewN ?_ _) | (with_reducible refine up_drew ?_) | (with_reducible refine up_set ?_ (by first | (simp; done) | (simp; omega) | omega) _) | (refine up_trans ?_ (by with_reducible assumption))))⟩
end Go.Proofs.Ytepblnnebeglbaa
