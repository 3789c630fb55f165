/- StaticsDivides: the law's function returns true. -/
import Derived.Test.YtepblnnebeglbaaDivide
import Derived.Test.YtepblnnebeglbaaRefDiv
import Derived.Test.YtepblnnebeglbaaSortO
import Derived.Test.YtepblnnebeglbaaSameI
import Derived.Test.YtepblnnebeglbaaKnown
namespace Go.Proofs.Ytepblnnebeglbaa
open Go.RowKit Go.Proofs.Gn
theorem r_Divide (A : Option Addr) (ps : List Gs.Sup) (cap : Nat) (m X Y : Int) (w : World) (h : Sups w A ps) (hn : ps.length ≤ 9223372036854775807) :
    Calls Try.prog 7 #[.slice A ps.length cap, .int .i64 m, pt X Y] w fun e w' => ∃ be : BestA, DvPost ps m X Y be w' ∧ e = .returned (.tuple #[beA ps.length be, .int .i64 (dvE ps m X Y be)]) ∧ Up w w' := by
  by_cases hE : boE ps m X Y = 0
  · obtain ⟨hat, _, _⟩ := boE_ok hE
    obtain ⟨_, _, h3, _⟩ := chE_ok (atE_ok hat).1
    rcases h with hx | ⟨b, off, rfl, hc⟩
    · rw [hx] at h3; simp at h3
    refine (r_DivideO b off cap ps m X Y w hc hE).mono ?_
    rintro e w' ⟨l, be, hp, hs, hbe, rfl, hbx, hu⟩
    refine ⟨be, ⟨fun k => absurd hE k, fun _ => ⟨l, hp, hs, hbe⟩, hbx⟩, ?_, hu⟩
    unfold dvE; rw [if_pos hE]
  · refine (r_DivideE A ps cap m X Y w h hn hE).mono ?_
    rintro e w' ⟨rfl, hu⟩
    refine ⟨none, ⟨fun _ => rfl, fun k => absurd k hE, fun _ _ _ k => nomatch k⟩, ?_, hu⟩
    unfold dvE; rw [if_neg hE]
/-- Both sides find the same division. -/
theorem dv_same {ps : List Gs.Sup} {m X Y : Int} {b1 b2 : BestA} {W1 W2 : World} (h1 : DvPost ps m X Y b1 W1) (h2 : DvPost ps m X Y b2 W2) : b1.map (·.2) = b2.map (·.2) := by
  by_cases hE : boE ps m X Y = 0
  · obtain ⟨l1, p1, s1, e1⟩ := h1.2.1 hE
    obtain ⟨l2, p2, s2, e2⟩ := h2.2.1 hE
    rw [e1, e2, ord_unique (p1.trans p2.symm) s1 s2]
  · rw [h1.1 hE, h2.1 hE]
theorem dvPost_up {ps : List Gs.Sup} {m X Y : Int} {b : BestA} {W W' : World} (h : DvPost ps m X Y b W) (hu : Up W W') : DvPost ps m X Y b W' := ⟨h.1, h.2.1, fun g d v e => bx_up (h.2.2 g d v e) hu⟩
theorem dv_len {ps : List Gs.Sup} {m X Y : Int} {b : BestA} {W : World} (h : DvPost ps m X Y b W) {g : Nat} {d : List Int} {v : Int} (e : b = some (g, d, v)) : boE ps m X Y = 0 ∧ d.length = ps.length := by
  by_cases hE : boE ps m X Y = 0
  · obtain ⟨l, _, _, e1⟩ := h.2.1 hE
    subst e
    refine ⟨hE, ?_⟩
    rcases best_mem e1.symm with k | k
    · cases k
    · exact dvs_len _ k
  · rw [h.1 hE] at e; cases e
theorem run_append_nil0 {P : Program} (w : World) (t ty e : TypeId) (i : TypeInfo) (ht : P.underlying t = some (.slice e)) (hi : P.info? e = some i) (b : Option Addr) (c : Nat) :
    (Builtin.append_ #[t, t] ty #[.slice b 0 0, .slice none 0 c]).run P w = .ok (.slice b 0 0) w := by
  cases b <;> simp [Builtin.append_, run_underlying ht, sizeOf, typeInfo, hi, Builtin.lenOf, Builtin.firstCells, storeCells]
theorem own_supsD {W : World} {base e n g cap : Nat} {ps : List Gs.Sup} (h : W.ownsRow base e 6 (.slice (some ⟨g, 0, none⟩) n cap) n (cellsS ps)) : SupsO W g 0 ps := by
  intro k hk
  have t := (g_new (gr := []) h k hk).1
  rw [if_neg (by omega)] at t
  exact t
set_option maxRecDepth 100000 in
set_option maxHeartbeats 16000000 in
theorem l_Divides (A : Option Addr) (ps : List Gs.Sup) (cap : Nat) (m X Y : Int) (w : World) (h : Sups w A ps) (hn : ps.length ≤ 9223372036854775807) :
    Calls Try.prog 3 #[.slice A ps.length cap, .int .i64 m, pt X Y] w fun e w' => e = .returned (.bool true) ∧ Up w w' := by
  have HP := hide (fun W B c (hW : Sups W B ps) => p_Divide sortsO B ps c m X Y W hW hn)
  have HR := hide (fun W (hW : Up w W) => r_Divide A ps cap m X Y W (sups_up h hW) hn)
  have HS := hide h
  have HDS := hide (fun (b1 b2 : BestA) (W1 W2 : World) (h1 : DvPost ps m X Y b1 W1) (h2 : DvPost ps m X Y b2 W2) => dv_same h1 h2)
  have HDL := hide (fun (b : BestA) (W : World) (h : DvPost ps m X Y b W) (g : Nat) (d : List Int) (v : Int) (e : b = some (g, d, v)) => dv_len h e)
  obtain ⟨i1', hj, hy0, hy1, hy2⟩ := info_parts info_sup
  have HJ := hide hj
  have hap := fun (b : Addr) (W : World) => run_append_nil0 W 22 22 33 i1' Try.underlying22 hj (some b) cap
  have hls0 := cellsS_length ps
  clear h hj
  obtain ⟨n, hN⟩ : ∃ n, ps.length = n := ⟨_, rfl⟩
  have HN := hide hN
  rw [hN] at HP HR hn hls0 HDL ⊢
  clear hN
  by_cases g1 : 60 < (n : Int)
  · clear HP HR hap
    go_enter Try.func3, Try.ntmps3
    go_wp2_with (go_at_call 5; refine (l_known _).mono ?_; rintro e w2 ⟨rfl, hb2⟩)
    go_ret
    exact ⟨rfl, (by repeat' (first | (with_reducible exact up_refl _) | (with_reducible assumption) | (with_reducible refine up_alloc ?_ _) | (with_reducible refine up_drewN ?_ _) | (with_reducible refine up_drew ?_) | (with_reducible refine up_set ?_ (by first | (simp; done) | (simp; omega) | omega) _) | (refine up_trans ?_ (by with_reducible assumption))))⟩
  have d1 : decide ((60 : Int) < n) = false := by simp only [decide_eq_false_iff_not]; exact g1
  go_enter Try.func3, Try.ntmps3
  go_upto_region 3 with fail
  refine at_wp (fun W1 hW1 => ?_)
  have B1 : Bx W1 w.heap.size [.int .i64 X, .int .i64 Y] := by rw [hW1]; exact bx_new w _ 24
  have U1 : Up w W1 := by rw [hW1]; exact (by repeat' (first | (with_reducible exact up_refl _) | (with_reducible assumption) | (with_reducible refine up_alloc ?_ _) | (with_reducible refine up_drewN ?_ _) | (with_reducible refine up_drew ?_) | (with_reducible refine up_set ?_ (by first | (simp; done) | (simp; omega) | omega) _) | (refine up_trans ?_ (by with_reducible assumption))))
  clear hW1
  go_cut [7] (fun s7 wx => ∃ (B : Option Addr) (c : Nat), s7 = .slice B n c ∧ Hid (Sups wx B ps) ∧ Up W1 wx)
  case first => as_aux_lemma =>
    clear HP HR HDS HDL
    rcases unhide HS with hx | ⟨ba, off, rfl, hc⟩
    · have h0 : n = 0 := by rw [← unhide HN, hx]; rfl
      subst h0
      clear hls0
      rcases A with _ | ad
      · go_wp2_with fail
        go_meet
        exact ⟨_, _, by with_reducible rfl, hide (.inl hx), (by repeat' (first | (with_reducible exact up_refl _) | (with_reducible assumption) | (with_reducible refine up_alloc ?_ _) | (with_reducible refine up_drewN ?_ _) | (with_reducible refine up_drew ?_) | (with_reducible refine up_set ?_ (by first | (simp; done) | (simp; omega) | omega) _) | (refine up_trans ?_ (by with_reducible assumption))))⟩
      · go_wp2_with (at_builtin; refine wpList_append_own _ rfl _ _ 22 rfl W1.heap.size 33 i1' _ 6 48 Try.underlying22 (unhide HJ) hy0 hy1 hy2 rfl (by decide) (.slice (some ⟨W1.heap.size, 0, none⟩) 0 0) 0 [] rfl (World.ownsRow_made W1 #[] 0 (Nat.le_refl _) (by unfold maxLen; omega) rfl) ad 0 cap [] rfl rfl (fun j u hj => by simp at hj) (fun u hu => by simp at hu) (by unfold maxLen; omega) (by omega) (by simp) ?_; intro vq W2 hown hgrow _)
        have U2 : Up W1 W2 := (up_alloc (up_refl W1) _).grown hgrow (by simp) (by intro j hj; simp [Value.ownBlock] at hj; omega)
        rcases hown.2 with ⟨hv, _⟩ | ⟨g, cq, cur, hv, _⟩
        · subst hv
          clear hown hgrow
          go_wp2_with fail
          go_meet
          exact ⟨_, _, by with_reducible rfl, hide (.inl hx), U2⟩
        · subst hv
          clear hown hgrow
          go_wp2_with fail
          go_meet
          exact ⟨_, _, by with_reducible rfl, hide (.inl hx), U2⟩
    · have HNW := hide (cellsS_news (W := W1.alloc (.cells #[] 33)) fun k hk => supAt_up (hc k hk) (up_alloc U1 _))
      have hne : ∀ g cq (W : World), W.ownsRow W1.heap.size 33 6 (.slice (some ⟨g, 0, none⟩) n cq) n (cellsS ps) → Hid (Sups W (some ⟨g, 0, none⟩) ps) := fun g cq W ho => hide (.inr ⟨g, 0, rfl, own_supsD ho⟩)
      clear hc
      go_wp2_with (at_builtin; refine wpList_append_own _ rfl _ _ 22 rfl W1.heap.size 33 i1' _ 6 48 Try.underlying22 (unhide HJ) hy0 hy1 hy2 rfl (by decide) (.slice (some ⟨W1.heap.size, 0, none⟩) 0 0) 0 [] rfl (World.ownsRow_made W1 #[] 0 (Nat.le_refl _) (by unfold maxLen; omega) rfl) ⟨ba, off, none⟩ n cap (cellsS ps) rfl hls0 (unhide HNW) (cellsS_one ps) (by unfold maxLen; omega) (by omega) (by simp) ?_; intro vq W2 hown hgrow _)
      simp only [Nat.zero_add, List.nil_append] at hown
      have U2 : Up W1 W2 := (up_alloc (up_refl W1) _).grown hgrow (by simp) (by intro j hj; simp [Value.ownBlock] at hj; omega)
      rcases hown.2 with ⟨hv, h00⟩ | ⟨g, cq, cur, hv, _⟩
      · have e1 : n = 0 := h00
        have e0 : ps = [] := List.eq_nil_of_length_eq_zero (by rw [unhide HN]; exact e1)
        subst hv
        subst e1
        clear hown hgrow h00 hls0 HNW
        go_wp2_with fail
        go_meet
        exact ⟨_, _, by with_reducible rfl, hide (.inl e0), U2⟩
      · subst hv
        have hq := hne _ _ _ hown
        clear hown hgrow hls0 HNW hne
        go_wp2_with fail
        go_meet
        exact ⟨_, _, by with_reducible rfl, hq, U2⟩
  case rest =>
    obtain ⟨B, c, rfl, hS, hu⟩ := hcut
    have B2 := bx_up B1 hu
    have U2 := up_trans U1 hu
    have HPw := hide (fun W (hW : Up wc W) => unhide HP W B c (sups_up (unhide hS) hW))
    clear hap hls0 HJ B1 U1 hu HP
    obtain ⟨w0, hw0⟩ : ∃ w0, w0 = wc := ⟨_, rfl⟩
    rw [← hw0] at B2 U2 hS HPw ⊢
    clear hw0
    obtain ⟨c0, c1⟩ := bx2 B2
    go_upto_region 4 with fail
    go_cut [8, 9] (fun s8 s9 wx => ∃ (a : Nat) (be : BestA), s8 = .pointer (some ⟨a, 0, none⟩) ∧ s9 = .int .i64 (dvE ps m X Y be) ∧ Bx wx a (beV n be) ∧ Hid (DvPost ps m X Y be wx) ∧ Up w0 wx)
    case first =>
      go_wp2_with fail
      refine (unhide HPw _ (up_refl _)).mono ?_
      rintro e w2 ⟨be, hd, rfl, hb⟩
      have HD := hide (dvPost_up hd (up_alloc (up_refl w2) (.cells (beV n be).toArray 28)))
      have BB := bx_new w2 (beV n be) 28
      obtain ⟨E, hE⟩ : ∃ E, dvE ps m X Y be = E := ⟨_, rfl⟩
      have HE := hide hE
      rw [hE]
      clear hd HR HDS HDL hE
      rcases be with _ | ⟨g, d, v⟩
      · simp only [beA]
        go_wp2_with fail
        go_meet
        exact ⟨_, _, by with_reducible rfl, by rw [unhide HE], BB, HD, (by repeat' (first | (with_reducible exact up_refl _) | (with_reducible assumption) | (with_reducible refine up_alloc ?_ _) | (with_reducible refine up_drewN ?_ _) | (with_reducible refine up_drew ?_) | (with_reducible refine up_set ?_ (by first | (simp; done) | (simp; omega) | omega) _) | (refine up_trans ?_ (by with_reducible assumption))))⟩
      · simp only [beA, slV]
        go_wp2_with fail
        go_meet
        exact ⟨_, _, by with_reducible rfl, by rw [unhide HE], BB, HD, (by repeat' (first | (with_reducible exact up_refl _) | (with_reducible assumption) | (with_reducible refine up_alloc ?_ _) | (with_reducible refine up_drewN ?_ _) | (with_reducible refine up_drew ?_) | (with_reducible refine up_set ?_ (by first | (simp; done) | (simp; omega) | omega) _) | (refine up_trans ?_ (by with_reducible assumption))))⟩
    case rest =>
    obtain ⟨a1, be1, rfl, rfl, BA, HD1, hu1⟩ := hcut
    have B3 := bx_up B2 hu1
    have HRw := hide (fun W (hW : Up wc W) => unhide HR W (up_trans (up_trans U2 hu1) hW))
    clear HR HPw c0 c1
    obtain ⟨w3, hw3⟩ : ∃ w3, w3 = wc := ⟨_, rfl⟩
    rw [← hw3] at B3 BA HD1 hu1 HRw ⊢
    clear hw3 B2
    obtain ⟨c0, c1⟩ := bx2 B3
    obtain ⟨E1, hE1⟩ : ∃ E, dvE ps m X Y be1 = E := ⟨_, rfl⟩
    have HE1 := hide hE1
    rw [hE1]
    clear hE1
    go_upto_region 5 with fail
    go_cut [10, 11] (fun s8 s9 wx => ∃ (a : Nat) (be : BestA), s8 = .pointer (some ⟨a, 0, none⟩) ∧ s9 = .int .i64 (dvE ps m X Y be) ∧ Bx wx a (beV n be) ∧ Hid (DvPost ps m X Y be wx) ∧ Up w3 wx)
    case first =>
      go_wp2_with fail
      refine (unhide HRw _ (up_refl _)).mono ?_
      rintro e w2 ⟨be, hd, rfl, hb⟩
      have HD := hide (dvPost_up hd (up_alloc (up_refl w2) (.cells (beV n be).toArray 28)))
      have BB := bx_new w2 (beV n be) 28
      obtain ⟨E, hE⟩ : ∃ E, dvE ps m X Y be = E := ⟨_, rfl⟩
      have HE := hide hE
      rw [hE]
      clear hd HDS HDL hE HD1 BA
      rcases be with _ | ⟨g, d, v⟩
      · simp only [beA]
        go_wp2_with fail
        go_meet
        exact ⟨_, _, by with_reducible rfl, by rw [unhide HE], BB, HD, (by repeat' (first | (with_reducible exact up_refl _) | (with_reducible assumption) | (with_reducible refine up_alloc ?_ _) | (with_reducible refine up_drewN ?_ _) | (with_reducible refine up_drew ?_) | (with_reducible refine up_set ?_ (by first | (simp; done) | (simp; omega) | omega) _) | (refine up_trans ?_ (by with_reducible assumption))))⟩
      · simp only [beA, slV]
        go_wp2_with fail
        go_meet
        exact ⟨_, _, by with_reducible rfl, by rw [unhide HE], BB, HD, (by repeat' (first | (with_reducible exact up_refl _) | (with_reducible assumption) | (with_reducible refine up_alloc ?_ _) | (with_reducible refine up_drewN ?_ _) | (with_reducible refine up_drew ?_) | (with_reducible refine up_set ?_ (by first | (simp; done) | (simp; omega) | omega) _) | (refine up_trans ?_ (by with_reducible assumption))))⟩
    case rest =>
    obtain ⟨a2, be2, rfl, rfl, BB, HD2, hu2⟩ := hcut
    have hsame := unhide HDS be1 be2 _ _ (unhide HD1) (unhide HD2)
    have eE : dvE ps m X Y be2 = E1 := by
      rw [← unhide HE1]
      unfold dvE
      have : be1.isSome = be2.isSome := by have t := congrArg Option.isSome hsame; simpa using t
      rw [this]
    rw [eE]
    clear eE
    have BA2 := bx_up BA hu2
    have HD1' := hide (dvPost_up (unhide HD1) hu2)
    have U4 := up_trans (up_trans U2 hu1) hu2
    have HSq := hide (sups_up (unhide hS) (up_trans hu1 hu2))
    have HSp := hide (sups_up (unhide HS) U4)
    have hSI : Hid (∃ S1 S2 L, beV n be1 = [S1, .int .i64 L] ∧ beV n be2 = [S2, .int .i64 L] ∧ ∀ W, Up wc W → Calls Try.prog 8 #[S1, S2] W fun e w' => e = .returned (.bool true) ∧ Up W w') := by
      rcases be1 with _ | ⟨x1, d1', v1⟩
      · rcases be2 with _ | ⟨x2, d2', v2⟩
        · refine hide ⟨_, _, 0, rfl, rfl, fun W hW => ?_⟩
          have t := l_sameI none none [] [] 0 0 W (.inl rfl) (.inl rfl) (by simp) (by simp)
          exact t.mono fun e w' ⟨h1, h2⟩ => ⟨by rw [h1]; simp, h2⟩
        · cases hsame
      · rcases be2 with _ | ⟨x2, d2', v2⟩
        · cases hsame
        · have k1 := (unhide HDL _ _ (unhide HD1) _ _ _ rfl).2
          simp only [Option.map_some, Option.some.injEq, Prod.mk.injEq] at hsame
          obtain ⟨rfl, rfl⟩ := hsame
          refine hide ⟨_, _, v1, rfl, rfl, fun W hW => ?_⟩
          have t := l_sameI (some ⟨x1, 0, none⟩) (some ⟨x2, 0, none⟩) d1' d1' n n W (bx_intsG (bx_up ((unhide HD1').2.2 _ _ _ rfl) hW)) (bx_intsG (bx_up ((unhide HD2).2.2 _ _ _ rfl) hW)) (by omega) (by omega)
          rw [k1] at t
          exact t.mono fun e w' ⟨h1, h2⟩ => ⟨by rw [h1]; simp, h2⟩
    clear HD1 HD2 HD1' HDS HDL HE1 hsame HRw BA hS HS B3 c0 c1
    obtain ⟨S1, S2, L, e1, e2, hsi⟩ := unhide hSI
    rw [e1] at BA2
    rw [e2] at BB
    have HSI := hide hsi
    clear e1 e2 hsi hSI hu1 hu2
    obtain ⟨w5, hw5⟩ : ∃ w5, w5 = wc := ⟨_, rfl⟩
    rw [← hw5] at BA2 BB U4 HSq HSp HSI ⊢
    clear hw5 U2
    go_wp2_with fail
    go_loopw [12] (fun s12 wr => ∃ k : Nat, k ≤ n ∧ s12 = .int .i64 k ∧ Up w5 wr) (fun s12 _ => n - (intOf s12).toNat)
    case atStart => exact ⟨0, by omega, rfl, up_refl _⟩
    case round =>
      obtain ⟨k, hk, rfl, hu⟩ := hrel
      by_cases hlt : k < n
      · have hl : k < ps.length := by rw [unhide HN]; exact hlt
        rcases sups_up (unhide HSp) hu with hx | ⟨b1, o1, rfl, hc1⟩
        · rw [hx] at hl; simp at hl
        rcases sups_up (unhide HSq) hu with hx | ⟨b2, o2, rfl, hc2⟩
        · rw [hx] at hl; simp at hl
        obtain ⟨x0, x1, x2, x3, x4, x5⟩ := hc1 k hl
        obtain ⟨y0, y1, y2, y3, y4, y5⟩ := hc2 k hl
        clear hc1 hc2
        generalize ps[k].x = z0 at *
        generalize ps[k].y = z1 at *
        generalize ps[k].g = z2 at *
        generalize ps[k].lim = z3 at *
        generalize ps[k].lo = z4 at *
        generalize ps[k].hi = z5 at *
        obtain ⟨wx, rfl⟩ : ∃ wx, wx = wr := ⟨_, rfl⟩
        have i0 : (0 : Int) ≤ (k : Int) := by omega
        have i1 : (k : Int) < (n : Int) := by omega
        have hwk : IntKind.i64.wrap ((k : Int) + 1) = (k : Int) + 1 := IntWalk.i64_in _ ⟨by omega, by omega⟩
        go_upto_region 9 with fail
        go_cut [48] (fun s wy => s = .bool false ∧ Up wx wy)
        case first => as_aux_lemma =>
          have n0 : ∀ p : UpW wx, p.v.cell? ⟨b1, o1 + k * 6, none⟩ = some (.int .i64 z0) := fun p => up_cell p.up x0
          have n1 : ∀ p : UpW wx, p.v.cell? ⟨b1, o1 + k * 6 + 1, none⟩ = some (.int .i64 z1) := fun p => up_cell p.up x1
          have n2 : ∀ p : UpW wx, p.v.cell? ⟨b1, o1 + k * 6 + 2, none⟩ = some (.int .i64 z2) := fun p => up_cell p.up x2
          have n3 : ∀ p : UpW wx, p.v.cell? ⟨b1, o1 + k * 6 + 3, none⟩ = some (.int .i64 z3) := fun p => up_cell p.up x3
          have n4 : ∀ p : UpW wx, p.v.cell? ⟨b1, o1 + k * 6 + 4, none⟩ = some (.int .i64 z4) := fun p => up_cell p.up x4
          have n5 : ∀ p : UpW wx, p.v.cell? ⟨b1, o1 + k * 6 + 5, none⟩ = some (.int .i64 z5) := fun p => up_cell p.up x5
          have m0 : ∀ p : UpW wx, p.v.cell? ⟨b2, o2 + k * 6, none⟩ = some (.int .i64 z0) := fun p => up_cell p.up y0
          have m1 : ∀ p : UpW wx, p.v.cell? ⟨b2, o2 + k * 6 + 1, none⟩ = some (.int .i64 z1) := fun p => up_cell p.up y1
          have m2 : ∀ p : UpW wx, p.v.cell? ⟨b2, o2 + k * 6 + 2, none⟩ = some (.int .i64 z2) := fun p => up_cell p.up y2
          have m3 : ∀ p : UpW wx, p.v.cell? ⟨b2, o2 + k * 6 + 3, none⟩ = some (.int .i64 z3) := fun p => up_cell p.up y3
          have m4 : ∀ p : UpW wx, p.v.cell? ⟨b2, o2 + k * 6 + 4, none⟩ = some (.int .i64 z4) := fun p => up_cell p.up y4
          have m5 : ∀ p : UpW wx, p.v.cell? ⟨b2, o2 + k * 6 + 5, none⟩ = some (.int .i64 z5) := fun p => up_cell p.up y5
          refine wp_upq (by kernel_rfl) (by kernel_rfl) ?_; (repeat (go_big_quiet_step (fail))); refine wpQuiet_nil ?_; intro _ hw'; obtain ⟨pq, hw''⟩ := hw'; subst hw''; have hpq := pq.up
          go_wp2_with fail
          go_meet
          exact ⟨by first | rfl | (simp; done), hpq⟩
        case rest =>
        obtain ⟨rfl, hy⟩ := hcut
        have hu3 := up_trans hu hy
        clear x0 x1 x2 x3 x4 x5 y0 y1 y2 y3 y4 y5 hu hy
        go_wp2_with fail
        go_roundw
        case rel => exact ⟨k + 1, by omega, by first | rfl | trivial | go_num, hu3⟩
        case measure => simp [intOf]; omega
      · obtain rfl : k = n := by omega
        obtain ⟨p0, p1⟩ := bx2 (bx_up BA2 hu)
        obtain ⟨q0, q1⟩ := bx2 (bx_up BB hu)
        have U5 := up_trans U4 hu
        have HSI2 := hide (unhide HSI wr hu)
        clear BA2 BB HSI U4 hu HSq HSp
        go_wp2_with (first | (go_at_call 8; (with_reducible refine (unhide HSI2).mono ?_); rintro e v1 ⟨rfl, hv1⟩) | (go_at_call 5; refine (l_known _).mono ?_; rintro e v2 ⟨rfl, hv2⟩))
        go_ret
        exact ⟨rfl, (by repeat' (first | (with_reducible exact up_refl _) | (with_reducible assumption) | (with_reducible refine up_alloc ?_ _) | (with_reducible refine up_drewN ?_ _) | (with_reducible refine up_drew ?_) | (with_reducible refine up_set ?_ (by first | (simp; done) | (simp; omega) | omega) _) | (refine up_trans ?_ (by with_reducible assumption))))⟩
end Go.Proofs.Ytepblnnebeglbaa
