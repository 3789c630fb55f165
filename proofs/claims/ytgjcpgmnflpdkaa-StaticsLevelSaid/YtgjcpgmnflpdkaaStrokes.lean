/- The lengths of all cylinders. -/
import Derived.Test.YtgjcpgmnflpdkaaHeight
import Derived.Test.YtgjcpgmnflpdkaaOwnI
namespace Go.Proofs.Ytgjcpgmnflpdkaa
open Go.RowKit Go.Proofs.Gn
/-- What is wrong with cylinder k: 0 if nothing is. -/
def stE (ps : List Gs.Sup) (gs : List Int) (f0 f1 f2 : Int) (k : Nat) : Int := match ps[k]?, gs[k]? with
  | some s, some g => if hoB ps s.x s.y then 4 else if win (heV ps gs f0 f1 f2 s.x s.y - g) s.lo s.hi then 0 else 14
  | _, _ => 0
def stV (ps : List Gs.Sup) (gs : List Int) (f0 f1 f2 : Int) (k : Nat) : Int := match ps[k]?, gs[k]? with
  | some s, some g => heV ps gs f0 f1 f2 s.x s.y - g
  | _, _ => 0
theorem stE_at {ps : List Gs.Sup} {gs : List Int} {f0 f1 f2 : Int} {k : Nat} (h : k < ps.length) (h2 : k < gs.length) : stE ps gs f0 f1 f2 k = if hoB ps ps[k].x ps[k].y then 4 else if win (heV ps gs f0 f1 f2 ps[k].x ps[k].y - gs[k]) ps[k].lo ps[k].hi then 0 else 14 := by
  unfold stE; rw [List.getElem?_eq_getElem h, List.getElem?_eq_getElem h2]
theorem stV_at {ps : List Gs.Sup} {gs : List Int} {f0 f1 f2 : Int} {k : Nat} (h : k < ps.length) (h2 : k < gs.length) : stV ps gs f0 f1 f2 k = heV ps gs f0 f1 f2 ps[k].x ps[k].y - gs[k] := by
  unfold stV; rw [List.getElem?_eq_getElem h, List.getElem?_eq_getElem h2]
def stN (ps : List Gs.Sup) (gs : List Int) (f0 f1 f2 : Int) (k : Nat) : Bool := stE ps gs f0 f1 f2 k != 0
def stF (ps : List Gs.Sup) (gs : List Int) (f0 f1 f2 : Int) (K : Nat) : Int := if laE ps gs f0 f1 f2 = 0 then (if K < ps.length then stE ps gs f0 f1 f2 K else 0) else laE ps gs f0 f1 f2
def stR (ps : List Gs.Sup) (gs : List Int) (f0 f1 f2 : Int) (k : Nat) : List Int := (List.range k).map (stV ps gs f0 f1 f2)
def stL (ps : List Gs.Sup) (gs : List Int) (f0 f1 f2 : Int) (K : Nat) : List Int := if stF ps gs f0 f1 f2 K = 0 then stR ps gs f0 f1 f2 ps.length else []
theorem stR_succ (ps : List Gs.Sup) (gs : List Int) (f0 f1 f2 : Int) (k : Nat) : stR ps gs f0 f1 f2 (k + 1) = stR ps gs f0 f1 f2 k ++ [stV ps gs f0 f1 f2 k] := by
  unfold stR; rw [List.range_succ, List.map_append]; rfl
theorem stR_len (ps : List Gs.Sup) (gs : List Int) (f0 f1 f2 : Int) (k : Nat) : (stR ps gs f0 f1 f2 k).length = k := by unfold stR; simp
theorem sup_at {ps : List Gs.Sup} (hc : chE ps = 0) {k : Nat} (h : k < ps.length) : atE ps ps[k].x ps[k].y = 0 := by
  have s := Gs.okS_yes (Gs.okA_get (chE_ok hc).1 h)
  unfold atE
  rw [if_pos hc]
  unfold ptE ptB
  rw [if_pos (by rw [Bool.and_eq_true, win_iff, win_iff]; omega)]
theorem heV_bd {ps : List Gs.Sup} {gs : List Int} {f0 f1 f2 X Y : Int} (h : laE ps gs f0 f1 f2 = 0) (ho : hoB ps X Y = false) : -3019898880 ≤ heV ps gs f0 f1 f2 X Y ∧ heV ps gs f0 f1 f2 X Y ≤ 3019898880 := by
  obtain ⟨a, b, c, d⟩ := laE_ok h
  obtain ⟨w0, w1, w2⟩ := flB_bd c
  obtain ⟨n0, n1, n2⟩ := hoB_no ho
  have hn := (chE_ok a).2.1
  have hd := paD_bd a
  have b0 := dv_bd hd.1 (ov_no n0) (lv_bd d b hn 0 f0 w0)
  have b1 := dv_bd hd.1 (ov_no n1) (lv_bd d b hn 1 f1 w1)
  have b2 := dv_bd hd.1 (ov_no n2) (lv_bd d b hn 2 f2 w2)
  unfold heV hoS
  omega
theorem st_cases (ps : List Gs.Sup) (gs : List Int) (f0 f1 f2 : Int) (K : Nat) (hK : K ≤ ps.length) :
    (¬ laE ps gs f0 f1 f2 = 0 ∧ stF ps gs f0 f1 f2 K = laE ps gs f0 f1 f2 ∧ stL ps gs f0 f1 f2 K = []) ∨
    (laE ps gs f0 f1 f2 = 0 ∧ (K < ps.length → stF ps gs f0 f1 f2 K = stE ps gs f0 f1 f2 K) ∧ (K < ps.length → stE ps gs f0 f1 f2 K ≠ 0 → stL ps gs f0 f1 f2 K = []) ∧ (K = ps.length → stF ps gs f0 f1 f2 K = 0 ∧ stL ps gs f0 f1 f2 K = stR ps gs f0 f1 f2 ps.length)) := by
  by_cases c : laE ps gs f0 f1 f2 = 0
  · right
    have e1 : K < ps.length → stF ps gs f0 f1 f2 K = stE ps gs f0 f1 f2 K := fun h => by unfold stF; rw [if_pos c, if_pos h]
    have e2 : K = ps.length → stF ps gs f0 f1 f2 K = 0 := fun h => by unfold stF; rw [if_pos c, if_neg (by omega)]
    exact ⟨c, e1, fun h h2 => by unfold stL; rw [e1 h, if_neg h2], fun h => ⟨e2 h, by unfold stL; rw [e2 h, if_pos rfl]⟩⟩
  · have e : stF ps gs f0 f1 f2 K = laE ps gs f0 f1 f2 := by unfold stF; rw [if_neg c]
    exact .inl ⟨c, e, by unfold stL; rw [e, if_neg c]⟩
set_option maxRecDepth 100000 in
set_option maxHeartbeats 40000000 in
theorem p_Strokes (A : Option Addr) (ps : List Gs.Sup) (cap : Nat) (B : Option Addr) (gs : List Int) (capg : Nat) (f0 f1 f2 : Int) (K : Nat) (hK : Fsn ps.length (stN ps gs f0 f1 f2) K) (hn : ps.length ≤ 9223372036854775807) (hng : gs.length ≤ 9223372036854775807) (w : World) (h : Sups w A ps) (hg : Ints w B gs) :
    Calls Try.prog 35 #[.slice A ps.length cap, .agg #[.int .i64 f0, .int .i64 f1, .int .i64 f2], .slice B gs.length capg] w fun e w' => (∃ A' c', e = .returned (.tuple #[.slice A' (stL ps gs f0 f1 f2 K).length c', .int .i64 (stF ps gs f0 f1 f2 K)]) ∧ Ints w' A' (stL ps gs f0 f1 f2 K)) ∧ Up w w' := by
  have hL := hide (fun (W : World) (hW : Up w W) => p_laid A ps cap B gs capg f0 f1 f2 hn hng W (sups_up h hW) (ints_up hg hW))
  have hH := hide (fun X Y a b W => p_bedL (ps := ps) (gs := gs) (f0 := f0) (f1 := f1) (f2 := f2) (X := X) (Y := Y) a b W)
  have hbd := hide (fun X Y a b => heV_bd (ps := ps) (gs := gs) (f0 := f0) (f1 := f1) (f2 := f2) (X := X) (Y := Y) a b)
  have hcs := st_cases ps gs f0 f1 f2 K hK.1
  have hla := hide (fun x => laE_ok (ps := ps) (gs := gs) (f0 := f0) (f1 := f1) (f2 := f2) x)
  have HK := hide hK
  have hK1 := hK.1
  clear hK
  unfold hoE at hH
  generalize laV ps gs f0 f1 f2 (Gs.cN 0 ps) = k0 at *
  generalize laV ps gs f0 f1 f2 (Gs.cX 0 ps) = k1 at *
  generalize laV ps gs f0 f1 f2 (Gs.cY 0 ps) = k2 at *
  generalize laV ps gs f0 f1 f2 (Gs.cN 1 ps) = k3 at *
  generalize laV ps gs f0 f1 f2 (Gs.cX 1 ps) = k4 at *
  generalize laV ps gs f0 f1 f2 (Gs.cY 1 ps) = k5 at *
  generalize laV ps gs f0 f1 f2 (Gs.cN 2 ps) = k6 at *
  generalize laV ps gs f0 f1 f2 (Gs.cX 2 ps) = k7 at *
  generalize laV ps gs f0 f1 f2 (Gs.cY 2 ps) = k8 at *
  generalize laV ps gs f0 f1 f2 (f0 + gk 0 ps gs ps.length) = k9 at *
  generalize laV ps gs f0 f1 f2 (f1 + gk 1 ps gs ps.length) = k10 at *
  generalize laV ps gs f0 f1 f2 (f2 + gk 2 ps gs ps.length) = k11 at *
  rcases hcs with ⟨c1, c3, c4⟩ | ⟨c1, e1, e2, e3⟩
  · obtain ⟨n, hN⟩ : ∃ n, ps.length = n := ⟨_, rfl⟩
    obtain ⟨m, hM⟩ : ∃ m, gs.length = m := ⟨_, rfl⟩
    clear hH hbd hla HK h hg
    rw [hN] at hL hn ⊢
    rw [hM] at hL hng ⊢
    rw [c3, c4]
    clear hN hM c3 c4
    generalize laE ps gs f0 f1 f2 = E at *
    have c2 : (E == 0) = false := by simp; exact c1
    go_enter Try.func35, Try.ntmps35
    go_wp2_with (go_at_call 73; (with_reducible refine (unhide hL _ (by repeat' (first | (with_reducible exact up_refl _) | (with_reducible assumption) | (with_reducible refine up_alloc ?_ _) | (with_reducible refine up_drewN ?_ _) | (with_reducible refine up_drew ?_) | (with_reducible refine up_set ?_ (by first | (simp; done) | (simp; omega) | omega) _) | (refine up_trans ?_ (by with_reducible assumption))))).mono ?_); rintro e w1 ⟨rfl, hb1⟩)
    go_ret2
    exact ⟨⟨none, 0, rfl, .inl rfl⟩, (by repeat' (first | (with_reducible exact up_refl _) | (with_reducible assumption) | (with_reducible refine up_alloc ?_ _) | (with_reducible refine up_drewN ?_ _) | (with_reducible refine up_drew ?_) | (with_reducible refine up_set ?_ (by first | (simp; done) | (simp; omega) | omega) _) | (refine up_trans ?_ (by with_reducible assumption))))⟩
  obtain ⟨o1, o2, o3, o4⟩ := unhide hla c1
  have hok := chE_ok o1
  have hsup := hide (fun (k : Nat) (x : k < ps.length) => sup_at o1 x)
  have E1 := hide e1
  have E2 := hide e2
  have E3 := hide e3
  have O4 := hide o4
  have C1 := hide c1
  clear e1 e2 e3 hla o4
  rw [c1] at hL
  rcases h with hx | ⟨ba, off, rfl, hc⟩
  · rw [hx] at hok; exact absurd hok.2.2.1 (by simp)
  rcases hg with hx | ⟨bg, offg, rfl, hcg⟩
  · rw [hx] at o2; have := hok.2.2.1; rw [← o2] at this; exact absurd this (by simp)
  have HC := hide hc
  have HG := hide hcg
  have hlen := hok.2.1
  clear hc hcg hok o1 o3 c1
  obtain ⟨n, hN⟩ : ∃ n, ps.length = n := ⟨_, rfl⟩
  have HM := hide (o2.trans hN)
  have HN := hide hN
  rw [o2] at hL ⊢
  rw [hN] at hL hlen HK hK1 E1 E2 E3 ⊢
  clear hN o2 hn hng
  generalize stF ps gs f0 f1 f2 K = F at *
  generalize stL ps gs f0 f1 f2 K = Ls at *
  obtain ⟨i0', hi, hz0, hz1, hz2⟩ := info_parts info_i64I
  have HI := hide hi
  clear hi
  go_enter Try.func35, Try.ntmps35
  go_upto_region 4 with (go_at_call 73; (with_reducible refine (unhide hL _ (by repeat' (first | (with_reducible exact up_refl _) | (with_reducible assumption) | (with_reducible refine up_alloc ?_ _) | (with_reducible refine up_drewN ?_ _) | (with_reducible refine up_drew ?_) | (with_reducible refine up_set ?_ (by first | (simp; done) | (simp; omega) | omega) _) | (refine up_trans ?_ (by with_reducible assumption))))).mono ?_); rintro e w1 ⟨rfl, hb1⟩)
  refine at_wp (fun wo hwo => ?_)
  have U0 : Up w wo := by rw [hwo]; exact (by repeat' (first | (with_reducible exact up_refl _) | (with_reducible assumption) | (with_reducible refine up_alloc ?_ _) | (with_reducible refine up_drewN ?_ _) | (with_reducible refine up_drew ?_) | (with_reducible refine up_set ?_ (by first | (simp; done) | (simp; omega) | omega) _) | (refine up_trans ?_ (by with_reducible assumption))))
  have B0 : Bx wo w1.heap.size [.int .i64 k0, .int .i64 k1, .int .i64 k2, .int .i64 k3, .int .i64 k4, .int .i64 k5, .int .i64 k6, .int .i64 k7, .int .i64 k8, .int .i64 k9, .int .i64 k10, .int .i64 k11] := by rw [hwo]; exact bx_new w1 _ 100
  clear hwo hb1 hL
  obtain ⟨G, hG⟩ : ∃ G, w1.heap.size = G := ⟨_, rfl⟩
  rw [hG] at B0 ⊢
  clear hG
  go_wp2_with fail
  go_loopw [10, 28] (fun s10 s28 wr => ∃ k : Nat, k ≤ K ∧ s28 = .int .i64 k ∧ wr.ownsRow wo.heap.size 2 1 s10 k (cellsI (stR ps gs f0 f1 f2 k)) ∧ Up wo wr) (fun _ s28 _ => n - (intOf s28).toNat)
  case atStart => exact ⟨0, by omega, rfl, World.ownsRow_nil _ _ _ _, up_refl _⟩
  case round =>
    obtain ⟨k, hk, rfl, hown, hu⟩ := hrel
    have HO := hide hown
    clear hown
    have hu2 := up_trans U0 hu
    by_cases hlt : k < n
    · have hl : k < ps.length := by rw [unhide HN]; exact hlt
      have hl2 : k < gs.length := by rw [unhide HM]; exact hlt
      obtain ⟨k0', k1', k2', k3', k4', k5'⟩ := supAt_up (unhide HC k hl) hu2
      have kg := up_cell hu2 (unhide HG k hl2)
      have yb := gsB_at (unhide O4) hl2
      have sE := stE_at (ps := ps) (gs := gs) (f0 := f0) (f1 := f1) (f2 := f2) hl hl2
      have sV := stV_at (ps := ps) (gs := gs) (f0 := f0) (f1 := f1) (f2 := f2) hl hl2
      have hat := unhide hsup k hl
      have hH2 := hide (unhide hH ps[k].x ps[k].y (unhide C1) hat)
      have hb2 := hide (fun (a : hoB ps ps[k].x ps[k].y = false) => unhide hbd ps[k].x ps[k].y (unhide C1) a)
      have sN : stN ps gs f0 f1 f2 k = (stE ps gs f0 f1 f2 k != 0) := rfl
      clear hat
      generalize heV ps gs f0 f1 f2 ps[k].x ps[k].y = H at *
      generalize hoB ps ps[k].x ps[k].y = B1 at *
      obtain ⟨x, hx⟩ : ∃ x, ps[k].x = x := ⟨_, rfl⟩
      obtain ⟨y, hy⟩ : ∃ x, ps[k].y = x := ⟨_, rfl⟩
      obtain ⟨g, hg⟩ : ∃ x, gs[k] = x := ⟨_, rfl⟩
      obtain ⟨lo, hlo⟩ : ∃ x, ps[k].lo = x := ⟨_, rfl⟩
      obtain ⟨hi, hhi⟩ : ∃ x, ps[k].hi = x := ⟨_, rfl⟩
      rw [hx] at k0' hH2
      rw [hy] at k1' hH2
      rw [hlo] at k4' sE
      rw [hhi] at k5' sE
      rw [hg] at kg yb sE sV
      clear hx hy hlo hhi hg
      obtain ⟨yb1, yb2⟩ := yb
      have i0 : (0 : Int) ≤ (k : Int) := by omega
      have i1 : (k : Int) < (n : Int) := by omega
      go_upto_region 8 with fail
      refine at_wp (fun W5 hW5 => ?_)
      have u5 : Up wr W5 := by rw [hW5]; exact (by repeat' (first | (with_reducible exact up_refl _) | (with_reducible assumption) | (with_reducible refine up_alloc ?_ _) | (with_reducible refine up_drewN ?_ _) | (with_reducible refine up_drew ?_) | (with_reducible refine up_set ?_ (by first | (simp; done) | (simp; omega) | omega) _) | (refine up_trans ?_ (by with_reducible assumption))))
      have S5 : Bx W5 wr.heap.size [.int .i64 x, .int .i64 y, .int .i64 ps[k].g, .int .i64 ps[k].lim, .int .i64 lo, .int .i64 hi] := by rw [hW5]; exact bx_new wr _ 61
      have B5 := bx_up (bx_up B0 hu) u5
      have kg5 := up_cell u5 kg
      have HO5 := hide (own_upI (unhide HO) u5)
      have U5 := up_trans hu u5
      clear hW5 u5 hu hu2 kg k0' k1' k2' k3' k4' k5' HO
      have z0 := (S5 0 _ rfl).1
      have z1 := (S5 1 _ rfl).1
      have y0 := (B5 0 _ rfl).1
      have y1 := (B5 1 _ rfl).1
      have y2 := (B5 2 _ rfl).1
      have y3 := (B5 3 _ rfl).1
      have y4 := (B5 4 _ rfl).1
      have y5 := (B5 5 _ rfl).1
      have y6 := (B5 6 _ rfl).1
      have y7 := (B5 7 _ rfl).1
      have y8 := (B5 8 _ rfl).1
      have y9 := (B5 9 _ rfl).1
      have y10 := (B5 10 _ rfl).1
      have y11 := (B5 11 _ rfl).1
      go_upto_region 9 with (go_at_call 75; (with_reducible refine (unhide hH2 _).mono ?_); rintro e w6 ⟨rfl, hb6⟩)
      have S6 := bx_up S5 hb6
      have kg6 := up_cell hb6 kg5
      have HO6 := hide (own_upI (unhide HO5) hb6)
      have U6 := up_trans U5 hb6
      clear z0 z1 S5 B5 kg5 HO5 U5 hb6 hH2 y0 y1 y2 y3 y4 y5 y6 y7 y8 y9 y10 y11
      have z4 := (S6 4 _ rfl).1
      have z5 := (S6 5 _ rfl).1
      cases B1
      rotate_left
      · simp only [if_true] at sE ⊢
        obtain rfl := fsn_stop (unhide HK) hk (by rw [sN, sE]; rfl)
        have f1' := unhide E1 (by omega)
        have f2' := unhide E2 (by omega) (by rw [sE]; decide)
        rw [sE] at f1'
        subst f1' f2'
        clear HK E1 E2 E3 sE sV sN
        go_wp2_with fail
        go_ret2
        exact ⟨⟨none, 0, rfl, .inl rfl⟩, up_trans U0 U6⟩
      simp only [Bool.false_eq_true, if_false] at sE ⊢
      obtain ⟨hb3, hb4⟩ := unhide hb2 rfl
      have hW := hide (fun W => (p_within (H - g) lo hi W))
      change Hid (∀ W : World, Calls Try.prog 45 #[.int .i64 (H - g), .int .i64 lo, .int .i64 hi] W fun e w' => e = .returned (.bool (win (H - g) lo hi)) ∧ W = w') at hW
      cases hv : win (H - g) lo hi
      · rw [hv] at hW sE
        simp only [Bool.false_eq_true, if_false] at sE
        obtain rfl := fsn_stop (unhide HK) hk (by rw [sN, sE]; rfl)
        have f1' := unhide E1 (by omega)
        have f2' := unhide E2 (by omega) (by rw [sE]; decide)
        rw [sE] at f1'
        subst f1' f2'
        clear HK E1 E2 E3 sE sV sN hv
        go_wp2_with (go_at_call 45; (with_reducible refine (unhide hW _).mono ?_); rintro e w7 ⟨rfl, rfl⟩)
        go_ret2
        exact ⟨⟨none, 0, rfl, .inl rfl⟩, up_trans U0 U6⟩
      · rw [hv] at hW sE
        simp only [if_true] at sE
        have hkK := fsn_go (unhide HK) hk hlt (by rw [sN, sE]; rfl)
        clear HK E1 E2 E3 sE sN hv
        have SV := hide sV
        clear sV hb2
        obtain ⟨l, hl'⟩ : ∃ l, H - g = l := ⟨_, rfl⟩
        rw [hl'] at SV hW
        go_upto_region 14 with (go_at_call 45; (with_reducible refine (unhide hW _).mono ?_); rintro e w7 ⟨rfl, rfl⟩)
        clear hW hl' hb3 hb4 z4 z5 S6 kg6
        go_wp2_with (at_builtin; refine wpList_append_own _ rfl _ _ 53 rfl wo.heap.size 2 i0' _ 1 8 Try.underlying53 (unhide HI) hz0 hz1 hz2 rfl (by decide) _ k (cellsI (stR ps gs f0 f1 f2 k)) rfl ((unhide HO6).alloc _) ⟨w6.heap.size, 0, none⟩ 1 1 [.int .i64 l] rfl rfl (one_newI _ _ _) (by intro u hu; simp at hu; rcases hu with rfl; rfl) (by unfold maxLen; omega) (by omega) (by have := U6.size; simp; omega) ?_; intro v' w8 hown' hgrow _)
        have R1 := own_grown (v' := v') (ys := []) (unhide HO6) (up_alloc U6 _) hgrow
        rw [← cellsI_snoc, ← unhide SV, ← stR_succ] at hown'
        have R2 := hide hown'
        clear hown' hgrow SV HO6 U6
        go_wp2_with fail
        go_roundw
        case rel => exact ⟨k + 1, by omega, by go_num, unhide R2, R1⟩
        case measure => simp [intOf]; omega
    · obtain rfl : k = n := by omega
      have hKe : K = k := by omega
      obtain ⟨f1', f2'⟩ := unhide E3 hKe
      obtain ⟨A', c', hv', hI⟩ := own_ints (unhide HO)
      have hlen' := stR_len ps gs f0 f1 f2 k
      rw [← f2'] at hI hv' hlen'
      clear f2' HO E1 E2 E3
      subst hv' f1'
      go_wp2_with fail
      go_ret2
      exact ⟨⟨A', c', rfl, hI⟩, hu2⟩
end Go.Proofs.Ytgjcpgmnflpdkaa
