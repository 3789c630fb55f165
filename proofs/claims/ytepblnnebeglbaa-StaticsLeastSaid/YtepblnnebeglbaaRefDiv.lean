/- The document's Divide. -/
import Derived.Test.YtepblnnebeglbaaLight
import Derived.Test.YtepblnnebeglbaaRefDvs2
import Derived.Test.YtepblnnebeglbaaRefShares
namespace Go.Proofs.Ytepblnnebeglbaa
open Go.RowKit Go.Proofs.Gn
set_option maxRecDepth 100000 in
set_option maxHeartbeats 8000000 in
theorem r_DivideE (A : Option Addr) (ps : List Gs.Sup) (cap : Nat) (m X Y : Int) (w : World) (h : Sups w A ps) (hn : ps.length ≤ 9223372036854775807) (hE : boE ps m X Y ≠ 0) :
    Calls Try.prog 7 #[.slice A ps.length cap, .int .i64 m, pt X Y] w fun e w' => e = .returned (.tuple #[beA ps.length none, .int .i64 (boE ps m X Y)]) ∧ Up w w' := by
  have HC := hide (fun W (hW : Up w W) => r_Check A ps cap W (sups_up h hW) hn)
  have HM := hide (fun W => r_mass m W)
  have HP := hide (fun W => r_point X Y W)
  have hm2 : msE m = 0 ∨ msE m = 3 := by unfold msE; split <;> simp
  have hp2 : ptE X Y = 0 ∨ ptE X Y = 3 := by unfold ptE; split <;> simp
  unfold boE at hE ⊢
  unfold beA
  clear h
  generalize ps.length = n at *
  generalize chE ps = C at *
  generalize msE m = M at *
  generalize ptE X Y = T at *
  by_cases c0 : C = 0
  · subst c0
    rw [if_pos rfl] at hE ⊢
    rcases hm2 with rfl | rfl
    · rw [if_pos rfl] at hE ⊢
      rcases hp2 with rfl | rfl
      · exact absurd rfl hE
      · go_enter Try.func7, Try.ntmps7
        go_wp2_with (first | (go_at_call 17; (with_reducible refine (unhide HC _ (by repeat' (first | (with_reducible exact up_refl _) | (with_reducible assumption) | (with_reducible refine up_alloc ?_ _) | (with_reducible refine up_drewN ?_ _) | (with_reducible refine up_drew ?_) | (with_reducible refine up_set ?_ (by first | (simp; done) | (simp; omega) | omega) _) | (refine up_trans ?_ (by with_reducible assumption))))).mono ?_); rintro e w1 ⟨rfl, hb1⟩; have p0 : w1.cell? ⟨w.heap.size, 0, none⟩ = some (.int .i64 X) := up_cell hb1 (by go_cell); have p1 : w1.cell? ⟨w.heap.size, 1, none⟩ = some (.int .i64 Y) := up_cell hb1 (by go_cell)) | (go_at_call 18; (with_reducible refine (unhide HM _).mono ?_); rintro e w2 ⟨rfl, rfl⟩) | (go_at_call 19; (with_reducible refine (unhide HP _).mono ?_); rintro e w3 ⟨rfl, hb3⟩; have BR := bx_up (bxA2 w [.int .i64 X, .int .i64 Y] [.slice none 0 0, .int .i64 0] 24 28).2 (up_trans hb1 hb3); obtain ⟨z0, z1⟩ := bx2 BR; obtain ⟨f0, f1⟩ := bxf2 BR))
        obtain ⟨q0, q1⟩ := bx2 (bx_set2 (v0 := .slice none 0 0) (v1 := .int .i64 0) BR)
        exact bodyPost_ret (v := .tuple #[.agg #[.slice none 0 0, .int .i64 0], .int .i64 3]) (by simp [results, Try.results7, go_sem, q0, q1]) rfl ⟨rfl, (by repeat' (first | (with_reducible exact up_refl _) | (with_reducible assumption) | (with_reducible refine up_alloc ?_ _) | (with_reducible refine up_drewN ?_ _) | (with_reducible refine up_drew ?_) | (with_reducible refine up_set ?_ (by first | (simp; done) | (simp; omega) | omega) _) | (refine up_trans ?_ (by with_reducible assumption))))⟩
    · rw [if_neg (by decide)]
      go_enter Try.func7, Try.ntmps7
      go_wp2_with (first | (go_at_call 17; (with_reducible refine (unhide HC _ (by repeat' (first | (with_reducible exact up_refl _) | (with_reducible assumption) | (with_reducible refine up_alloc ?_ _) | (with_reducible refine up_drewN ?_ _) | (with_reducible refine up_drew ?_) | (with_reducible refine up_set ?_ (by first | (simp; done) | (simp; omega) | omega) _) | (refine up_trans ?_ (by with_reducible assumption))))).mono ?_); rintro e w1 ⟨rfl, hb1⟩; have BR := bx_up (bxA2 w [.int .i64 X, .int .i64 Y] [.slice none 0 0, .int .i64 0] 24 28).2 hb1; obtain ⟨z0, z1⟩ := bx2 BR; obtain ⟨f0, f1⟩ := bxf2 BR) | (go_at_call 18; (with_reducible refine (unhide HM _).mono ?_); rintro e w2 ⟨rfl, rfl⟩))
      obtain ⟨q0, q1⟩ := bx2 (bx_set2 (v0 := .slice none 0 0) (v1 := .int .i64 0) BR)
      exact bodyPost_ret (v := .tuple #[.agg #[.slice none 0 0, .int .i64 0], .int .i64 3]) (by simp [results, Try.results7, go_sem, q0, q1]) rfl ⟨rfl, (by repeat' (first | (with_reducible exact up_refl _) | (with_reducible assumption) | (with_reducible refine up_alloc ?_ _) | (with_reducible refine up_drewN ?_ _) | (with_reducible refine up_drew ?_) | (with_reducible refine up_set ?_ (by first | (simp; done) | (simp; omega) | omega) _) | (refine up_trans ?_ (by with_reducible assumption))))⟩
  · rw [if_neg c0]
    have e1 : (C == 0) = false := beq_false_of_ne c0
    go_enter Try.func7, Try.ntmps7
    go_wp2_with (first | (go_at_call 17; (with_reducible refine (unhide HC _ (up_trans (by repeat' (first | (with_reducible exact up_refl _) | (with_reducible assumption) | (with_reducible refine up_alloc ?_ _) | (with_reducible refine up_drewN ?_ _) | (with_reducible refine up_drew ?_) | (with_reducible refine up_set ?_ (by first | (simp; done) | (simp; omega) | omega) _) | (refine up_trans ?_ (by with_reducible assumption)))) hb1)).mono ?_); rintro e w2 ⟨rfl, hb2⟩; have BR := bx_up (bxA2 w [.int .i64 X, .int .i64 Y] [.slice none 0 0, .int .i64 0] 24 28).2 (up_trans hb1 hb2); obtain ⟨z0, z1⟩ := bx2 BR; obtain ⟨f0, f1⟩ := bxf2 BR) | (go_at_call 17; (with_reducible refine (unhide HC _ (by repeat' (first | (with_reducible exact up_refl _) | (with_reducible assumption) | (with_reducible refine up_alloc ?_ _) | (with_reducible refine up_drewN ?_ _) | (with_reducible refine up_drew ?_) | (with_reducible refine up_set ?_ (by first | (simp; done) | (simp; omega) | omega) _) | (refine up_trans ?_ (by with_reducible assumption))))).mono ?_); rintro e w1 ⟨rfl, hb1⟩))
    obtain ⟨q0, q1⟩ := bx2 (bx_set2 (v0 := .slice none 0 0) (v1 := .int .i64 0) BR)
    exact bodyPost_ret (v := .tuple #[.agg #[.slice none 0 0, .int .i64 0], .int .i64 C]) (by simp [results, Try.results7, go_sem, q0, q1]) rfl ⟨rfl, (by repeat' (first | (with_reducible exact up_refl _) | (with_reducible assumption) | (with_reducible refine up_alloc ?_ _) | (with_reducible refine up_drewN ?_ _) | (with_reducible refine up_drew ?_) | (with_reducible refine up_set ?_ (by first | (simp; done) | (simp; omega) | omega) _) | (refine up_trans ?_ (by with_reducible assumption))))⟩
set_option maxRecDepth 100000 in
set_option maxHeartbeats 16000000 in
theorem r_DivideO (b off cap : Nat) (ps : List Gs.Sup) (m X Y : Int) (w : World) (hc : SupsO w b off ps) (hE : boE ps m X Y = 0) :
    Calls Try.prog 7 #[.slice (some ⟨b, off, none⟩) ps.length cap, .int .i64 m, pt X Y] w fun e w' => ∃ (l : List Nat) (be : BestA), l.Perm (List.range ps.length) ∧ l.Pairwise (ltS ps) ∧ be.map (·.2) = bestD ps m X Y l ∧ e = .returned (.tuple #[beA ps.length be, .int .i64 (if be.isSome then 0 else 15)]) ∧ (∀ g d v, be = some (g, d, v) → Bx w' g (cellsI d)) ∧ Up w w' := by
  obtain ⟨hat, hm1, hm2⟩ := boE_ok hE
  have hch := (atE_ok hat).1
  have hpt := (atE_ok hat).2
  obtain ⟨ho, hn, h3, _⟩ := chE_ok hch
  have hms : msE m = 0 := by unfold msE; rw [if_pos]; unfold win; simp; omega
  have h0 : 0 < ps.length := by omega
  have HCh := hide (fun W (hW : Up w W) => r_Check (some ⟨b, off, none⟩) ps cap W (.inr ⟨b, off, rfl, supsO_up hc hW⟩) (by omega))
  rw [hch] at HCh
  have HM := hide (fun W => r_mass m W)
  rw [hms] at HM
  have HP := hide (fun W => r_point X Y W)
  rw [hpt] at HP
  have HDs := hide (fun W (hW : Up w W) => r_Divisions b off cap ps W (supsO_up hc hW) ho h0 hn)
  have HG := hide (fun (W : World) (g : Nat) (d : List Int) (hW : Up w W) (hd : Bx W g (cellsI d)) (hl : d.length = ps.length) => r_Grouped (some ⟨b, off, none⟩) ps cap (some ⟨g, 0, none⟩) d d.length hl h0 hn W (.inr ⟨b, off, rfl, supsO_up hc hW⟩) (bx_intsG hd))
  have HCq := hide (fun (W : World) (A : Option Addr) (d : List Int) (c : Nat) (hl : d.length = ps.length) (hW : Sups W A (grp ps d)) => r_Check A (grp ps d) c W hW (by rw [grp_len hl]; omega))
  have HSq := hide (fun (W : World) (A : Option Addr) (d : List Int) (c : Nat) (hz : chE (grp ps d) = 0) (hW : Sups W A (grp ps d)) => r_shares A (grp ps d) c m X Y hz W hW)
  have HDL := hide (fun (l : List Nat) => dvs_len (ps := ps) (l := l))
  have HDC := hide (fun (l : List Nat) => (by rw [dvs_K, dvsK_len] : (dvs ps l).length = 2 * (ps.length - 2)))
  have HQL := hide (fun (d : List Int) (hl : d.length = ps.length) => grp_len hl)
  have HNo := hide (fun (d : List Int) (hz : chE (grp ps d) ≠ 0) => hvB_no (m := m) (X := X) (Y := Y) hz)
  have HOk := hide (fun (d : List Int) => (⟨rfl, rfl⟩ : hvB ps m X Y d = (shE (grp ps d) m X Y == 0) ∧ hvV ps m X Y d = max (shV (grp ps d) m X Y (up m (paD (grp ps d)) (pa0 (grp ps d) X Y))) (max (shV (grp ps d) m X Y (up m (paD (grp ps d)) (pa1 (grp ps d) X Y))) (shV (grp ps d) m X Y (up m (paD (grp ps d)) (pa2 (grp ps d) X Y))))))
  unfold bestD
  obtain ⟨ok, hok⟩ : ∃ ok, hvB ps m X Y = ok := ⟨_, rfl⟩
  obtain ⟨vl, hvl⟩ : ∃ vl, hvV ps m X Y = vl := ⟨_, rfl⟩
  rw [hok] at HNo
  rw [hok, hvl] at HOk ⊢
  clear hc hE hat ho hok hvl hch hpt hms
  obtain ⟨n, hN⟩ : ∃ n, ps.length = n := ⟨_, rfl⟩
  have HN := hide hN
  rw [hN] at h0 hn h3 HCh HDs HG HCq HDL HDC HQL ⊢
  clear hN
  go_enter Try.func7, Try.ntmps7
  go_upto_region 6 with (first | (go_at_call 17; (with_reducible refine (unhide HCh _ (by repeat' (first | (with_reducible exact up_refl _) | (with_reducible assumption) | (with_reducible refine up_alloc ?_ _) | (with_reducible refine up_drewN ?_ _) | (with_reducible refine up_drew ?_) | (with_reducible refine up_set ?_ (by first | (simp; done) | (simp; omega) | omega) _) | (refine up_trans ?_ (by with_reducible assumption))))).mono ?_); rintro e w1 ⟨rfl, hb1⟩; have p0 : w1.cell? ⟨w.heap.size, 0, none⟩ = some (.int .i64 X) := up_cell hb1 (by go_cell); have p1 : w1.cell? ⟨w.heap.size, 1, none⟩ = some (.int .i64 Y) := up_cell hb1 (by go_cell)) | (go_at_call 18; (with_reducible refine (unhide HM _).mono ?_); rintro e w2 ⟨rfl, rfl⟩) | (go_at_call 19; (with_reducible refine (unhide HP _).mono ?_); rintro e w3 ⟨rfl, hb3⟩))
  have BP := bx_up (bx_up (bxA2 w [.int .i64 X, .int .i64 Y] [.slice none 0 0, .int .i64 0] 24 28).1 hb1) hb3
  have BR := bx_up (bx_up (bxA2 w [.int .i64 X, .int .i64 Y] [.slice none 0 0, .int .i64 0] 24 28).2 hb1) hb3
  have BG := bx_new w3 [.slice none 0 0, .int .i64 0] 28
  have hz : w.heap.size + 1 < w3.heap.size := by have t1 := up_size hb1; have t2 := up_size hb3; simp only [World.size_alloc] at t1; omega
  have U3 : Up w w3 := (by repeat' (first | (with_reducible exact up_refl _) | (with_reducible assumption) | (with_reducible refine up_alloc ?_ _) | (with_reducible refine up_drewN ?_ _) | (with_reducible refine up_drew ?_) | (with_reducible refine up_set ?_ (by first | (simp; done) | (simp; omega) | omega) _) | (refine up_trans ?_ (by with_reducible assumption))))
  clear p0 p1 hb1 hb3 HM HP HCh
  refine at_wp (fun W0 hW0 => ?_)
  have U0 : Up w W0 := by rw [hW0]; exact (by repeat' (first | (with_reducible exact up_refl _) | (with_reducible assumption) | (with_reducible refine up_alloc ?_ _) | (with_reducible refine up_drewN ?_ _) | (with_reducible refine up_drew ?_) | (with_reducible refine up_set ?_ (by first | (simp; done) | (simp; omega) | omega) _) | (refine up_trans ?_ (by with_reducible assumption))))
  have BP := bx_alloc BP (.cells #[.slice none 0 0, .int .i64 0] 28)
  have BR := bx_alloc BR (.cells #[.slice none 0 0, .int .i64 0] 28)
  rw [← hW0] at BP BR BG
  have hG0 : w3.heap.size < W0.heap.size := by rw [hW0]; simp
  clear hW0 U3
  obtain ⟨G, hG⟩ : ∃ G, w3.heap.size = G := ⟨_, rfl⟩
  rw [hG] at BG hz hG0 ⊢
  clear hG
  go_wp2_with (go_at_call 11; (with_reducible refine (unhide HDs _ U0).mono ?_); rintro e w4 ⟨l, v, gs, rfl, hp, hs, hown, _, hbl, hu⟩)
  have hM : gs.length = 2 * (n - 2) := by rw [hbl.1]; exact unhide HDC l
  obtain ⟨gr, cr, rfl, hgr⟩ := own_someO hown (by omega)
  have HA := hide (fun i (hi : i < gs.length) => (by rw [hown.cellAt i (by omega), List.getElem?_map, List.getElem?_eq_getElem hi]; rfl : w4.cell? ⟨gr, i, none⟩ = some (slV n gs[i])))
  have BP := bx_up BP hu
  have BR := bx_up BR hu
  have BG := bx_up BG hu
  have U4 := up_trans U0 hu
  have HBl := hide hbl
  have HP := hide (And.intro hp hs)
  have HDl := hide (unhide HDL l)
  obtain ⟨M, hMM⟩ : ∃ M, gs.length = M := ⟨_, rfl⟩
  have HMM := hide hMM
  have HMd := hide (hbl.1.symm.trans hMM)
  rw [hMM] at hM
  have hM1 : M ≤ 96 := by omega
  have grG : gr ≠ G := by omega
  obtain ⟨D, hD⟩ : ∃ D, dvs ps l = D := ⟨_, rfl⟩
  have HDD := hide hD
  rw [hD] at HBl HDl HMd
  rw [hMM]
  clear hbl hp hs hown hMM HDs HDL HDC U0 hD hM hgr
  obtain ⟨wo, hwo⟩ : ∃ wo, wo = w4 := ⟨_, rfl⟩
  rw [← hwo] at BP BR BG U4 HBl HA ⊢
  clear hwo hu
  have HB := hide (And.intro BP BR)
  have HGne := hide (fun i (h1 : i < gs.length) (h2 : i < D.length) => bx_neS ((unhide HBl).2 i h1 h2) (by rw [unhide HDl _ (List.getElem_mem h2)]; exact h0) BG (fun _ e => by cases e))
  clear BP BR
  go_wp2_with fail
  go_loopw [10] (fun s10 wr => ∃ (i : Nat) (be : BestA), i ≤ M ∧ s10 = .int .i64 i ∧ BeAt n G be wr ∧ Hid (be.map (·.2) = bAll ok vl none (D.take i)) ∧ KpB G wo wr ∧ Up w wr) (fun s10 _ => M - (intOf s10).toNat)
  case atStart => exact ⟨0, none, by omega, rfl, ⟨BG, (fun _ _ _ e => nomatch e)⟩, hide rfl, kpB_refl _ _, U4⟩
  case round =>
    obtain ⟨i, be, hi, rfl, hat, HBE, hkp, hup⟩ := hrel
    clear BG U4
    by_cases hlt : i < M
    · have hi1 : i < gs.length := by rw [unhide HMM]; exact hlt
      have hi2 : i < D.length := by rw [unhide HMd]; exact hlt
      have ca := kpB_cell hkp (a := ⟨gr, i, none⟩) grG (unhide HA i hi1)
      have hbx := bx_kpB ((unhide HBl).2 i hi1 hi2) hkp (unhide HGne i hi1 hi2)
      have hld := unhide HDl _ (List.getElem_mem hi2)
      have hT := bAll_take (ok := ok) (v := vl) hi2
      have hgG := unhide HGne i hi1 hi2
      obtain ⟨BPr, _⟩ := unhide HB
      obtain ⟨x0, x1⟩ := bx2 (bx_kpB BPr hkp (by omega))
      clear BPr
      obtain ⟨g, hg⟩ : ∃ g, gs[i] = g := ⟨_, rfl⟩
      obtain ⟨d, hd⟩ : ∃ d, D[i] = d := ⟨_, rfl⟩
      rw [hg] at ca hbx hgG
      rw [hd] at hbx hld hT
      unfold slV at ca
      have HGq := hide (fun W (hW : Up wr W) => unhide HG W g d (up_trans hup hW) (bx_up hbx hW) hld)
      have ql := unhide HQL d hld
      have hcq := fun W A c => unhide HCq W A d c hld
      have hsh := fun (hz : chE (grp ps d) = 0) W A c => unhide HSq W A d c hz
      have hno := unhide HNo d
      obtain ⟨hok, hvl⟩ := unhide HOk d
      clear hg hd hi1 hi2
      obtain ⟨q, hq⟩ : ∃ q, grp ps d = q := ⟨_, rfl⟩
      rw [hq] at HGq ql hcq hsh hno hok hvl
      rw [ql] at HGq hcq hsh
      rw [hld] at HGq
      obtain ⟨v, hv⟩ : ∃ v, vl d = v := ⟨_, rfl⟩
      rw [hv] at hvl hT
      generalize shV q m X Y (up m (paD q) (pa0 q X Y)) = r0 at *
      generalize shV q m X Y (up m (paD q) (pa1 q X Y)) = r1 at *
      generalize shV q m X Y (up m (paD q) (pa2 q X Y)) = r2 at *
      generalize shE q m X Y = E at *
      generalize chE q = C at *
      have HAT := hide hat
      have HBX := hide hbx
      have HCQ := hide hcq
      have hmax := fun (ts : Array TypeId) (t : TypeId) (W : World) => run_max3D (P := Try.prog) ts t r0 r1 r2 W
      rw [← hvl] at hmax
      have hwk : IntKind.i64.wrap ((i : Int) + 1) = (i : Int) + 1 := IntWalk.i64_in _ ⟨by omega, by omega⟩
      clear hat hbx hcq hq ql hv hvl hld HG HCq HSq HQL HNo HOk HA HBl HGne HDl HB
      by_cases hC : C = 0
      · subst hC
        have HSH := hide (hsh rfl)
        clear hsh hno
        by_cases hE : E = 0
        · subst hE
          have hok' : ok d = true := by rw [hok]; rfl
          rw [hok'] at hT
          clear hok hok'
          rcases be with _ | ⟨g0, d0, v0⟩
          · have HX : Hid ((some (g, d, v) : BestA).map (·.2) = bAll ok vl none (D.take (i + 1))) := hide (by rw [hT]; exact be_new g (unhide HBE) (.inl rfl))
            have HQ : Hid (Bx wr G [.slice none 0 0, .int .i64 0]) := hide (unhide HAT).1
            clear hT HBE
            go_wp2_with (first | (go_at_call 10; (with_reducible refine (unhide HGq _ (by repeat' (first | (with_reducible exact up_refl _) | (with_reducible assumption) | (with_reducible refine up_alloc ?_ _) | (with_reducible refine up_drewN ?_ _) | (with_reducible refine up_drew ?_) | (with_reducible refine up_set ?_ (by first | (simp; done) | (simp; omega) | omega) _) | (refine up_trans ?_ (by with_reducible assumption))))).mono ?_); rintro e u1 ⟨⟨gq, cq, rfl, hq1⟩, hv1⟩) | (go_at_call 17; (with_reducible refine (unhide HCQ _ _ _ hq1).mono ?_); rintro e u2 ⟨rfl, hv2⟩; have hq2 := sups_up hq1 hv2; have k0 := up_cell (up_trans hv1 hv2) x0; have k1 := up_cell (up_trans hv1 hv2) x1) | (go_at_call 20; (with_reducible refine (unhide HSH _ _ _ hq2).mono ?_); rintro e u3 ⟨rfl, hv3⟩; have hvv := up_trans (up_trans hv1 hv2) hv3; obtain ⟨s0, s1, s2⟩ := bx3 (bx_new u3 [.int .i64 r0, .int .i64 r1, .int .i64 r2] 36); have HQ1 := bx_alloc (bx_up (unhide HQ) hvv) (.cells #[.int .i64 r0, .int .i64 r1, .int .i64 r2] 36); obtain ⟨p0, p1⟩ := bx2 HQ1; obtain ⟨f0, f1⟩ := bxf2 HQ1; have ca1 := alloc_cell (.cells #[.int .i64 r0, .int .i64 r1, .int .i64 r2] 36) (up_cell hvv ca)))
            go_roundw
            case rel => exact ⟨i + 1, some (g, d, v), by omega, by first | rfl | trivial | go_num, beAt_set (beAt_up (unhide HAT) (by repeat' (first | (with_reducible exact up_refl _) | (with_reducible assumption) | (with_reducible refine up_alloc ?_ _) | (with_reducible refine up_drewN ?_ _) | (with_reducible refine up_drew ?_) | (with_reducible refine up_set ?_ (by first | (simp; done) | (simp; omega) | omega) _) | (refine up_trans ?_ (by with_reducible assumption))))) (bx_up (unhide HBX) (by repeat' (first | (with_reducible exact up_refl _) | (with_reducible assumption) | (with_reducible refine up_alloc ?_ _) | (with_reducible refine up_drewN ?_ _) | (with_reducible refine up_drew ?_) | (with_reducible refine up_set ?_ (by first | (simp; done) | (simp; omega) | omega) _) | (refine up_trans ?_ (by with_reducible assumption))))) hgG v, HX, kpB_trans hkp (kpB_trans (kpB_up (by repeat' (first | (with_reducible exact up_refl _) | (with_reducible assumption) | (with_reducible refine up_alloc ?_ _) | (with_reducible refine up_drewN ?_ _) | (with_reducible refine up_drew ?_) | (with_reducible refine up_set ?_ (by first | (simp; done) | (simp; omega) | omega) _) | (refine up_trans ?_ (by with_reducible assumption))))) (kpB_trans (kpB_set _ _ _ _) (kpB_set _ _ _ _))), up_set (up_set (by repeat' (first | (with_reducible exact up_refl _) | (with_reducible assumption) | (with_reducible refine up_alloc ?_ _) | (with_reducible refine up_drewN ?_ _) | (with_reducible refine up_drew ?_) | (with_reducible refine up_set ?_ (by first | (simp; done) | (simp; omega) | omega) _) | (refine up_trans ?_ (by with_reducible assumption)))) (by simp only; omega) _) (by simp only; omega) _⟩
            case measure => simp [intOf]; omega
          have HQ : Hid (Bx wr G [.slice (some ⟨g0, 0, none⟩) n n, .int .i64 v0]) := hide (unhide HAT).1
          have n0 : ((n : Int) == 0) = false := beq_false_of_ne (by omega)
          by_cases hlv : v < v0
          · have HX : Hid ((some (g, d, v) : BestA).map (·.2) = bAll ok vl none (D.take (i + 1))) := hide (by rw [hT]; exact be_new g (unhide HBE) (.inr ⟨_, rfl, hlv⟩))
            clear hT HBE
            go_wp2_with (first | (go_at_call 10; (with_reducible refine (unhide HGq _ (by repeat' (first | (with_reducible exact up_refl _) | (with_reducible assumption) | (with_reducible refine up_alloc ?_ _) | (with_reducible refine up_drewN ?_ _) | (with_reducible refine up_drew ?_) | (with_reducible refine up_set ?_ (by first | (simp; done) | (simp; omega) | omega) _) | (refine up_trans ?_ (by with_reducible assumption))))).mono ?_); rintro e u1 ⟨⟨gq, cq, rfl, hq1⟩, hv1⟩) | (go_at_call 17; (with_reducible refine (unhide HCQ _ _ _ hq1).mono ?_); rintro e u2 ⟨rfl, hv2⟩; have hq2 := sups_up hq1 hv2; have k0 := up_cell (up_trans hv1 hv2) x0; have k1 := up_cell (up_trans hv1 hv2) x1) | (go_at_call 20; (with_reducible refine (unhide HSH _ _ _ hq2).mono ?_); rintro e u3 ⟨rfl, hv3⟩; have hvv := up_trans (up_trans hv1 hv2) hv3; obtain ⟨s0, s1, s2⟩ := bx3 (bx_new u3 [.int .i64 r0, .int .i64 r1, .int .i64 r2] 36); have HQ1 := bx_alloc (bx_up (unhide HQ) hvv) (.cells #[.int .i64 r0, .int .i64 r1, .int .i64 r2] 36); obtain ⟨p0, p1⟩ := bx2 HQ1; obtain ⟨f0, f1⟩ := bxf2 HQ1; have ca1 := alloc_cell (.cells #[.int .i64 r0, .int .i64 r1, .int .i64 r2] 36) (up_cell hvv ca)))
            go_roundw
            case rel => exact ⟨i + 1, some (g, d, v), by omega, by first | rfl | trivial | go_num, beAt_set (beAt_up (unhide HAT) (by repeat' (first | (with_reducible exact up_refl _) | (with_reducible assumption) | (with_reducible refine up_alloc ?_ _) | (with_reducible refine up_drewN ?_ _) | (with_reducible refine up_drew ?_) | (with_reducible refine up_set ?_ (by first | (simp; done) | (simp; omega) | omega) _) | (refine up_trans ?_ (by with_reducible assumption))))) (bx_up (unhide HBX) (by repeat' (first | (with_reducible exact up_refl _) | (with_reducible assumption) | (with_reducible refine up_alloc ?_ _) | (with_reducible refine up_drewN ?_ _) | (with_reducible refine up_drew ?_) | (with_reducible refine up_set ?_ (by first | (simp; done) | (simp; omega) | omega) _) | (refine up_trans ?_ (by with_reducible assumption))))) hgG v, HX, kpB_trans hkp (kpB_trans (kpB_up (by repeat' (first | (with_reducible exact up_refl _) | (with_reducible assumption) | (with_reducible refine up_alloc ?_ _) | (with_reducible refine up_drewN ?_ _) | (with_reducible refine up_drew ?_) | (with_reducible refine up_set ?_ (by first | (simp; done) | (simp; omega) | omega) _) | (refine up_trans ?_ (by with_reducible assumption))))) (kpB_trans (kpB_set _ _ _ _) (kpB_set _ _ _ _))), up_set (up_set (by repeat' (first | (with_reducible exact up_refl _) | (with_reducible assumption) | (with_reducible refine up_alloc ?_ _) | (with_reducible refine up_drewN ?_ _) | (with_reducible refine up_drew ?_) | (with_reducible refine up_set ?_ (by first | (simp; done) | (simp; omega) | omega) _) | (refine up_trans ?_ (by with_reducible assumption)))) (by simp only; omega) _) (by simp only; omega) _⟩
            case measure => simp [intOf]; omega
          · have HX : Hid ((some (g0, d0, v0) : BestA).map (·.2) = bAll ok vl none (D.take (i + 1))) := hide (by rw [hT]; exact be_same (unhide HBE) (.inr ⟨_, rfl, hlv⟩))
            have hdl : decide (v < v0) = false := decide_eq_false hlv
            clear hT HBE
            obtain ⟨be, hbe⟩ : ∃ be : BestA, some (g0, d0, v0) = be := ⟨_, rfl⟩
            rw [hbe] at HX HAT
            clear hbe
            go_wp2_with (first | (go_at_call 10; (with_reducible refine (unhide HGq _ (by repeat' (first | (with_reducible exact up_refl _) | (with_reducible assumption) | (with_reducible refine up_alloc ?_ _) | (with_reducible refine up_drewN ?_ _) | (with_reducible refine up_drew ?_) | (with_reducible refine up_set ?_ (by first | (simp; done) | (simp; omega) | omega) _) | (refine up_trans ?_ (by with_reducible assumption))))).mono ?_); rintro e u1 ⟨⟨gq, cq, rfl, hq1⟩, hv1⟩) | (go_at_call 17; (with_reducible refine (unhide HCQ _ _ _ hq1).mono ?_); rintro e u2 ⟨rfl, hv2⟩; have hq2 := sups_up hq1 hv2; have k0 := up_cell (up_trans hv1 hv2) x0; have k1 := up_cell (up_trans hv1 hv2) x1) | (go_at_call 20; (with_reducible refine (unhide HSH _ _ _ hq2).mono ?_); rintro e u3 ⟨rfl, hv3⟩; have hvv := up_trans (up_trans hv1 hv2) hv3; obtain ⟨s0, s1, s2⟩ := bx3 (bx_new u3 [.int .i64 r0, .int .i64 r1, .int .i64 r2] 36); have HQ1 := bx_alloc (bx_up (unhide HQ) hvv) (.cells #[.int .i64 r0, .int .i64 r1, .int .i64 r2] 36); obtain ⟨p0, p1⟩ := bx2 HQ1; obtain ⟨f0, f1⟩ := bxf2 HQ1; have ca1 := alloc_cell (.cells #[.int .i64 r0, .int .i64 r1, .int .i64 r2] 36) (up_cell hvv ca)))
            go_roundw
            case rel => exact ⟨i + 1, be, by omega, by first | rfl | trivial | go_num, beAt_up (unhide HAT) (by repeat' (first | (with_reducible exact up_refl _) | (with_reducible assumption) | (with_reducible refine up_alloc ?_ _) | (with_reducible refine up_drewN ?_ _) | (with_reducible refine up_drew ?_) | (with_reducible refine up_set ?_ (by first | (simp; done) | (simp; omega) | omega) _) | (refine up_trans ?_ (by with_reducible assumption)))), HX, kpB_trans hkp (kpB_up (by repeat' (first | (with_reducible exact up_refl _) | (with_reducible assumption) | (with_reducible refine up_alloc ?_ _) | (with_reducible refine up_drewN ?_ _) | (with_reducible refine up_drew ?_) | (with_reducible refine up_set ?_ (by first | (simp; done) | (simp; omega) | omega) _) | (refine up_trans ?_ (by with_reducible assumption))))), (by repeat' (first | (with_reducible exact up_refl _) | (with_reducible assumption) | (with_reducible refine up_alloc ?_ _) | (with_reducible refine up_drewN ?_ _) | (with_reducible refine up_drew ?_) | (with_reducible refine up_set ?_ (by first | (simp; done) | (simp; omega) | omega) _) | (refine up_trans ?_ (by with_reducible assumption))))⟩
            case measure => simp [intOf]; omega
        · have hok' : ok d = false := by rw [hok]; exact beq_false_of_ne hE
          have HX : Hid (be.map (·.2) = bAll ok vl none (D.take (i + 1))) := hide (by rw [hT]; exact be_same (unhide HBE) (.inl hok'))
          have e1 : (E == 0) = false := beq_false_of_ne hE
          obtain ⟨qa, qb, hpq⟩ : ∃ p q, beV n be = [p, q] := by cases be <;> exact ⟨_, _, rfl⟩
          have HQ : Hid (Bx wr G [qa, qb]) := hide (hpq ▸ (unhide HAT).1)
          clear hT HBE hok hok' hpq
          go_wp2_with (first | (go_at_call 10; (with_reducible refine (unhide HGq _ (by repeat' (first | (with_reducible exact up_refl _) | (with_reducible assumption) | (with_reducible refine up_alloc ?_ _) | (with_reducible refine up_drewN ?_ _) | (with_reducible refine up_drew ?_) | (with_reducible refine up_set ?_ (by first | (simp; done) | (simp; omega) | omega) _) | (refine up_trans ?_ (by with_reducible assumption))))).mono ?_); rintro e u1 ⟨⟨gq, cq, rfl, hq1⟩, hv1⟩) | (go_at_call 17; (with_reducible refine (unhide HCQ _ _ _ hq1).mono ?_); rintro e u2 ⟨rfl, hv2⟩; have hq2 := sups_up hq1 hv2; have k0 := up_cell (up_trans hv1 hv2) x0; have k1 := up_cell (up_trans hv1 hv2) x1) | (go_at_call 20; (with_reducible refine (unhide HSH _ _ _ hq2).mono ?_); rintro e u3 ⟨rfl, hv3⟩; have hvv := up_trans (up_trans hv1 hv2) hv3; obtain ⟨s0, s1, s2⟩ := bx3 (bx_new u3 [.int .i64 r0, .int .i64 r1, .int .i64 r2] 36); have HQ1 := bx_alloc (bx_up (unhide HQ) hvv) (.cells #[.int .i64 r0, .int .i64 r1, .int .i64 r2] 36); obtain ⟨p0, p1⟩ := bx2 HQ1; obtain ⟨f0, f1⟩ := bxf2 HQ1; have ca1 := alloc_cell (.cells #[.int .i64 r0, .int .i64 r1, .int .i64 r2] 36) (up_cell hvv ca)))
          go_roundw
          case rel => exact ⟨i + 1, be, by omega, by first | rfl | trivial | go_num, beAt_up (unhide HAT) (by repeat' (first | (with_reducible exact up_refl _) | (with_reducible assumption) | (with_reducible refine up_alloc ?_ _) | (with_reducible refine up_drewN ?_ _) | (with_reducible refine up_drew ?_) | (with_reducible refine up_set ?_ (by first | (simp; done) | (simp; omega) | omega) _) | (refine up_trans ?_ (by with_reducible assumption)))), HX, kpB_trans hkp (kpB_up (by repeat' (first | (with_reducible exact up_refl _) | (with_reducible assumption) | (with_reducible refine up_alloc ?_ _) | (with_reducible refine up_drewN ?_ _) | (with_reducible refine up_drew ?_) | (with_reducible refine up_set ?_ (by first | (simp; done) | (simp; omega) | omega) _) | (refine up_trans ?_ (by with_reducible assumption))))), (by repeat' (first | (with_reducible exact up_refl _) | (with_reducible assumption) | (with_reducible refine up_alloc ?_ _) | (with_reducible refine up_drewN ?_ _) | (with_reducible refine up_drew ?_) | (with_reducible refine up_set ?_ (by first | (simp; done) | (simp; omega) | omega) _) | (refine up_trans ?_ (by with_reducible assumption))))⟩
          case measure => simp [intOf]; omega
      · have HX : Hid (be.map (·.2) = bAll ok vl none (D.take (i + 1))) := hide (by rw [hT]; exact be_same (unhide HBE) (.inl (hno hC)))
        have e1 : (C == 0) = false := beq_false_of_ne hC
        clear hT HBE hok hno hsh
        go_wp2_with (first | (go_at_call 10; (with_reducible refine (unhide HGq _ (by repeat' (first | (with_reducible exact up_refl _) | (with_reducible assumption) | (with_reducible refine up_alloc ?_ _) | (with_reducible refine up_drewN ?_ _) | (with_reducible refine up_drew ?_) | (with_reducible refine up_set ?_ (by first | (simp; done) | (simp; omega) | omega) _) | (refine up_trans ?_ (by with_reducible assumption))))).mono ?_); rintro e u1 ⟨⟨gq, cq, rfl, hq1⟩, hv1⟩) | (go_at_call 17; (with_reducible refine (unhide HCQ _ _ _ hq1).mono ?_); rintro e u2 ⟨rfl, hv2⟩; have hq2 := sups_up hq1 hv2; have k0 := up_cell (up_trans hv1 hv2) x0; have k1 := up_cell (up_trans hv1 hv2) x1))
        go_roundw
        case rel => exact ⟨i + 1, be, by omega, by first | rfl | trivial | go_num, beAt_up (unhide HAT) (by repeat' (first | (with_reducible exact up_refl _) | (with_reducible assumption) | (with_reducible refine up_alloc ?_ _) | (with_reducible refine up_drewN ?_ _) | (with_reducible refine up_drew ?_) | (with_reducible refine up_set ?_ (by first | (simp; done) | (simp; omega) | omega) _) | (refine up_trans ?_ (by with_reducible assumption)))), HX, kpB_trans hkp (kpB_up (by repeat' (first | (with_reducible exact up_refl _) | (with_reducible assumption) | (with_reducible refine up_alloc ?_ _) | (with_reducible refine up_drewN ?_ _) | (with_reducible refine up_drew ?_) | (with_reducible refine up_set ?_ (by first | (simp; done) | (simp; omega) | omega) _) | (refine up_trans ?_ (by with_reducible assumption))))), (by repeat' (first | (with_reducible exact up_refl _) | (with_reducible assumption) | (with_reducible refine up_alloc ?_ _) | (with_reducible refine up_drewN ?_ _) | (with_reducible refine up_drew ?_) | (with_reducible refine up_set ?_ (by first | (simp; done) | (simp; omega) | omega) _) | (refine up_trans ?_ (by with_reducible assumption))))⟩
        case measure => simp [intOf]; omega
    · obtain rfl : i = M := by omega
      have hT : D.take i = D := List.take_of_length_le (by rw [unhide HMd]; exact Nat.le_refl _)
      have hbe := unhide HBE
      rw [hT] at hbe
      have hlen := best_len hbe (unhide HDl) h0
      rw [← unhide HDD] at hbe
      have r3 := bx_kpB (unhide HB).2 hkp (by omega)
      obtain ⟨z0, z1⟩ := bx2 r3
      obtain ⟨f0, f1⟩ := bxf2 r3
      clear hT HBE
      rcases be with _ | ⟨g1, d1, v1⟩
      · have hb1 : Bx wr G [.slice none 0 0, .int .i64 0] := hat.1
        obtain ⟨p0, p1⟩ := bx2 hb1
        obtain ⟨q0, q1⟩ := bx2 (bx_set2 (v0 := .slice none 0 0) (v1 := .int .i64 0) r3)
        have HQ := hide (fun g d v (e : (none : BestA) = some (g, d, v)) => bx_far (bx_far (hat.2 g d v e).1 (p := ⟨w.heap.size + 1, 0, none⟩) (fun e' => bx_neS (hat.2 g d v e).1 (hlen g d v e) r3 (fun _ k => by cases k) e'.symm) (.slice none 0 0)) (p := ⟨w.heap.size + 1, 1, none⟩) (fun e' => bx_neS (hat.2 g d v e).1 (hlen g d v e) r3 (fun _ k => by cases k) e'.symm) (.int .i64 0))
        have HUp : Hid (Up w ((wr.setCell ⟨w.heap.size + 1, 0, none⟩ (.slice none 0 0)).setCell ⟨w.heap.size + 1, 1, none⟩ (.int .i64 0))) := hide (up_set (up_set hup (by simp only; omega) (.slice none 0 0)) (by simp only; omega) (.int .i64 0))
        have HBE' := hide hbe
        clear hat hb1 hbe hup hlen r3 HG HCq HSq HQL HNo HOk HA HBl HGne HDl HB
        go_wp2_with fail
        exact bodyPost_ret (v := .tuple #[.agg #[.slice none 0 0, .int .i64 0], .int .i64 15]) (by simp [results, Try.results7, go_sem, q0, q1]) rfl ⟨l, (none : BestA), (unhide HP).1, (unhide HP).2, unhide HBE', rfl, unhide HQ, unhide HUp⟩
      · have hb1 : Bx wr G [.slice (some ⟨g1, 0, none⟩) n n, .int .i64 v1] := hat.1
        obtain ⟨p0, p1⟩ := bx2 hb1
        obtain ⟨q0, q1⟩ := bx2 (bx_set2 (v0 := .slice (some ⟨g1, 0, none⟩) n n) (v1 := .int .i64 v1) r3)
        have HQ := hide (fun g d v (e : (some (g1, d1, v1) : BestA) = some (g, d, v)) => bx_far (bx_far (hat.2 g d v e).1 (p := ⟨w.heap.size + 1, 0, none⟩) (fun e' => bx_neS (hat.2 g d v e).1 (hlen g d v e) r3 (fun _ k => by cases k) e'.symm) (.slice (some ⟨g1, 0, none⟩) n n)) (p := ⟨w.heap.size + 1, 1, none⟩) (fun e' => bx_neS (hat.2 g d v e).1 (hlen g d v e) r3 (fun _ k => by cases k) e'.symm) (.int .i64 v1))
        have HUp : Hid (Up w ((wr.setCell ⟨w.heap.size + 1, 0, none⟩ (.slice (some ⟨g1, 0, none⟩) n n)).setCell ⟨w.heap.size + 1, 1, none⟩ (.int .i64 v1))) := hide (up_set (up_set hup (by simp only; omega) (.slice (some ⟨g1, 0, none⟩) n n)) (by simp only; omega) (.int .i64 v1))
        have HBE' := hide hbe
        have n0 : ((n : Int) == 0) = false := beq_false_of_ne (by omega)
        clear hat hb1 hbe hup hlen r3 HG HCq HSq HQL HNo HOk HA HBl HGne HDl HB
        go_wp2_with fail
        exact bodyPost_ret (v := .tuple #[.agg #[.slice (some ⟨g1, 0, none⟩) n n, .int .i64 v1], .int .i64 0]) (by simp [results, Try.results7, go_sem, q0, q1]) rfl ⟨l, (some (g1, d1, v1) : BestA), (unhide HP).1, (unhide HP).2, unhide HBE', rfl, unhide HQ, unhide HUp⟩
end Go.Proofs.Ytepblnnebeglbaa
