/- The hull of points, whether points are one, and whether one contains a point: what the program's functions return. -/
import Derived.Test.YtihckoenfklhpaaWay
import Derived.Test.YtihckoenfklhpaaHull
import Derived.Test.YtihckoenfklhpaaIsHull
import Derived.Test.YtihckoenfklhpaaCont
namespace Go.Proofs.Ytihckoenfklhpaa
open Go.RowKit Go.Proofs.Gn
theorem okL_bdL {ps : Pl} (h : okL ps = true) : BdL ps := fun p hp => okp_bd (List.all_eq_true.1 h p hp)
/-- The errors of hulls. -/
noncomputable def hulE (ls : List Lst) : Int := if chkLL ls = 0 then if (ls.all fun l => isHB l.ps) then 0 else 2 else chkLL ls
theorem chkLL_zero {ls : List Lst} (h : chkLL ls = 0) : ∀ l ∈ ls, l.ps.length ≤ 256 ∧ okL l.ps = true := by
  unfold chkLL at h
  intro l hl
  cases h1 : fewB ls with
  | false => rw [h1] at h; simp at h
  | true =>
    cases h2 : okLL ls with
    | false => rw [h1, h2] at h; simp at h
    | true => exact ⟨by simpa using List.all_eq_true.1 h1 l hl, List.all_eq_true.1 h2 l hl⟩
theorem p_checkHulls (A : Option Addr) (ls : List Lst) (cap : Nat) (w : World) (h : Lss w A ls) (hn : ls.length ≤ 9223372036854775807) (hg : ∀ l ∈ ls, 0 < l.ps.length ∧ l.ps.length ≤ l.cap ∧ l.cap ≤ 9223372036854775807) :
    Calls Try.prog 37 #[.slice A ls.length cap] w fun e w' => e = .returned (.int .i64 (hulE ls)) ∧ Up w w' := by
  have PC : Calls Try.prog 33 #[.slice A ls.length cap] w fun e w' => e = .returned (.int .i64 (chkLL ls)) ∧ Up w w' := p_checkLists A ls cap w h hn
  have HL := hide h
  obtain ⟨b, off, rfl, hc⟩ := h
  have HC := hide hc
  have HG := hide hg
  clear hc hg
  by_cases hz : chkLL ls = 0
  · have hE : hulE ls = if (ls.all fun l => isHB l.ps) then 0 else 2 := by unfold hulE; rw [if_pos hz]
    have HZ := hide (chkLL_zero hz)
    rw [hz] at PC
    rw [hE]
    obtain ⟨r, hr⟩ : ∃ r : Int, (if (ls.all fun l => isHB l.ps) then 0 else 2) = r := ⟨_, rfl⟩
    rw [hr]
    have HR := hide hr
    clear hr
    have HPC := hide PC
    obtain ⟨n, hN⟩ : ∃ n, ls.length = n := ⟨_, rfl⟩
    rw [hN] at HPC ⊢
    have HN := hide hN
    have hn' : n ≤ 9223372036854775807 := by omega
    clear hN hn PC hz hE
    go_enter Try.func37, Try.ntmps37
    go_wp2_with (go_at_call 33; (with_reducible refine (unhide HPC).mono ?_); rintro e w1 ⟨rfl, hb1⟩)
    go_loopw [13] (fun i wr => ∃ k : Nat, k ≤ n ∧ i = .int .i64 k ∧ Up w wr ∧ ((ls.take k).all fun l => isHB l.ps) = true) (fun i _ => n - (intOf i).toNat)
    case atStart => exact ⟨0, by omega, rfl, hb1, rfl⟩
    case round =>
      obtain ⟨k, hk, rfl, hu, ho⟩ := hrel
      have HO := hide ho
      clear ho
      by_cases hlt : k < n
      · have hl : k < ls.length := by rw [unhide HN]; exact hlt
        have hck := unhide HC k hl
        have hgk := unhide HG ls[k] (List.getElem_mem hl)
        have hzk := unhide HZ ls[k] (List.getElem_mem hl)
        obtain ⟨l, hL⟩ : ∃ l, ls[k] = l := ⟨_, rfl⟩
        rw [hL] at hck hgk hzk
        have c0 := up_cell hu hck.1
        unfold Lst.val at c0
        obtain ⟨b', off', hA, hcs⟩ := (pts_up hck.2.1 hu).resolve_left (by intro e; rw [e] at hgk; simp at hgk)
        have PI := p_isHull b' off' l.ps l.cap wr hcs hgk.1 (by omega) hgk.2.1 hgk.2.2 (okL_bdL hzk.2)
        rw [hA] at c0
        have HX := hide hL
        have HPI := hide PI
        clear hL hck hcs hgk hzk PI hA
        have k1 : (k : Int) < (n : Int) := by omega
        cases hi : isHB l.ps
        · rw [hi] at HPI
          have HI := hide hi
          clear hi
          go_wp2_with (go_at_call 71; (with_reducible refine (unhide HPI).mono ?_); rintro e w2 ⟨rfl, hb2⟩)
          go_ret
          refine ⟨ret_int ?_, (by repeat' (first | (with_reducible exact up_refl _) | (with_reducible assumption) | (with_reducible refine up_alloc ?_ _) | (with_reducible refine up_drewN ?_ _) | (with_reducible refine up_drew ?_) | (with_reducible refine up_set ?_ (by first | (simp; done) | (simp; omega) | omega) _) | (refine up_trans ?_ (by with_reducible assumption))))⟩
          rw [← unhide HR, all_at hl (by rw [unhide HX]; exact unhide HI)]
          rfl
        · rw [hi] at HPI
          have HI := hide hi
          clear hi
          go_wp2_with (go_at_call 71; (with_reducible refine (unhide HPI).mono ?_); rintro e w2 ⟨rfl, hb2⟩)
          go_roundw
          case rel => exact ⟨k + 1, by omega, by go_num, (by repeat' (first | (with_reducible exact up_refl _) | (with_reducible assumption) | (with_reducible refine up_alloc ?_ _) | (with_reducible refine up_drewN ?_ _) | (with_reducible refine up_drew ?_) | (with_reducible refine up_set ?_ (by first | (simp; done) | (simp; omega) | omega) _) | (refine up_trans ?_ (by with_reducible assumption)))), by rw [all_take_succ hl, unhide HX, unhide HO, unhide HI]; rfl⟩
          case measure => simp [intOf]; omega
      · obtain rfl : k = n := by omega
        have hz2 : (ls.all fun l => isHB l.ps) = true := by
          have := unhide HO
          rwa [List.take_of_length_le (by rw [unhide HN]; omega)] at this
        have HZ2 := hide hz2
        clear hz2
        go_wp2_with fail
        go_ret
        exact ⟨ret_int (by rw [← unhide HR, unhide HZ2]; rfl), hu⟩
  · have hE : hulE ls = chkLL ls := by unfold hulE; rw [if_neg hz]
    rw [hE]
    obtain ⟨z, hZ⟩ : ∃ z, chkLL ls = z := ⟨_, rfl⟩
    rw [hZ] at PC hz ⊢
    have HPC := hide PC
    have z1 : (z == 0) = false := by simp; exact hz
    clear PC hE hZ
    go_enter Try.func37, Try.ntmps37
    go_wp2_with (go_at_call 33; (with_reducible refine (unhide HPC).mono ?_); rintro e w1 ⟨rfl, hb1⟩)
    go_ret
    exact ⟨rfl, (by repeat' (first | (with_reducible exact up_refl _) | (with_reducible assumption) | (with_reducible refine up_alloc ?_ _) | (with_reducible refine up_drewN ?_ _) | (with_reducible refine up_drew ?_) | (with_reducible refine up_set ?_ (by first | (simp; done) | (simp; omega) | omega) _) | (refine up_trans ?_ (by with_reducible assumption))))⟩
theorem hulE_one {A : Option Addr} {ps : Pl} {cap : Nat} (hl : ps.length ≤ 256) (ho : okL ps = true) : hulE [⟨A, ps, cap⟩] = if isHB ps then 0 else 2 := by
  have : chkLL [⟨A, ps, cap⟩] = 0 := by rw [chkLL_one, if_pos hl, ho]; rfl
  unfold hulE
  rw [if_pos this]
  simp
theorem p_IsHull (b off : Nat) (ps : Pl) (cap : Nat) (w : World) (hc : Pts w (some ⟨b, off, none⟩) ps) (h0 : 0 < ps.length) (hl : ps.length ≤ 256) (ho : okL ps = true) (hcap : ps.length ≤ cap) (hcap2 : cap ≤ 9223372036854775807) :
    Calls Try.prog 12 #[.slice (some ⟨b, off, none⟩) ps.length cap] w fun e w' => e = .returned (.bool (isHB ps)) ∧ Up w w' := by
  have hE := hulE_one (A := some ⟨b, off, none⟩) (cap := cap) hl ho
  have HP := hide hc
  have PC : ∀ W, Up w W → W.cell? ⟨w.heap.size, 0, none⟩ = some (.slice (some ⟨b, off, none⟩) ps.length cap) → Calls Try.prog 37 #[.slice (some ⟨w.heap.size, 0, none⟩) 1 1] W fun e w' => e = .returned (.int .i64 (if isHB ps then 0 else 2)) ∧ Up W w' := fun W hu hw => by
    have q := p_checkHulls (some ⟨w.heap.size, 0, none⟩) [⟨some ⟨b, off, none⟩, ps, cap⟩] 1 W (lss_one (l := ⟨some ⟨b, off, none⟩, ps, cap⟩) hw (pts_up hc hu) (by show ps.length ≤ _; omega)) (by simp) (by simp; omega)
    rw [hE] at q
    exact q
  have HPC := hide PC
  clear PC hE hc HP
  cases hi : isHB ps
  all_goals
    rw [hi] at HPC
    clear hi
    go_enter Try.func12, Try.ntmps12
    go_wp2_with (go_at_call 37; (with_reducible refine (unhide HPC _ (by repeat' (first | (with_reducible exact up_refl _) | (with_reducible assumption) | (with_reducible refine up_alloc ?_ _) | (with_reducible refine up_drewN ?_ _) | (with_reducible refine up_drew ?_) | (with_reducible refine up_set ?_ (by first | (simp; done) | (simp; omega) | omega) _) | (refine up_trans ?_ (by with_reducible assumption)))) ?_).mono ?_); (· go_cell); rintro e w1 ⟨rfl, hb1⟩)
    go_ret
    exact ⟨rfl, (by repeat' (first | (with_reducible exact up_refl _) | (with_reducible assumption) | (with_reducible refine up_alloc ?_ _) | (with_reducible refine up_drewN ?_ _) | (with_reducible refine up_drew ?_) | (with_reducible refine up_set ?_ (by first | (simp; done) | (simp; omega) | omega) _) | (refine up_trans ?_ (by with_reducible assumption))))⟩
theorem p_HullNone (A : Option Addr) (cap : Nat) (w : World) :
    Calls Try.prog 9 #[.slice A 0 cap] w fun e w' => e = .returned (.tuple #[.slice none 0 0, .int .i64 5]) ∧ Up w w' := by
  have PC : ∀ W, Up w W → W.cell? ⟨w.heap.size, 0, none⟩ = some (.slice A 0 cap) → Calls Try.prog 33 #[.slice (some ⟨w.heap.size, 0, none⟩) 1 1] W fun e w' => e = .returned (.int .i64 0) ∧ Up W w' := fun W hu hw =>
    p_checkLists (some ⟨w.heap.size, 0, none⟩) [⟨A, [], cap⟩] 1 W (lss_one (l := ⟨A, [], cap⟩) hw (.inl rfl) (by simp)) (by simp)
  have HPC := hide PC
  clear PC
  go_enter Try.func9, Try.ntmps9
  go_wp2_with (go_at_call 33; (with_reducible refine (unhide HPC _ (by repeat' (first | (with_reducible exact up_refl _) | (with_reducible assumption) | (with_reducible refine up_alloc ?_ _) | (with_reducible refine up_drewN ?_ _) | (with_reducible refine up_drew ?_) | (with_reducible refine up_set ?_ (by first | (simp; done) | (simp; omega) | omega) _) | (refine up_trans ?_ (by with_reducible assumption)))) ?_).mono ?_); (· go_cell); rintro e w1 ⟨rfl, hb1⟩)
  go_ret2
  exact ⟨rfl, (by repeat' (first | (with_reducible exact up_refl _) | (with_reducible assumption) | (with_reducible refine up_alloc ?_ _) | (with_reducible refine up_drewN ?_ _) | (with_reducible refine up_drew ?_) | (with_reducible refine up_set ?_ (by first | (simp; done) | (simp; omega) | omega) _) | (refine up_trans ?_ (by with_reducible assumption))))⟩
theorem p_Hull (A : Option Addr) (ps : Pl) (cap : Nat) (w : World) (h : Pts w A ps) (h0 : 0 < ps.length) (hl : ps.length ≤ 256) (ho : okL ps = true) :
    Calls Try.prog 9 #[.slice A ps.length cap] w fun e w' => ∃ v, e = .returned (.tuple #[v, .int .i64 0]) ∧ w'.ownsRow w.heap.size 24 2 v (Gx.hullF ps).length (cellsPl (Gx.hullF ps)) ∧ Below w.heap.size w w' := by
  have PC : ∀ W, Up w W → W.cell? ⟨w.heap.size, 0, none⟩ = some (.slice A ps.length cap) → Calls Try.prog 33 #[.slice (some ⟨w.heap.size, 0, none⟩) 1 1] W fun e w' => e = .returned (.int .i64 0) ∧ Up W w' := fun W hu hw => by
    have q := p_checkLists (some ⟨w.heap.size, 0, none⟩) [⟨A, ps, cap⟩] 1 W (lss_one (l := ⟨A, ps, cap⟩) hw (pts_up h hu) (by show ps.length ≤ _; omega)) (by simp)
    rw [chkLL_one, if_pos hl, ho] at q
    exact q
  have PH : ∀ W, Up w W → Calls Try.prog 34 #[.slice A ps.length cap] W fun e w' => ∃ v, e = .returned v ∧ w'.ownsRow w.heap.size 24 2 v (Gx.hullF ps).length (cellsPl (Gx.hullF ps)) ∧ Up w w' := fun W hu =>
    (p_hull A ps cap W (pts_up h hu) h0 (by omega) (okL_bdL ho)).mono fun e w' ⟨v, he, hown, hb⟩ => ⟨v, he, own_base hown hu.size, up_trans hu hb⟩
  have HPC := hide PC
  have HPH := hide PH
  clear PC PH h ho
  obtain ⟨n, hN⟩ : ∃ n, ps.length = n := ⟨_, rfl⟩
  rw [hN] at HPC HPH h0 hl ⊢
  obtain ⟨R, hR⟩ : ∃ R, Gx.hullF ps = R := ⟨_, rfl⟩
  rw [hR] at HPH ⊢
  clear hN hR
  have n0 : ((n : Int) == 0) = false := by simp; omega
  go_enter Try.func9, Try.ntmps9
  go_wp2_with (first | (go_at_call 33; (with_reducible refine (unhide HPC _ (by repeat' (first | (with_reducible exact up_refl _) | (with_reducible assumption) | (with_reducible refine up_alloc ?_ _) | (with_reducible refine up_drewN ?_ _) | (with_reducible refine up_drew ?_) | (with_reducible refine up_set ?_ (by first | (simp; done) | (simp; omega) | omega) _) | (refine up_trans ?_ (by with_reducible assumption)))) ?_).mono ?_); (· go_cell); rintro e w1 ⟨rfl, hb1⟩) | (go_at_call 34; (with_reducible refine (unhide HPH _ (by repeat' (first | (with_reducible exact up_refl _) | (with_reducible assumption) | (with_reducible refine up_alloc ?_ _) | (with_reducible refine up_drewN ?_ _) | (with_reducible refine up_drew ?_) | (with_reducible refine up_set ?_ (by first | (simp; done) | (simp; omega) | omega) _) | (refine up_trans ?_ (by with_reducible assumption))))).mono ?_); rintro e w2 ⟨v, rfl, hown, hb2⟩))
  go_ret2
  exact ⟨v, rfl, hown, hb2⟩
theorem p_Inside (b off : Nat) (ps : Pl) (cap : Nat) (px py : Int) (w : World) (hc : Pts w (some ⟨b, off, none⟩) ps) (h0 : 0 < ps.length) (hl : ps.length ≤ 256) (ho : okL ps = true) (hcap : ps.length ≤ cap) (hcap2 : cap ≤ 9223372036854775807) (hi : isHB ps = true) (hp : okp px py = true) :
    Calls Try.prog 14 #[.slice (some ⟨b, off, none⟩) ps.length cap, pt px py] w fun e w' => (∃ v : Bool, e = .returned (.tuple #[.bool v, .int .i64 0]) ∧ (v = true ↔ Gx.Cont ps (px, py))) ∧ Up w w' := by
  have hE := hulE_one (A := some ⟨b, off, none⟩) (cap := cap) hl ho
  rw [hi] at hE
  have PC : ∀ (B : Nat) W, Up w W → W.cell? ⟨B, 0, none⟩ = some (.slice (some ⟨b, off, none⟩) ps.length cap) → Calls Try.prog 37 #[.slice (some ⟨B, 0, none⟩) 1 1] W fun e w' => e = .returned (.int .i64 0) ∧ Up W w' := fun B W hu hw => by
    have q := p_checkHulls (some ⟨B, 0, none⟩) [⟨some ⟨b, off, none⟩, ps, cap⟩] 1 W (lss_one (l := ⟨some ⟨b, off, none⟩, ps, cap⟩) hw (pts_up hc hu) (by show ps.length ≤ _; omega)) (by simp) (by simp; omega)
    rw [hE] at q
    exact q
  have PK : ∀ W, Calls Try.prog 38 #[pt px py] W fun e w' => e = .returned (.int .i64 0) ∧ Up W w' := fun W => by
    have q := p_Check px py W
    unfold chk at q
    rw [hp] at q
    exact q
  have hcc : ∀ k (h : k < ps.length), w.cell? ⟨b, off + k * 2, none⟩ = some (.int .i64 ps[k].1) ∧ w.cell? ⟨b, off + k * 2 + 1, none⟩ = some (.int .i64 ps[k].2) := by
    rcases hc with e | ⟨b', off', e, hcc⟩
    · rw [e] at h0; simp at h0
    · cases e; exact hcc
  have PN : ∀ W, Up w W → Calls Try.prog 39 #[.slice (some ⟨b, off, none⟩) ps.length cap, pt px py] W fun e w' => (∃ v : Bool, e = .returned (.bool v) ∧ (v = true ↔ Gx.Cont ps (px, py))) ∧ Up W w' := fun W hu =>
    p_contains b off ps cap px py W (fun k h => ⟨up_cell hu (hcc k h).1, up_cell hu (hcc k h).2⟩) h0 (by omega) (okL_bdL ho) (okp_bd hp).1 (okp_bd hp).2
  have HPC := hide PC
  have HPK := hide PK
  have HPN := hide PN
  clear PC PK PN hcc hE hc ho hi hp
  go_enter Try.func14, Try.ntmps14
  go_wp2_with (first | (go_at_call 37; (with_reducible refine (unhide HPC _ _ (by repeat' (first | (with_reducible exact up_refl _) | (with_reducible assumption) | (with_reducible refine up_alloc ?_ _) | (with_reducible refine up_drewN ?_ _) | (with_reducible refine up_drew ?_) | (with_reducible refine up_set ?_ (by first | (simp; done) | (simp; omega) | omega) _) | (refine up_trans ?_ (by with_reducible assumption)))) ?_).mono ?_); (· go_cell); rintro e w1 ⟨rfl, hb1⟩; have p0 : w1.cell? ⟨w.heap.size, 0, none⟩ = some (.int .i64 px) := up_cell hb1 (by go_cell); have p1 : w1.cell? ⟨w.heap.size, 1, none⟩ = some (.int .i64 py) := up_cell hb1 (by go_cell)) | (go_at_call 38; (with_reducible refine (unhide HPK _).mono ?_); rintro e w2 ⟨rfl, hb2⟩; have q0 := up_cell hb2 p0; have q1 := up_cell hb2 p1) | (go_at_call 39; (with_reducible refine (unhide HPN _ (by repeat' (first | (with_reducible exact up_refl _) | (with_reducible assumption) | (with_reducible refine up_alloc ?_ _) | (with_reducible refine up_drewN ?_ _) | (with_reducible refine up_drew ?_) | (with_reducible refine up_set ?_ (by first | (simp; done) | (simp; omega) | omega) _) | (refine up_trans ?_ (by with_reducible assumption))))).mono ?_); rintro e w3 ⟨⟨v, rfl, hv⟩, hb3⟩; have HV := hide hv; clear hv))
  go_ret2
  exact ⟨⟨v, rfl, unhide HV⟩, (by repeat' (first | (with_reducible exact up_refl _) | (with_reducible assumption) | (with_reducible refine up_alloc ?_ _) | (with_reducible refine up_drewN ?_ _) | (with_reducible refine up_drew ?_) | (with_reducible refine up_set ?_ (by first | (simp; done) | (simp; omega) | omega) _) | (refine up_trans ?_ (by with_reducible assumption))))⟩
end Go.Proofs.Ytihckoenfklhpaa
