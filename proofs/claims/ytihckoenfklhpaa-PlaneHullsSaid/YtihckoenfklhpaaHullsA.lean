/- Whether lists are hulls: also for empty ones, and for those that are too long. -/
import Derived.Test.YtihckoenfklhpaaHulls
namespace Go.Proofs.Ytihckoenfklhpaa
open Go.RowKit Go.Proofs.Gn
theorem isHB_nil : isHB [] = false := by
  cases h : isHB [] with
  | false => rfl
  | true => exact absurd rfl (isHB_iff.1 h).ne
theorem p_isHull_nil (A : Option Addr) (cap : Nat) (w : World) : Calls Try.prog 71 #[.slice A 0 cap] w fun e w' => e = .returned (.bool false) ∧ Up w w' := by
  go_enter Try.func71, Try.ntmps71
  go_wp2_with fail
  go_ret
  exact ⟨rfl, (by repeat' (first | (with_reducible exact up_refl _) | (with_reducible assumption) | (with_reducible refine up_alloc ?_ _) | (with_reducible refine up_drewN ?_ _) | (with_reducible refine up_drew ?_) | (with_reducible refine up_set ?_ (by first | (simp; done) | (simp; omega) | omega) _) | (refine up_trans ?_ (by with_reducible assumption))))⟩
theorem p_isHullA (A : Option Addr) (ps : Pl) (cap : Nat) (w : World) (h : Pts w A ps) (hn : ps.length ≤ 70000) (hcap : ps.length ≤ cap) (hcap2 : cap ≤ 9223372036854775807) (hb : BdL ps) :
    Calls Try.prog 71 #[.slice A ps.length cap] w fun e w' => e = .returned (.bool (isHB ps)) ∧ Up w w' := by
  rcases h with rfl | ⟨b, off, rfl, hc⟩
  · rw [isHB_nil]
    exact p_isHull_nil A cap w
  · rcases Nat.eq_zero_or_pos ps.length with c | c
    · have e := List.eq_nil_of_length_eq_zero c
      subst e
      rw [isHB_nil]
      exact p_isHull_nil _ cap w
    · exact p_isHull b off ps cap w hc c hn hcap hcap2 hb
theorem p_checkHullsA (A : Option Addr) (ls : List Lst) (cap : Nat) (w : World) (h : Lss w A ls) (hn : ls.length ≤ 9223372036854775807) (hg : ∀ l ∈ ls, l.ps.length ≤ l.cap ∧ l.cap ≤ 9223372036854775807) :
    Calls Try.prog 37 #[.slice A ls.length cap] w fun e w' => e = .returned (.int .i64 (hulE ls)) ∧ Up w w' := by
  have PC : Calls Try.prog 33 #[.slice A ls.length cap] w fun e w' => e = .returned (.int .i64 (chkLL ls)) ∧ Up w w' := p_checkLists A ls cap w h hn
  have HL := hide h
  obtain ⟨b, off, rfl, hc⟩ := h
  have HC := hide hc
  have HG := hide hg
  clear hc hg
  by_cases hz : chkLL ls = 0
  · have hE : hulE ls = if (ls.all fun l => isHB l.ps) then 0 else 2 := by unfold hulE; rw [if_pos hz]
    have HZ := hide (chkLL_zero hz)
    rw [hz] at PC
    rw [hE]
    obtain ⟨r, hr⟩ : ∃ r : Int, (if (ls.all fun l => isHB l.ps) then 0 else 2) = r := ⟨_, rfl⟩
    rw [hr]
    have HR := hide hr
    clear hr
    have HPC := hide PC
    obtain ⟨n, hN⟩ : ∃ n, ls.length = n := ⟨_, rfl⟩
    rw [hN] at HPC ⊢
    have HN := hide hN
    have hn' : n ≤ 9223372036854775807 := by omega
    clear hN hn PC hz hE
    go_enter Try.func37, Try.ntmps37
    go_wp2_with (go_at_call 33; (with_reducible refine (unhide HPC).mono ?_); rintro e w1 ⟨rfl, hb1⟩)
    go_loopw [13] (fun i wr => ∃ k : Nat, k ≤ n ∧ i = .int .i64 k ∧ Up w wr ∧ ((ls.take k).all fun l => isHB l.ps) = true) (fun i _ => n - (intOf i).toNat)
    case atStart => exact ⟨0, by omega, rfl, hb1, rfl⟩
    case round =>
      obtain ⟨k, hk, rfl, hu, ho⟩ := hrel
      have HO := hide ho
      clear ho
      by_cases hlt : k < n
      · have hl : k < ls.length := by rw [unhide HN]; exact hlt
        have hck := unhide HC k hl
        have hgk := unhide HG ls[k] (List.getElem_mem hl)
        have hzk := unhide HZ ls[k] (List.getElem_mem hl)
        obtain ⟨l, hL⟩ : ∃ l, ls[k] = l := ⟨_, rfl⟩
        rw [hL] at hck hgk hzk
        have c0 := up_cell hu hck.1
        unfold Lst.val at c0
        have PI := p_isHullA _ l.ps l.cap wr (pts_up hck.2.1 hu) (by omega) hgk.1 hgk.2 (okL_bdL hzk.2)
        have HX := hide hL
        have HPI := hide PI
        clear hL hck hgk hzk PI
        have k1 : (k : Int) < (n : Int) := by omega
        cases hi : isHB l.ps
        · rw [hi] at HPI
          have HI := hide hi
          clear hi
          go_wp2_with (go_at_call 71; (with_reducible refine (unhide HPI).mono ?_); rintro e w2 ⟨rfl, hb2⟩)
          go_ret
          refine ⟨ret_int ?_, (by repeat' (first | (with_reducible exact up_refl _) | (with_reducible assumption) | (with_reducible refine up_alloc ?_ _) | (with_reducible refine up_drewN ?_ _) | (with_reducible refine up_drew ?_) | (with_reducible refine up_set ?_ (by first | (simp; done) | (simp; omega) | omega) _) | (refine up_trans ?_ (by with_reducible assumption))))⟩
          rw [← unhide HR, all_at hl (by rw [unhide HX]; exact unhide HI)]
          rfl
        · rw [hi] at HPI
          have HI := hide hi
          clear hi
          go_wp2_with (go_at_call 71; (with_reducible refine (unhide HPI).mono ?_); rintro e w2 ⟨rfl, hb2⟩)
          go_roundw
          case rel => exact ⟨k + 1, by omega, by go_num, (by repeat' (first | (with_reducible exact up_refl _) | (with_reducible assumption) | (with_reducible refine up_alloc ?_ _) | (with_reducible refine up_drewN ?_ _) | (with_reducible refine up_drew ?_) | (with_reducible refine up_set ?_ (by first | (simp; done) | (simp; omega) | omega) _) | (refine up_trans ?_ (by with_reducible assumption)))), by rw [all_take_succ hl, unhide HX, unhide HO, unhide HI]; rfl⟩
          case measure => simp [intOf]; omega
      · obtain rfl : k = n := by omega
        have hz2 : (ls.all fun l => isHB l.ps) = true := by
          have := unhide HO
          rwa [List.take_of_length_le (by rw [unhide HN]; omega)] at this
        have HZ2 := hide hz2
        clear hz2
        go_wp2_with fail
        go_ret
        exact ⟨ret_int (by rw [← unhide HR, unhide HZ2]; rfl), hu⟩
  · have hE : hulE ls = chkLL ls := by unfold hulE; rw [if_neg hz]
    rw [hE]
    obtain ⟨z, hZ⟩ : ∃ z, chkLL ls = z := ⟨_, rfl⟩
    rw [hZ] at PC hz ⊢
    have HPC := hide PC
    have z1 : (z == 0) = false := by simp; exact hz
    clear PC hE hZ
    go_enter Try.func37, Try.ntmps37
    go_wp2_with (go_at_call 33; (with_reducible refine (unhide HPC).mono ?_); rintro e w1 ⟨rfl, hb1⟩)
    go_ret
    exact ⟨rfl, (by repeat' (first | (with_reducible exact up_refl _) | (with_reducible assumption) | (with_reducible refine up_alloc ?_ _) | (with_reducible refine up_drewN ?_ _) | (with_reducible refine up_drew ?_) | (with_reducible refine up_set ?_ (by first | (simp; done) | (simp; omega) | omega) _) | (refine up_trans ?_ (by with_reducible assumption))))⟩

/-- The errors of one hull. -/
noncomputable def hul1 (ps : Pl) : Int := if ps.length ≤ 256 then if okL ps then if isHB ps then 0 else 2 else 2 else 6
theorem hulE_one2 {A : Option Addr} {ps : Pl} {cap : Nat} : hulE [⟨A, ps, cap⟩] = hul1 ps := by
  unfold hulE hul1
  rw [chkLL_one]
  by_cases h1 : ps.length ≤ 256
  · rw [if_pos h1, if_pos h1]
    cases h2 : okL ps <;> simp
  · rw [if_neg h1, if_neg h1]
    simp
theorem p_check1 (A : Option Addr) (ps : Pl) (cap : Nat) (B : Nat) (W : World) (h : Pts W A ps) (hcap : ps.length ≤ cap) (hcap2 : cap ≤ 9223372036854775807) (hw : W.cell? ⟨B, 0, none⟩ = some (.slice A ps.length cap)) :
    Calls Try.prog 37 #[.slice (some ⟨B, 0, none⟩) 1 1] W fun e w' => e = .returned (.int .i64 (hul1 ps)) ∧ Up W w' := by
  have q := p_checkHullsA (some ⟨B, 0, none⟩) [⟨A, ps, cap⟩] 1 W (lss_one (l := ⟨A, ps, cap⟩) hw h (by show ps.length ≤ _; omega)) (by simp) (by
    intro l hl
    rw [List.mem_singleton.1 hl]
    exact ⟨hcap, hcap2⟩)
  rw [hulE_one2] at q
  exact q
theorem p_IsHullA (A : Option Addr) (ps : Pl) (cap : Nat) (w : World) (h : Pts w A ps) (hcap : ps.length ≤ cap) (hcap2 : cap ≤ 9223372036854775807) :
    Calls Try.prog 12 #[.slice A ps.length cap] w fun e w' => e = .returned (.bool (decide (hul1 ps = 0))) ∧ Up w w' := by
  have PC : ∀ (B : Nat) W, Up w W → W.cell? ⟨B, 0, none⟩ = some (.slice A ps.length cap) → Calls Try.prog 37 #[.slice (some ⟨B, 0, none⟩) 1 1] W fun e w' => e = .returned (.int .i64 (hul1 ps)) ∧ Up W w' := fun B W hu hw => p_check1 A ps cap B W (pts_up h hu) hcap hcap2 hw
  obtain ⟨z, hZ⟩ : ∃ z, hul1 ps = z := ⟨_, rfl⟩
  rw [hZ] at PC ⊢
  obtain ⟨n, hN⟩ : ∃ n, ps.length = n := ⟨_, rfl⟩
  rw [hN] at PC ⊢
  have HPC := hide PC
  clear PC hZ hN hcap hcap2 h
  by_cases c : z = 0
  · subst c
    go_enter Try.func12, Try.ntmps12
    go_wp2_with (go_at_call 37; (with_reducible refine (unhide HPC _ _ (by repeat' (first | (with_reducible exact up_refl _) | (with_reducible assumption) | (with_reducible refine up_alloc ?_ _) | (with_reducible refine up_drewN ?_ _) | (with_reducible refine up_drew ?_) | (with_reducible refine up_set ?_ (by first | (simp; done) | (simp; omega) | omega) _) | (refine up_trans ?_ (by with_reducible assumption)))) ?_).mono ?_); (· go_cell); rintro e w1 ⟨rfl, hb1⟩)
    go_ret
    exact ⟨rfl, (by repeat' (first | (with_reducible exact up_refl _) | (with_reducible assumption) | (with_reducible refine up_alloc ?_ _) | (with_reducible refine up_drewN ?_ _) | (with_reducible refine up_drew ?_) | (with_reducible refine up_set ?_ (by first | (simp; done) | (simp; omega) | omega) _) | (refine up_trans ?_ (by with_reducible assumption))))⟩
  · rw [decide_eq_false c]
    have z1 : (z == 0) = false := beq_false_of_ne c
    go_enter Try.func12, Try.ntmps12
    go_wp2_with (go_at_call 37; (with_reducible refine (unhide HPC _ _ (by repeat' (first | (with_reducible exact up_refl _) | (with_reducible assumption) | (with_reducible refine up_alloc ?_ _) | (with_reducible refine up_drewN ?_ _) | (with_reducible refine up_drew ?_) | (with_reducible refine up_set ?_ (by first | (simp; done) | (simp; omega) | omega) _) | (refine up_trans ?_ (by with_reducible assumption)))) ?_).mono ?_); (· go_cell); rintro e w1 ⟨rfl, hb1⟩)
    go_ret
    exact ⟨rfl, (by repeat' (first | (with_reducible exact up_refl _) | (with_reducible assumption) | (with_reducible refine up_alloc ?_ _) | (with_reducible refine up_drewN ?_ _) | (with_reducible refine up_drew ?_) | (with_reducible refine up_set ?_ (by first | (simp; done) | (simp; omega) | omega) _) | (refine up_trans ?_ (by with_reducible assumption))))⟩
/-- Hull of a list that is too long, or not valid. -/
theorem p_HullE (A : Option Addr) (ps : Pl) (cap : Nat) (w : World) (h : Pts w A ps) (hn : ps.length ≤ 9223372036854775807) (he : ptsE ps ≠ 0) :
    Calls Try.prog 9 #[.slice A ps.length cap] w fun e w' => e = .returned (.tuple #[.slice none 0 0, .int .i64 (ptsE ps)]) ∧ Up w w' := by
  have PC : ∀ (B : Nat) W, Up w W → W.cell? ⟨B, 0, none⟩ = some (.slice A ps.length cap) → Calls Try.prog 33 #[.slice (some ⟨B, 0, none⟩) 1 1] W fun e w' => e = .returned (.int .i64 (ptsE ps)) ∧ Up W w' := fun B W hu hw => by
    have q := p_checkLists (some ⟨B, 0, none⟩) [⟨A, ps, cap⟩] 1 W (lss_one (l := ⟨A, ps, cap⟩) hw (pts_up h hu) hn) (by simp)
    rw [chkLL_one] at q
    exact q
  obtain ⟨z, hZ⟩ : ∃ z, ptsE ps = z := ⟨_, rfl⟩
  rw [hZ] at PC he ⊢
  obtain ⟨n, hN⟩ : ∃ n, ps.length = n := ⟨_, rfl⟩
  rw [hN] at PC ⊢
  have HPC := hide PC
  have z1 : (z == 0) = false := beq_false_of_ne he
  clear PC hZ hN h hn
  go_enter Try.func9, Try.ntmps9
  go_wp2_with (go_at_call 33; (with_reducible refine (unhide HPC _ _ (by repeat' (first | (with_reducible exact up_refl _) | (with_reducible assumption) | (with_reducible refine up_alloc ?_ _) | (with_reducible refine up_drewN ?_ _) | (with_reducible refine up_drew ?_) | (with_reducible refine up_set ?_ (by first | (simp; done) | (simp; omega) | omega) _) | (refine up_trans ?_ (by with_reducible assumption)))) ?_).mono ?_); (· go_cell); rintro e w1 ⟨rfl, hb1⟩)
  go_ret2
  exact ⟨rfl, (by repeat' (first | (with_reducible exact up_refl _) | (with_reducible assumption) | (with_reducible refine up_alloc ?_ _) | (with_reducible refine up_drewN ?_ _) | (with_reducible refine up_drew ?_) | (with_reducible refine up_set ?_ (by first | (simp; done) | (simp; omega) | omega) _) | (refine up_trans ?_ (by with_reducible assumption))))⟩
end Go.Proofs.Ytihckoenfklhpaa
