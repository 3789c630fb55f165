/- What Length returns, of the program and of the document's own answers. -/
import Derived.Test.YtihckoenfklhpaaLists
import Derived.Test.YtihckoenfklhpaaMath
import Derived.Deep.DeepCutAuto
namespace Go.Proofs.Ytihckoenfklhpaa
open Go.RowKit Go.Proofs.Gn
/-- The length of the piece k, and of the first k pieces. -/
def px (ps : Pl) (k : Nat) : Int := (ps.getD k (0, 0)).1
def py (ps : Pl) (k : Nat) : Int := (ps.getD k (0, 0)).2
def far (ps : Pl) (k : Nat) : Int := root (sqd (px ps k) (py ps k) (px ps (k + 1)) (py ps (k + 1)))
def lon (ps : Pl) : Nat → Int
  | 0 => 0
  | k + 1 => lon ps k + far ps k
theorem lon_succ (ps : Pl) (k : Nat) : lon ps (k + 1) = lon ps k + far ps k := rfl
/-- A list that is looked at: not too long, its points valid, not empty. -/
def wayB (ps : Pl) : Bool := decide (ps.length ≤ 256) && okL ps && decide (0 < ps.length)
def wayE (ps : Pl) : Int := if ps.length ≤ 256 then if okL ps then if 0 < ps.length then 0 else 5 else 2 else 6
def wayV (ps : Pl) : Int := if wayB ps then lon ps (ps.length - 1) else 0
theorem okL_get {ps : Pl} (h : okL ps = true) {k : Nat} (hk : k < ps.length) : okp (px ps k) (py ps k) = true := by
  unfold px py
  rw [List.getD_eq_getElem?_getD, List.getElem?_eq_getElem hk]
  have := List.all_eq_true.1 h ps[k] (List.getElem_mem hk)
  simpa using this
theorem pts_get {w : World} {b off : Nat} {ps : Pl} (hc : ∀ k (h : k < ps.length), w.cell? ⟨b, off + k * 2, none⟩ = some (.int .i64 ps[k].1) ∧ w.cell? ⟨b, off + k * 2 + 1, none⟩ = some (.int .i64 ps[k].2)) {k : Nat} (hk : k < ps.length) :
    w.cell? ⟨b, off + k * 2, none⟩ = some (.int .i64 (px ps k)) ∧ w.cell? ⟨b, off + k * 2 + 1, none⟩ = some (.int .i64 (py ps k)) := by
  unfold px py
  rw [List.getD_eq_getElem?_getD, List.getElem?_eq_getElem hk]
  exact hc k hk
theorem far_bd {ps : Pl} (h : okL ps = true) {k : Nat} (hk : k + 1 < ps.length) : 0 ≤ far ps k ∧ far ps k ≤ 67108864 := by
  have a := okL_get h (k := k) (by omega)
  have b := okL_get h hk
  have a1 := okc_yes (okp_yes a).1
  have a2 := okc_yes (okp_yes a).2
  have b1 := okc_yes (okp_yes b).1
  have b2 := okc_yes (okp_yes b).2
  refine ⟨root_nonneg _, root_le (sqd_nonneg _ _ _ _) (by omega) ?_⟩
  unfold sqd
  have m1 := mul_bd2 (u := px ps (k + 1) - px ps k) (v := px ps (k + 1) - px ps k) (by omega) (by omega) (by omega) (by omega)
  have m2 := mul_bd2 (u := py ps (k + 1) - py ps k) (v := py ps (k + 1) - py ps k) (by omega) (by omega) (by omega) (by omega)
  omega
theorem lon_bd {ps : Pl} (h : okL ps = true) : ∀ k : Nat, k < ps.length → 0 ≤ lon ps k ∧ lon ps k ≤ 67108864 * (k : Int) := by
  intro k
  induction k with
  | zero => intro _; simp [lon]
  | succ k ih =>
    intro hk
    have a := ih (by omega)
    have b := far_bd h hk
    rw [lon_succ]
    omega
theorem chkLL_one (A : Option Addr) (ps : Pl) (cap : Nat) : chkLL [⟨A, ps, cap⟩] = if ps.length ≤ 256 then if okL ps then 0 else 2 else 6 := by
  simp [chkLL, fewB, okLL]
/-! ### The document's own answers -/
def ptsE (ps : Pl) : Int := if ps.length ≤ 256 then if okL ps then 0 else 2 else 6
theorem r_points (A : Option Addr) (ps : Pl) (cap : Nat) (w : World) (h : Pts w A ps) (hn : ps.length ≤ 9223372036854775807) :
    Calls Try.prog 35 #[.slice A ps.length cap] w fun e w' => e = .returned (.int .i64 (ptsE ps)) ∧ Up w w' := by
  by_cases c1 : ps.length ≤ 256
  · have hz1 : ptsE ps = if okL ps then 0 else 2 := by unfold ptsE; rw [if_pos c1]
    have HZ1 := hide hz1
    clear hz1
    rcases h with rfl | ⟨b, off, rfl, hc⟩
    · go_enter Try.func35, Try.ntmps35
      go_wp2_with fail
      go_rounds 1
      go_ret
      exact ⟨ret_int (by decide), up_refl _⟩
    have HC := hide hc
    clear hc
    obtain ⟨n, hN⟩ : ∃ n, ps.length = n := ⟨_, rfl⟩
    rw [hN] at c1 ⊢
    have HN := hide hN
    clear hN hn
    go_enter Try.func35, Try.ntmps35
    go_wp2_with fail
    go_loopw [3] (fun i wr => ∃ k : Nat, k ≤ n ∧ i = .int .i64 k ∧ Up w wr ∧ okL (ps.take k) = true) (fun i _ => n - (intOf i).toNat)
    case atStart => exact ⟨0, by omega, rfl, up_refl _, rfl⟩
    case round =>
      obtain ⟨k, hk, rfl, hu, ho⟩ := hrel
      have HO := hide ho
      clear ho
      by_cases hlt : k < n
      · have hl : k < ps.length := by rw [unhide HN]; exact hlt
        have hck := unhide HC k hl
        have c0 := up_cell hu hck.1
        have c1 := up_cell hu hck.2
        obtain ⟨x, hx⟩ : ∃ x, ps[k].1 = x := ⟨_, rfl⟩
        obtain ⟨y, hy⟩ : ∃ y, ps[k].2 = y := ⟨_, rfl⟩
        rw [hx] at c0
        rw [hy] at c1
        have HX := hide hx
        have HY := hide hy
        clear hx hy hck
        cases hp : okp x y
        · have HP := hide hp
          go_wp2_with (go_at_call 41; refine (r_Is _ _ _).mono ?_; rintro e w' ⟨rfl, hb⟩)
          go_ret
          refine ⟨ret_int ?_, (by repeat' (first | (with_reducible exact up_refl _) | (with_reducible assumption) | (with_reducible refine up_alloc ?_ _) | (with_reducible refine up_drewN ?_ _) | (with_reducible refine up_drew ?_) | (with_reducible refine up_set ?_ (by first | (simp; done) | (simp; omega) | omega) _) | (refine up_trans ?_ (by with_reducible assumption))))⟩
          rw [unhide HZ1, okL_at hl (by rw [unhide HX, unhide HY]; exact unhide HP)]
          rfl
        · have HP := hide hp
          go_wp2_with (go_at_call 41; refine (r_Is _ _ _).mono ?_; rintro e w' ⟨rfl, hb⟩)
          go_roundw
          case rel => exact ⟨k + 1, by omega, by go_num, (by repeat' (first | (with_reducible exact up_refl _) | (with_reducible assumption) | (with_reducible refine up_alloc ?_ _) | (with_reducible refine up_drewN ?_ _) | (with_reducible refine up_drew ?_) | (with_reducible refine up_set ?_ (by first | (simp; done) | (simp; omega) | omega) _) | (refine up_trans ?_ (by with_reducible assumption)))), by rw [okL_take_succ hl, unhide HO, unhide HX, unhide HY, unhide HP]; rfl⟩
          case measure => simp [intOf]; omega
      · obtain rfl : k = n := by omega
        have hz : okL ps = true := by
          have := unhide HO
          rwa [List.take_of_length_le (by rw [unhide HN]; omega)] at this
        have HZ := hide hz
        clear hz
        go_wp2_with fail
        go_ret
        exact ⟨ret_int (by rw [unhide HZ1, unhide HZ]; rfl), hu⟩
  · have hz1 : ptsE ps = 6 := by unfold ptsE; rw [if_neg c1]
    have HZ1 := hide hz1
    clear hz1
    go_enter Try.func35, Try.ntmps35
    go_wp2_with fail
    go_ret
    exact ⟨ret_int (unhide HZ1).symm, up_refl _⟩
end Go.Proofs.Ytihckoenfklhpaa
