/- The damage of pavements. -/
import Derived.Test.YtdignnmhiifpgaaBrP
namespace Go.Proofs.Ytdignnmhiifpgaa
open Go.RowKit Go.Proofs.Gn
set_option linter.unusedVariables false
/-- The wears of the axles together. -/
def wsF (p : Pav) : List (Int × Int) → Int
  | [] => 0
  | t :: ts => wrF p t.2 + wsF p ts
theorem wsF_app (p : Pav) (a b : List (Int × Int)) : wsF p (a ++ b) = wsF p a + wsF p b := by
  induction a with
  | nil => simp [wsF]
  | cons t a ih => simp only [List.cons_append, wsF, ih]; omega
theorem wsF_take (p : Pav) {ts : List (Int × Int)} {k : Nat} (h : k < ts.length) : wsF p (ts.take (k + 1)) = wsF p (ts.take k) + wrF p ts[k].2 := by
  rw [List.take_succ_eq_append_getElem h, wsF_app]; simp [wsF]
theorem wrF_bd {p : Pav} {l : Int} (hp : 1 ≤ p.ld) (hl : 0 ≤ l ∧ l ≤ 1048576) : 0 ≤ wrF p l ∧ wrF p l ≤ 1153000000000000 := by
  unfold wrF
  have hb := up6_bd (n := l * 1000) (d := p.ld) (by omega) hp
  obtain ⟨r, hr⟩ : ∃ r, up6 (l * 1000) p.ld = r := ⟨_, rfl⟩
  rw [hr] at hb ⊢
  have key : ∀ n w, 0 ≤ w ∧ w ≤ 1153000000000000 → 0 ≤ wrL r n w ∧ wrL r n w ≤ 1153000000000000 := by
    intro n
    induction n with
    | zero => exact fun w h => h
    | succ n ih =>
      intro w h
      unfold wrL
      split
      · rename_i hw
        have m : 0 ≤ w * r ∧ w * r ≤ 1073741824 * 1073741824 := ⟨Int.mul_nonneg h.1 hb.1, Int.mul_le_mul hw (by omega) hb.1 (by omega)⟩
        refine ih _ ⟨(up6_bd (n := w * r) (d := 1000) m.1 (by omega)).1, ?_⟩
        unfold up6
        have : (w * r + 1000 - 1) / 1000 ≤ (1152921504606846976 + 1000 - 1) / 1000 := Int.ediv_le_ediv (by omega) (by omega)
        omega
      · exact h
  exact key _ _ ⟨hb.1, by omega⟩
theorem wsF_bd {p : Pav} (hp : 1 ≤ p.ld) {ts : List (Int × Int)} (h : TrOk ts) : ∀ k, k ≤ ts.length → 0 ≤ wsF p (ts.take k) ∧ wsF p (ts.take k) ≤ 1153000000000000 * (k : Int)
  | 0, _ => by simp [wsF]
  | k + 1, hk => by
    have ih := wsF_bd hp h k (by omega)
    rw [wsF_take p (by omega : k < ts.length)]
    have t := wrF_bd (p := p) (l := ts[k].2) hp ((h.2 k (by omega)).2)
    omega
set_option maxRecDepth 100000 in
theorem p_wears (p : Pav) (A : Option Addr) (ts : List (Int × Int)) (cap : Nat) (w : World) (hp : 1 ≤ p.ld ∧ p.ld ≤ 1048576) (hw : 1 ≤ p.pw ∧ p.pw ≤ 6) (hF : Frs w A ts) (ht : TrOk ts) :
    Calls Try.prog 44 #[pvV p, .slice A ts.length cap] w fun e w' => e = .returned (.int .i64 (wsF p ts)) ∧ Up w w' := by
  have hB := hide (wsF_bd hp.1 ht)
  have hT := hide (fun k (h : k < ts.length) => wsF_take p h)
  have hW := hide (fun k (h : k < ts.length) W => p_wear p ts[k].2 W hp hw (ht.2 k h).2)
  have hE : wsF p ts = wsF p (ts.take ts.length) := by rw [List.take_length]
  have h00 : wsF p (ts.take 0) = 0 := rfl
  have hl := ht.1
  obtain ⟨G, hG⟩ : ∃ G : Nat → Int, (fun k => wsF p (ts.take k)) = G := ⟨_, rfl⟩
  have hGk : ∀ k, wsF p (ts.take k) = G k := fun k => congrFun hG k
  rw [hE]
  simp only [hGk] at hB hT h00 ⊢
  unfold pvV at hW ⊢
  have H00 := hide h00
  clear hG hGk hE h00 hp hw ht
  obtain ⟨n, hN⟩ : ∃ n, ts.length = n := ⟨_, rfl⟩
  have HN := hide hN
  have HF := hide hF
  rw [hN] at hB hl ⊢
  clear hN hF
  obtain ⟨ld, lf, pw⟩ := p
  dsimp only at *
  go_enter Try.func44, Try.ntmps44
  go_upto_region 3 with fail
  refine at_wpB (fun W hW2 => ?_)
  have hBx : Bx W w.heap.size [.int .i64 ld, .int .i64 lf, .int .i64 pw] := by rw [hW2]; exact bx_new w _ _
  have U : Up w W := by rw [hW2]; exact (by repeat' (first | (with_reducible exact up_refl _) | (with_reducible assumption) | (with_reducible refine up_alloc ?_ _) | (with_reducible refine up_drewN ?_ _) | (with_reducible refine up_drew ?_) | (with_reducible refine up_set ?_ (by first | (simp; done) | (simp; omega) | omega) _) | (refine up_trans ?_ (by with_reducible assumption))))
  clear hW2
  go_loopw [5, 10] (fun s5 s10 wr => ∃ k : Nat, k ≤ n ∧ s10 = .int .i64 k ∧ s5 = .int .i64 (G k) ∧ Hid (Bx wr w.heap.size [.int .i64 ld, .int .i64 lf, .int .i64 pw]) ∧ Up w wr) (fun _ s10 _ => n - (intOf s10).toNat)
  case atStart => exact ⟨0, by omega, rfl, by rw [unhide H00], hide hBx, U⟩
  case round =>
    obtain ⟨k, hk, rfl, rfl, HBx, Ur⟩ := hrel
    clear U hBx
    by_cases hlt : k < n
    · have hlk : k < ts.length := by rw [unhide HN]; omega
      rcases unhide HF with hnil | ⟨b, off, rfl, hcc⟩
      · rw [hnil] at hlk; simp at hlk
      obtain ⟨k0, k1⟩ := hcc k hlk
      have c0 := up_cell Ur k0
      have c1 := up_cell Ur k1
      have b1 := unhide hB k hk
      have b2 := unhide hB (k + 1) hlt
      have st := unhide hT k hlk
      have HWk := hide (fun W => unhide hW k hlk W)
      generalize ts[k].1 = x at *
      generalize ts[k].2 = y at *
      obtain ⟨g, hg⟩ : ∃ g, G k = g := ⟨_, rfl⟩
      rw [hg] at b1 st ⊢
      obtain ⟨z, hz⟩ : ∃ z, wrF { ld := ld, lf := lf, pw := pw } y = z := ⟨_, rfl⟩
      rw [hz] at st HWk
      have HST := hide st
      have w1 : IntKind.i64.wrap (g + z) = g + z := IntWalk.i64_in _ ⟨by omega, by omega⟩
      have hwk : IntKind.i64.wrap ((k : Int) + 1) = (k : Int) + 1 := IntWalk.i64_in _ ⟨by omega, by omega⟩
      have j0 : (0 : Int) ≤ (k : Int) := by omega
      have j1 : (k : Int) < (n : Int) := by omega
      have j2 : (k : Int).toNat = k := by omega
      clear st b1 b2 hg hz k0 k1 hcc
      go_upto_region 5 with fail
      refine at_wpB (fun W1 hW1 => ?_)
      have U1 : Up wr W1 := by rw [hW1]; exact (by repeat' (first | (with_reducible exact up_refl _) | (with_reducible assumption) | (with_reducible refine up_alloc ?_ _) | (with_reducible refine up_drewN ?_ _) | (with_reducible refine up_drew ?_) | (with_reducible refine up_set ?_ (by first | (simp; done) | (simp; omega) | omega) _) | (refine up_trans ?_ (by with_reducible assumption))))
      obtain ⟨m0, m1⟩ : W1.cell? ⟨wr.heap.size, 0, none⟩ = some (.int .i64 x) ∧ W1.cell? ⟨wr.heap.size, 1, none⟩ = some (.int .i64 y) := by
        have t : Bx W1 wr.heap.size [.int .i64 x, .int .i64 y] := by rw [hW1]; exact bx_new wr _ _
        exact bx2 t
      have HB1 := hide (bx_up (unhide HBx) U1)
      obtain ⟨d0, d1, d2⟩ := bx3 (unhide HB1)
      have U2 := up_trans Ur U1
      clear hW1 HBx U1
      go_wp2_with (go_at_call 70; (with_reducible refine (unhide HWk _).mono ?_); rintro e w1 ⟨rfl, hu⟩)
      go_roundw
      case rel => exact ⟨k + 1, by omega, by go_num, by rw [unhide HST], hide (bx_up (unhide HB1) hu), up_trans U2 hu⟩
      case measure => simp [intOf]; omega
    · obtain rfl : k = n := by omega
      go_wp2
      go_ret
      exact ⟨rfl, Ur⟩
def pvE (p : Pav) : Int := if win6 p.ld 1 1048576 && win6 p.lf 1 1048576 && win6 p.pw 1 6 then 0 else 2
theorem pvE_ok {p : Pav} (h : pvE p = 0) : (1 ≤ p.ld ∧ p.ld ≤ 1048576) ∧ (1 ≤ p.lf ∧ p.lf ≤ 1048576) ∧ (1 ≤ p.pw ∧ p.pw ≤ 6) := by
  unfold pvE at h
  split at h
  · rename_i h0
    rw [Bool.and_eq_true, Bool.and_eq_true] at h0
    exact ⟨win6_yes h0.1.1, win6_yes h0.1.2, win6_yes h0.2⟩
  · cases h
theorem p_CheckPav (p : Pav) (w : World) :
    Calls Try.prog 18 #[pvV p] w fun e w' => e = .returned (.int .i64 (pvE p)) ∧ Up w w' := by
  unfold pvE pvV
  have H1 := hide (fun W => p_w64 p.ld 1 1048576 W)
  have H2 := hide (fun W => p_w64 p.lf 1 1048576 W)
  have H3 := hide (fun W => p_wI p.pw 1 6 W)
  obtain ⟨ld, lf, pw⟩ := p
  dsimp only at *
  generalize win6 ld 1 1048576 = r1 at *
  generalize win6 lf 1 1048576 = r2 at *
  generalize win6 pw 1 6 = r3 at *
  cases r1 <;> cases r2 <;> cases r3
  all_goals
    go_enter Try.func18, Try.ntmps18
    go_wp2_with (first | (go_at_call 37; (with_reducible refine (unhide H1 _).mono ?_); rintro e w1 ⟨rfl, rfl⟩) | (go_at_call 37; (with_reducible refine (unhide H2 _).mono ?_); rintro e w1 ⟨rfl, rfl⟩) | (go_at_call 47; (with_reducible refine (unhide H3 _).mono ?_); rintro e w1 ⟨rfl, rfl⟩))
    go_ret
    exact ⟨rfl, (by repeat' (first | (with_reducible exact up_refl _) | (with_reducible assumption) | (with_reducible refine up_alloc ?_ _) | (with_reducible refine up_drewN ?_ _) | (with_reducible refine up_drew ?_) | (with_reducible refine up_set ?_ (by first | (simp; done) | (simp; omega) | omega) _) | (refine up_trans ?_ (by with_reducible assumption))))⟩
end Go.Proofs.Ytdignnmhiifpgaa
