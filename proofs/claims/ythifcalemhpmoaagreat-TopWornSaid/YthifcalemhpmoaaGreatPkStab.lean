/- slices.SortStableFunc of forces that are in order already: nothing moves. The lines of moments and ends: their values. The damage of pavements. The wear of pavements. -/
import Derived.Test.YthifcalemhpmoaaGreatPkRefDown
import Derived.Test.YthifcalemhpmoaaGreatUpQ
import Derived.Test.YthifcalemhpmoaaGreatPkKp
import Derived.Test.YthifcalemhpmoaaGreatPkChR
import Derived.Deep.Cut
import Derived.Deep.DeepCutAuto
namespace Go.Proofs.YthifcalemhpmoaaGreat
open Go.RowKit Go.Proofs.Gn
set_option linter.unusedVariables false
def up6 (n d : Int) : Int := (n + d - 1) / d
theorem up6_bd {n d : Int} (hn : 0 ≤ n) (hd : 1 ≤ d) : 0 ≤ up6 n d ∧ up6 n d ≤ n := by
  unfold up6
  have h0 : 0 ≤ (n + d - 1) / d := Int.ediv_nonneg (by omega) (by omega)
  refine ⟨h0, ?_⟩
  by_cases h : n = 0
  · subst h
    have : (0 + d - 1) / d = 0 := Int.ediv_eq_zero_of_lt (by omega) (by omega)
    omega
  · have : (n + d - 1) / d ≤ n := by
      rw [Int.ediv_le_iff_le_mul (by omega)]
      have : 0 ≤ (n - 1) * (d - 1) := Int.mul_nonneg (by omega) (by omega)
      rw [Int.sub_mul, Int.mul_sub, Int.mul_sub] at this
      omega
    exact this
theorem p_up6 (n d : Int) (w : World) (hn : 0 ≤ n ∧ n ≤ 4611686018427387904) (hd : 1 ≤ d ∧ d ≤ 2305843009213693952) :
    Calls Tryz.prog 36 #[.int .i64 n, .int .i64 d] w fun e w' => e = .returned (.int .i64 (up6 n d)) ∧ w = w' := by
  have w1 : IntKind.i64.wrap (n + d) = n + d := IntWalk.i64_in _ ⟨by omega, by omega⟩
  have w2 : IntKind.i64.wrap (n + d - 1) = n + d - 1 := IntWalk.i64_in _ ⟨by omega, by omega⟩
  have e1 : (n + d - 1).tdiv d = up6 n d := by unfold up6; exact Int.tdiv_eq_ediv_of_nonneg (by omega)
  have b := up6_bd hn.1 hd.1
  have w3 : IntKind.i64.wrap (up6 n d) = up6 n d := IntWalk.i64_in _ ⟨by omega, by omega⟩
  have w4 : IntKind.i64.wrap ((n + d - 1).tdiv d) = up6 n d := by rw [e1]; exact w3
  have d0 : d ≠ 0 := by omega
  have d1 : (d == 0) = false := by simp; omega
  clear b hn hd
  generalize up6 n d = u at *
  go_enter Tryz.func36, Tryz.ntmps36
  go_wp2
  go_ret
  exact ⟨by first | rfl | (rw [w4]; rfl) | (rw [e1]; rfl), rfl⟩
/-- The wear, power after power, up to where it is too much. -/
def wrL (r : Int) : Nat → Int → Int
  | 0, w => w
  | n + 1, w => if w ≤ 1073741824 then wrL r n (up6 (w * r) 1000) else w
structure Pav where
  ld : Int
  lf : Int
  pw : Int
def pvV (p : Pav) : Value := .agg #[.int .i64 p.ld, .int .i64 p.lf, .int .i64 p.pw]
def wrF (p : Pav) (l : Int) : Int := wrL (up6 (l * 1000) p.ld) (p.pw - 1).toNat (up6 (l * 1000) p.ld)
theorem wrL_bd {r : Int} (hr : 0 ≤ r ∧ r ≤ 1073741824) : ∀ n w, 0 ≤ w ∧ w ≤ 1152921504606846976 → 0 ≤ wrL r n w ∧ wrL r n w ≤ 1152921504606846976
  | 0, w, h => h
  | n + 1, w, h => by
    unfold wrL
    split
    · rename_i hw
      have m : 0 ≤ w * r ∧ w * r ≤ 1073741824 * 1073741824 := ⟨Int.mul_nonneg h.1 hr.1, Int.mul_le_mul hw hr.2 hr.1 (by omega)⟩
      have u := up6_bd (n := w * r) (d := 1000) m.1 (by omega)
      exact wrL_bd hr n _ ⟨u.1, by omega⟩
    · exact h
set_option maxRecDepth 100000 in
theorem p_wear (p : Pav) (l : Int) (w : World) (hp : 1 ≤ p.ld ∧ p.ld ≤ 1048576) (hw : 1 ≤ p.pw ∧ p.pw ≤ 6) (hl : 0 ≤ l ∧ l ≤ 1048576) :
    Calls Tryz.prog 72 #[pvV p, .int .i64 l] w fun e w' => e = .returned (.int .i64 (wrF p l)) ∧ Up w w' := by
  unfold wrF pvV
  have hU := hide (fun W => p_up6 (l * 1000) p.ld W ⟨by omega, by omega⟩ ⟨hp.1, by omega⟩)
  have hm : IntKind.i64.wrap (l * 1000) = l * 1000 := IntWalk.i64_in _ ⟨by omega, by omega⟩
  have hb := up6_bd (n := l * 1000) (d := p.ld) (by omega) hp.1
  obtain ⟨r, hr⟩ : ∃ r, up6 (l * 1000) p.ld = r := ⟨_, rfl⟩
  rw [hr] at hU hb ⊢
  have hrb : 0 ≤ r ∧ r ≤ 1073741824 := by omega
  obtain ⟨ld, lf, pw⟩ := p
  dsimp only at *
  obtain ⟨P, rfl⟩ : ∃ P : Nat, pw = (P : Int) := ⟨pw.toNat, by omega⟩
  have hP : ((P : Int) - 1).toNat = P - 1 := by omega
  rw [hP]
  obtain ⟨V, hV⟩ : ∃ V, wrL r (P - 1) r = V := ⟨_, rfl⟩
  rw [hV]
  have HV := hide hV
  clear hV hr hb hP
  have hUp := hide (fun (x : Int) (W : World) (h0 : 0 ≤ x) (h1 : x ≤ 1073741824) => p_up6 (x * r) 1000 W ⟨Int.mul_nonneg h0 hrb.1, by have := Int.mul_le_mul h1 hrb.2 hrb.1 (by omega); omega⟩ ⟨by omega, by omega⟩)
  go_enter Tryz.func72, Tryz.ntmps72
  go_upto_region 1 with fail
  refine at_wpB (fun W hW => ?_)
  have hB : Bx W w.heap.size [.int .i64 ld, .int .i64 lf, .int .i64 P] := by rw [hW]; exact bx_new w _ _
  have U : Up w W := by rw [hW]; exact (by repeat' (first | (with_reducible exact up_refl _) | (with_reducible assumption) | (with_reducible refine up_alloc ?_ _) | (with_reducible refine up_drewN ?_ _) | (with_reducible refine up_drew ?_) | (with_reducible refine up_set ?_ (by first | (simp; done) | (simp; omega) | omega) _) | (refine up_trans ?_ (by with_reducible assumption))))
  obtain ⟨c0, c1, c2⟩ := bx3 hB
  clear hW hB
  go_upto_region 4 with (go_at_call 36; (with_reducible refine (unhide hU _).mono ?_); rintro e w1 ⟨rfl, rfl⟩)
  obtain ⟨wo, hwo⟩ : ∃ wo, wo = W := ⟨_, rfl⟩
  rw [← hwo]
  rw [← hwo] at U c0 c1 c2
  clear hwo
  go_loopw [6, 7] (fun s6 s7 wr => ∃ (i : Nat) (x : Int), 1 ≤ i ∧ i ≤ P ∧ s7 = .int .i64 i ∧ s6 = .int .i64 x ∧ (0 ≤ x ∧ x ≤ 1152921504606846976) ∧ Hid (wrL r (P - i) x = V) ∧ wr = wo) (fun _ s7 _ => P - (intOf s7).toNat)
  case atStart => exact ⟨1, r, by omega, by omega, rfl, rfl, by omega, HV, rfl⟩
  case round =>
    obtain ⟨i, x, hi1, hi2, rfl, rfl, hx, HX, rfl⟩ := hrel
    by_cases hlt : i < P
    · have i1 : (i : Int) < (P : Int) := by omega
      obtain ⟨m, hm2⟩ : ∃ m, P - i = m + 1 := ⟨P - i - 1, by omega⟩
      have hm3 : P - (i + 1) = m := by omega
      rw [hm2] at HX
      by_cases hxx : x ≤ 1073741824
      · have hX2 : wrL r m (up6 (x * r) 1000) = V := by have t := unhide HX; unfold wrL at t; rwa [if_pos hxx] at t
        have HX2 := hide hX2
        have mm : 0 ≤ x * r ∧ x * r ≤ 1073741824 * 1073741824 := ⟨Int.mul_nonneg hx.1 hrb.1, Int.mul_le_mul hxx hrb.2 hrb.1 (by omega)⟩
        have ub := up6_bd (n := x * r) (d := 1000) mm.1 (by omega)
        have HUp := hide (fun W => unhide hUp x W hx.1 hxx)
        obtain ⟨y, hy⟩ : ∃ y, x * r = y := ⟨_, rfl⟩
        obtain ⟨u, hu⟩ : ∃ u, up6 (x * r) 1000 = u := ⟨_, rfl⟩
        rw [hu] at ub HUp HX2
        have wy : IntKind.i64.wrap (x * r) = x * r := IntWalk.i64_in _ ⟨by omega, by omega⟩
        have wi : IntKind.i64.wrap ((i : Int) + 1) = (i : Int) + 1 := IntWalk.i64_in _ ⟨by omega, by omega⟩
        have hub : 0 ≤ u ∧ u ≤ 1152921504606846976 := by omega
        clear ub mm hX2 HX hu hy
        go_wp2_with (go_at_call 36; (with_reducible refine (unhide HUp _).mono ?_); rintro e w1 ⟨rfl, rfl⟩)
        go_roundw
        case rel => exact ⟨i + 1, u, by omega, by omega, by go_num, rfl, hub, by rw [hm3]; exact HX2, by first | rfl | trivial⟩
        case measure => simp [intOf]; omega
      · have hX2 : x = V := by have t := unhide HX; unfold wrL at t; rwa [if_neg hxx] at t
        have HX2 := hide hX2
        have d1 : decide (x ≤ 1073741824) = false := decide_eq_false hxx
        clear hX2 HX
        go_wp2
        go_ret
        exact ⟨by rw [← unhide HX2]; rfl, U⟩
    · obtain rfl : i = P := by omega
      have hX2 : x = V := by have t := unhide HX; rw [Nat.sub_self] at t; exact t
      have HX2 := hide hX2
      clear hX2 HX
      go_wp2
      go_ret
      exact ⟨by rw [← unhide HX2]; rfl, U⟩
end Go.Proofs.YthifcalemhpmoaaGreat
namespace Go.Proofs.YthifcalemhpmoaaGreat
open Go.RowKit Go.Proofs.Gn
set_option linter.unusedVariables false
/-- The wears of the axles together. -/
def wsF (p : Pav) : List (Int × Int) → Int
  | [] => 0
  | t :: ts => wrF p t.2 + wsF p ts
theorem wsF_app (p : Pav) (a b : List (Int × Int)) : wsF p (a ++ b) = wsF p a + wsF p b := by
  induction a with
  | nil => simp [wsF]
  | cons t a ih => simp only [List.cons_append, wsF, ih]; omega
theorem wsF_take (p : Pav) {ts : List (Int × Int)} {k : Nat} (h : k < ts.length) : wsF p (ts.take (k + 1)) = wsF p (ts.take k) + wrF p ts[k].2 := by
  rw [List.take_succ_eq_append_getElem h, wsF_app]; simp [wsF]
theorem wrF_bd {p : Pav} {l : Int} (hp : 1 ≤ p.ld) (hl : 0 ≤ l ∧ l ≤ 1048576) : 0 ≤ wrF p l ∧ wrF p l ≤ 1153000000000000 := by
  unfold wrF
  have hb := up6_bd (n := l * 1000) (d := p.ld) (by omega) hp
  obtain ⟨r, hr⟩ : ∃ r, up6 (l * 1000) p.ld = r := ⟨_, rfl⟩
  rw [hr] at hb ⊢
  have key : ∀ n w, 0 ≤ w ∧ w ≤ 1153000000000000 → 0 ≤ wrL r n w ∧ wrL r n w ≤ 1153000000000000 := by
    intro n
    induction n with
    | zero => exact fun w h => h
    | succ n ih =>
      intro w h
      unfold wrL
      split
      · rename_i hw
        have m : 0 ≤ w * r ∧ w * r ≤ 1073741824 * 1073741824 := ⟨Int.mul_nonneg h.1 hb.1, Int.mul_le_mul hw (by omega) hb.1 (by omega)⟩
        refine ih _ ⟨(up6_bd (n := w * r) (d := 1000) m.1 (by omega)).1, ?_⟩
        unfold up6
        have : (w * r + 1000 - 1) / 1000 ≤ (1152921504606846976 + 1000 - 1) / 1000 := Int.ediv_le_ediv (by omega) (by omega)
        omega
      · exact h
  exact key _ _ ⟨hb.1, by omega⟩
theorem wsF_bd {p : Pav} (hp : 1 ≤ p.ld) {ts : List (Int × Int)} (h : TrOk ts) : ∀ k, k ≤ ts.length → 0 ≤ wsF p (ts.take k) ∧ wsF p (ts.take k) ≤ 1153000000000000 * (k : Int)
  | 0, _ => by simp [wsF]
  | k + 1, hk => by
    have ih := wsF_bd hp h k (by omega)
    rw [wsF_take p (by omega : k < ts.length)]
    have t := wrF_bd (p := p) (l := ts[k].2) hp ((h.2 k (by omega)).2)
    omega
set_option maxRecDepth 100000 in
theorem p_wears (p : Pav) (A : Option Addr) (ts : List (Int × Int)) (cap : Nat) (w : World) (hp : 1 ≤ p.ld ∧ p.ld ≤ 1048576) (hw : 1 ≤ p.pw ∧ p.pw ≤ 6) (hF : Frs w A ts) (ht : TrOk ts) :
    Calls Tryz.prog 35 #[pvV p, .slice A ts.length cap] w fun e w' => e = .returned (.int .i64 (wsF p ts)) ∧ Up w w' := by
  have hB := hide (wsF_bd hp.1 ht)
  have hT := hide (fun k (h : k < ts.length) => wsF_take p h)
  have hW := hide (fun k (h : k < ts.length) W => p_wear p ts[k].2 W hp hw (ht.2 k h).2)
  have hE : wsF p ts = wsF p (ts.take ts.length) := by rw [List.take_length]
  have h00 : wsF p (ts.take 0) = 0 := rfl
  have hl := ht.1
  obtain ⟨G, hG⟩ : ∃ G : Nat → Int, (fun k => wsF p (ts.take k)) = G := ⟨_, rfl⟩
  have hGk : ∀ k, wsF p (ts.take k) = G k := fun k => congrFun hG k
  rw [hE]
  simp only [hGk] at hB hT h00 ⊢
  unfold pvV at hW ⊢
  have H00 := hide h00
  clear hG hGk hE h00 hp hw ht
  obtain ⟨n, hN⟩ : ∃ n, ts.length = n := ⟨_, rfl⟩
  have HN := hide hN
  have HF := hide hF
  rw [hN] at hB hl ⊢
  clear hN hF
  obtain ⟨ld, lf, pw⟩ := p
  dsimp only at *
  go_enter Tryz.func35, Tryz.ntmps35
  go_upto_region 3 with fail
  refine at_wpB (fun W hW2 => ?_)
  have hBx : Bx W w.heap.size [.int .i64 ld, .int .i64 lf, .int .i64 pw] := by rw [hW2]; exact bx_new w _ _
  have U : Up w W := by rw [hW2]; exact (by repeat' (first | (with_reducible exact up_refl _) | (with_reducible assumption) | (with_reducible refine up_alloc ?_ _) | (with_reducible refine up_drewN ?_ _) | (with_reducible refine up_drew ?_) | (with_reducible refine up_set ?_ (by first | (simp; done) | (simp; omega) | omega) _) | (refine up_trans ?_ (by with_reducible assumption))))
  clear hW2
  go_loopw [5, 10] (fun s5 s10 wr => ∃ k : Nat, k ≤ n ∧ s10 = .int .i64 k ∧ s5 = .int .i64 (G k) ∧ Hid (Bx wr w.heap.size [.int .i64 ld, .int .i64 lf, .int .i64 pw]) ∧ Up w wr) (fun _ s10 _ => n - (intOf s10).toNat)
  case atStart => exact ⟨0, by omega, rfl, by rw [unhide H00], hide hBx, U⟩
  case round =>
    obtain ⟨k, hk, rfl, rfl, HBx, Ur⟩ := hrel
    clear U hBx
    by_cases hlt : k < n
    · have hlk : k < ts.length := by rw [unhide HN]; omega
      rcases unhide HF with hnil | ⟨b, off, rfl, hcc⟩
      · rw [hnil] at hlk; simp at hlk
      obtain ⟨k0, k1⟩ := hcc k hlk
      have c0 := up_cell Ur k0
      have c1 := up_cell Ur k1
      have b1 := unhide hB k hk
      have b2 := unhide hB (k + 1) hlt
      have st := unhide hT k hlk
      have HWk := hide (fun W => unhide hW k hlk W)
      generalize ts[k].1 = x at *
      generalize ts[k].2 = y at *
      obtain ⟨g, hg⟩ : ∃ g, G k = g := ⟨_, rfl⟩
      rw [hg] at b1 st ⊢
      obtain ⟨z, hz⟩ : ∃ z, wrF { ld := ld, lf := lf, pw := pw } y = z := ⟨_, rfl⟩
      rw [hz] at st HWk
      have HST := hide st
      have w1 : IntKind.i64.wrap (g + z) = g + z := IntWalk.i64_in _ ⟨by omega, by omega⟩
      have hwk : IntKind.i64.wrap ((k : Int) + 1) = (k : Int) + 1 := IntWalk.i64_in _ ⟨by omega, by omega⟩
      have j0 : (0 : Int) ≤ (k : Int) := by omega
      have j1 : (k : Int) < (n : Int) := by omega
      have j2 : (k : Int).toNat = k := by omega
      clear st b1 b2 hg hz k0 k1 hcc
      go_upto_region 5 with fail
      refine at_wpB (fun W1 hW1 => ?_)
      have U1 : Up wr W1 := by rw [hW1]; exact (by repeat' (first | (with_reducible exact up_refl _) | (with_reducible assumption) | (with_reducible refine up_alloc ?_ _) | (with_reducible refine up_drewN ?_ _) | (with_reducible refine up_drew ?_) | (with_reducible refine up_set ?_ (by first | (simp; done) | (simp; omega) | omega) _) | (refine up_trans ?_ (by with_reducible assumption))))
      obtain ⟨m0, m1⟩ : W1.cell? ⟨wr.heap.size, 0, none⟩ = some (.int .i64 x) ∧ W1.cell? ⟨wr.heap.size, 1, none⟩ = some (.int .i64 y) := by
        have t : Bx W1 wr.heap.size [.int .i64 x, .int .i64 y] := by rw [hW1]; exact bx_new wr _ _
        exact bx2 t
      have HB1 := hide (bx_up (unhide HBx) U1)
      obtain ⟨d0, d1, d2⟩ := bx3 (unhide HB1)
      have U2 := up_trans Ur U1
      clear hW1 HBx U1
      go_wp2_with (go_at_call 72; (with_reducible refine (unhide HWk _).mono ?_); rintro e w1 ⟨rfl, hu⟩)
      go_roundw
      case rel => exact ⟨k + 1, by omega, by go_num, by rw [unhide HST], hide (bx_up (unhide HB1) hu), up_trans U2 hu⟩
      case measure => simp [intOf]; omega
    · obtain rfl : k = n := by omega
      go_wp2
      go_ret
      exact ⟨rfl, Ur⟩
def pvE (p : Pav) : Int := if win6 p.ld 1 1048576 && win6 p.lf 1 1048576 && win6 p.pw 1 6 then 0 else 2
theorem pvE_ok {p : Pav} (h : pvE p = 0) : (1 ≤ p.ld ∧ p.ld ≤ 1048576) ∧ (1 ≤ p.lf ∧ p.lf ≤ 1048576) ∧ (1 ≤ p.pw ∧ p.pw ≤ 6) := by
  unfold pvE at h
  split at h
  · rename_i h0
    rw [Bool.and_eq_true, Bool.and_eq_true] at h0
    exact ⟨win6_yes h0.1.1, win6_yes h0.1.2, win6_yes h0.2⟩
  · cases h
theorem p_CheckPav (p : Pav) (w : World) :
    Calls Tryz.prog 32 #[pvV p] w fun e w' => e = .returned (.int .i64 (pvE p)) ∧ Up w w' := by
  unfold pvE pvV
  have H1 := hide (fun W => p_w64 p.ld 1 1048576 W)
  have H2 := hide (fun W => p_w64 p.lf 1 1048576 W)
  have H3 := hide (fun W => p_wI p.pw 1 6 W)
  obtain ⟨ld, lf, pw⟩ := p
  dsimp only at *
  generalize win6 ld 1 1048576 = r1 at *
  generalize win6 lf 1 1048576 = r2 at *
  generalize win6 pw 1 6 = r3 at *
  cases r1 <;> cases r2 <;> cases r3
  all_goals
    go_enter Tryz.func32, Tryz.ntmps32
    go_wp2_with (first | (go_at_call 34; (with_reducible refine (unhide H1 _).mono ?_); rintro e w1 ⟨rfl, rfl⟩) | (go_at_call 34; (with_reducible refine (unhide H2 _).mono ?_); rintro e w1 ⟨rfl, rfl⟩) | (go_at_call 71; (with_reducible refine (unhide H3 _).mono ?_); rintro e w1 ⟨rfl, rfl⟩))
    go_ret
    exact ⟨rfl, (by repeat' (first | (with_reducible exact up_refl _) | (with_reducible assumption) | (with_reducible refine up_alloc ?_ _) | (with_reducible refine up_drewN ?_ _) | (with_reducible refine up_drew ?_) | (with_reducible refine up_set ?_ (by first | (simp; done) | (simp; omega) | omega) _) | (refine up_trans ?_ (by with_reducible assumption))))⟩
end Go.Proofs.YthifcalemhpmoaaGreat
namespace Go.Proofs.YthifcalemhpmoaaGreat
open Go.RowKit Go.Proofs.Gn
set_option linter.unusedVariables false
def tnt (r f : Int) : Int := if (if r < f then r else f) < 0 then 0 else (if r < f then r else f)
theorem p_tent (r f : Int) (w : World) : Calls Tryz.prog 108 #[.int .i64 r, .int .i64 f] w fun e w' => e = .returned (.int .i64 (tnt r f)) ∧ w = w' := by
  go_enter Tryz.func108, Tryz.ntmps108
  go_wp2
  all_goals go_ret
  all_goals exact ⟨congrArg (fun x => Ending.returned (Value.int .i64 x)) (by unfold tnt; (repeat' split) <;> omega), rfl⟩
theorem mul_in {a b : Int} (ha : -16777216 ≤ a ∧ a ≤ 16777216) (hb : -16777216 ≤ b ∧ b ≤ 16777216) : -281474976710656 ≤ a * b ∧ a * b ≤ 281474976710656 := by
  have h : (a * b).natAbs ≤ 16777216 * 16777216 := by rw [Int.natAbs_mul]; exact Nat.mul_le_mul (by omega) (by omega)
  omega
def moL (len x a : Int) : Int := tnt (a * (len - x)) (x * (len - a))
theorem p_mom1 (bl bx : Nat) (len x a : Int) (w : World) (hl : w.cell? ⟨bl, 0, none⟩ = some (.int .i64 len)) (hx : w.cell? ⟨bx, 0, none⟩ = some (.int .i64 x)) (h1 : 0 ≤ len ∧ len ≤ 131072) (h2 : 0 ≤ x ∧ x ≤ 131072) (h3 : -8388608 ≤ a ∧ a ≤ 8388608) :
    Calls Tryz.prog 107 #[.int .i64 a, .pointer (some ⟨bl, 0, none⟩), .pointer (some ⟨bx, 0, none⟩)] w fun e w' => e = .returned (.int .i64 (moL len x a)) ∧ w = w' := by
  unfold moL
  have w1 : IntKind.i64.wrap (len - x) = len - x := IntWalk.i64_in _ ⟨by omega, by omega⟩
  have w2 : IntKind.i64.wrap (len - a) = len - a := IntWalk.i64_in _ ⟨by omega, by omega⟩
  have b1 := mul_in (a := a) (b := len - x) ⟨by omega, by omega⟩ ⟨by omega, by omega⟩
  have b2 := mul_in (a := x) (b := len - a) ⟨by omega, by omega⟩ ⟨by omega, by omega⟩
  have w3 : IntKind.i64.wrap (a * (len - x)) = a * (len - x) := IntWalk.i64_in _ ⟨by omega, by omega⟩
  have w4 : IntKind.i64.wrap (x * (len - a)) = x * (len - a) := IntWalk.i64_in _ ⟨by omega, by omega⟩
  have HT := hide (fun W => p_tent (a * (len - x)) (x * (len - a)) W)
  clear b1 b2 h1 h2 h3
  go_enter Tryz.func107, Tryz.ntmps107
  go_wp2_with (go_at_call 108; (with_reducible refine (unhide HT _).mono ?_); rintro e w1 ⟨rfl, rfl⟩)
  go_ret
  exact ⟨rfl, rfl⟩
theorem mo_bd6 {len x : Int} (a : Int) (h1 : 0 ≤ len ∧ len ≤ 131072) (h2 : 0 ≤ x ∧ x ≤ len) : 0 ≤ moL len x a ∧ moL len x a ≤ 17179869184 := by
  unfold moL tnt
  obtain ⟨p, hp⟩ : ∃ p, a * (len - x) = p := ⟨_, rfl⟩
  obtain ⟨q, hq⟩ : ∃ q, x * (len - a) = q := ⟨_, rfl⟩
  rw [hp, hq]
  refine ⟨by split <;> omega, ?_⟩
  by_cases ha : a ≤ len
  · have : p ≤ 17179869184 := by
      by_cases h0 : 0 ≤ a
      · have : a * (len - x) ≤ 131072 * 131072 := Int.mul_le_mul (by omega) (by omega) (by omega) (by omega)
        omega
      · have : 0 ≤ (-a) * (len - x) := Int.mul_nonneg (by omega) (by omega)
        rw [Int.neg_mul, hp] at this
        omega
    repeat' split
    all_goals omega
  · have : 0 ≤ x * (a - len) := Int.mul_nonneg (by omega) (by omega)
    have e : x * (a - len) = - (x * (len - a)) := by rw [← Int.mul_neg, Int.neg_sub]
    rw [e, hq] at this
    repeat' split
    all_goals omega
def enL (right : Bool) (len a : Int) : Int := if win6 a 0 len then (if right then a else len - a) else 0
theorem en_bd {len : Int} (right : Bool) (a : Int) (h1 : 0 ≤ len ∧ len ≤ 131072) : 0 ≤ enL right len a ∧ enL right len a ≤ 17179869184 := by
  unfold enL
  split
  · rename_i h
    have := win6_yes h
    split <;> omega
  · omega
end Go.Proofs.YthifcalemhpmoaaGreat
namespace Go.Proofs.YthifcalemhpmoaaGreat
open Go.RowKit Go.Proofs.Gn
attribute [local go_sem] Oper.semAt_some
set_option linter.unusedVariables false
/-- Forces in order of their places. -/
def SrF (ts : List (Int × Int)) : Prop := ∀ k (h : k + 1 < ts.length), ts[k].1 ≤ ts[k + 1].1
abbrev fnLess : Value := .func (.func 104) #[] #[]
set_option maxRecDepth 100000 in
theorem p_less (x p y q : Int) (w : World) :
    Calls Tryz.prog 104 #[.agg #[.int .i64 x, .int .i64 p], .agg #[.int .i64 y, .int .i64 q]] w fun e w' => e = .returned (.int .i64 (cmpV x y)) ∧ Up w w' := by
  have HC := hide (fun W => c_Compare x y W)
  generalize cmpV x y = c at *
  go_enter Tryz.func104, Tryz.ntmps104
  go_upto_region 1 with fail
  refine at_wpC (fun W0 hW0 => ?_)
  have U0 : Up w W0 := by rw [hW0]; exact (by repeat' (first | (with_reducible exact up_refl _) | (with_reducible assumption) | (with_reducible refine up_alloc ?_ _) | (with_reducible refine up_drewN ?_ _) | (with_reducible refine up_drew ?_) | (with_reducible refine up_set ?_ (by first | (simp; done) | (simp; omega) | omega) _) | (refine up_trans ?_ (by with_reducible assumption))))
  obtain ⟨bA, bB⟩ : Bx W0 w.heap.size [.int .i64 x, .int .i64 p] ∧ Bx W0 (w.heap.size + 1) [.int .i64 y, .int .i64 q] := by
    rw [hW0]
    refine ⟨bx_alloc (bx_new w _ _) _, ?_⟩
    have t := bx_new (w.alloc (.cells #[.int .i64 x, .int .i64 p] 144)) [.int .i64 y, .int .i64 q] 144
    rw [World.size_alloc] at t
    exact t
  clear hW0
  have a0 := (bA 0 _ rfl).1
  have b0 := (bB 0 _ rfl).1
  go_wp2_with (go_at_call 97; (with_reducible refine (unhide HC _).mono ?_); rintro e w1 ⟨rfl, rfl⟩)
  go_ret
  exact ⟨rfl, U0⟩
set_option maxRecDepth 100000 in
set_option maxHeartbeats 8000000 in
theorem p_insF (A : Option Addr) (ts : List (Int × Int)) (cap : Nat) (w : World) (h : Frs w A ts) (hs : SrF ts) (h0 : 0 < ts.length) (hn : ts.length ≤ 20) :
    Calls Tryz.prog 144 #[.slice A ts.length cap, .int .i64 0, .int .i64 ts.length, fnLess] w fun e w' => e = .returned (.tuple #[]) ∧ Up w w' := by
  obtain ⟨b, off, rfl, hc⟩ := h.resolve_left (by intro e; rw [e] at h0; simp at h0)
  have HC := hide hc
  have HL := hide (fun x p y q W => p_less x p y q W)
  have HS := hide hs
  obtain ⟨n, hN⟩ : ∃ n, ts.length = n := ⟨_, rfl⟩
  have HN := hide hN
  rw [hN] at h0 hn ⊢
  clear h hs hc hN
  go_enter Tryz.func144, Tryz.ntmps144
  go_upto_region 1 with fail
  go_loopw [8] (fun s8 wr => ∃ k : Nat, k + 1 ≤ n ∧ s8 = .int .i64 ((k : Int) + 1) ∧ Up w wr) (fun s8 _ => n - (intOf s8).toNat)
  case atStart => exact ⟨0, by omega, rfl, (by repeat' (first | (with_reducible exact up_refl _) | (with_reducible assumption) | (with_reducible refine up_alloc ?_ _) | (with_reducible refine up_drewN ?_ _) | (with_reducible refine up_drew ?_) | (with_reducible refine up_set ?_ (by first | (simp; done) | (simp; omega) | omega) _) | (refine up_trans ?_ (by with_reducible assumption))))⟩
  case round =>
    obtain ⟨k, hk, rfl, hu⟩ := hrel
    by_cases hlt : k + 1 < n
    · have hl : k + 1 < ts.length := by rw [unhide HN]; exact hlt
      obtain ⟨x0, x1⟩ := unhide HC k (by omega)
      obtain ⟨y0, y1⟩ := unhide HC (k + 1) hl
      have hle := unhide HS k hl
      generalize ts[k].1 = X at *
      generalize ts[k].2 = P at *
      generalize ts[k + 1].1 = Y at *
      generalize ts[k + 1].2 = Q at *
      have x0' := up_cell hu x0
      have x1' := up_cell hu x1
      have y0' := up_cell hu y0
      have y1' := up_cell hu y1
      have hc0 : 0 ≤ cmpV Y X := by unfold cmpV; split <;> (try split) <;> omega
      have HL1 := hide (unhide HL Y Q X P)
      generalize cmpV Y X = c at *
      have i1 : (k : Int) + 1 < (n : Int) := by omega
      have i2 : (0 : Int) ≤ (k : Int) + 1 := by omega
      have i3 : ((k : Int) + 1).toNat = k + 1 := by omega
      have i4 : IntKind.i64.wrap ((k : Int) + 1 - 1) = (k : Int) := by rw [Int.add_sub_cancel]; exact IntWalk.i64_in _ ⟨by omega, by omega⟩
      have i5 : (0 : Int) ≤ (k : Int) := by omega
      have i6 : (k : Int) < (n : Int) := by omega
      have i7 : (k : Int).toNat = k := by omega
      have i8 : (0 : Int) < (k : Int) + 1 := by omega
      have i9 : decide ((0 : Int) < (k : Int) + 1) = true := decide_eq_true i8
      have j0 : ¬ c < 0 := by omega
      have j1 : decide (c < 0) = false := decide_eq_false j0
      have j2 : IntKind.i64.wrap ((k : Int) + 1 + 1) = (k : Int) + 1 + 1 := IntWalk.i64_in _ ⟨by omega, by omega⟩
      clear x0 x1 y0 y1 hle hc0 HC HS
      have m0 := fun p : UpW wr => up_cell p.up x0'
      have m1 := fun p : UpW wr => up_cell p.up x1'
      have m2 := fun p : UpW wr => up_cell p.up y0'
      have m3 := fun p : UpW wr => up_cell p.up y1'
      clear x0' x1' y0' y1'
      go_upto_region 4 with fail
      go_loopw [9] (fun s9 wx => s9 = .int .i64 ((k : Int) + 1) ∧ wx = wr) (fun _ _ => 0)
      case atStart => exact ⟨rfl, rfl⟩
      case round =>
        obtain ⟨rfl, rfl⟩ := hrel
        go_upto_region 4 with fail
        refine wp_upq (by kernel_rfl) (by kernel_rfl) ?_; (repeat (go_big_quiet_step ((go_at_call 104; exact upq (unhide HL1 _))))); refine wpQuiet_nil ?_; intro _ hw'; obtain ⟨pq, hw''⟩ := hw'; subst hw''; have hpq := pq.up
        have uW := up_trans hu hpq
        generalize pq.v = W1 at uW ⊢
        go_wp2_with fail
        go_roundw
        case rel => exact ⟨k + 1, by omega, by go_num, uW⟩
        case measure => simp [intOf]; omega
    · obtain rfl : n = k + 1 := by omega
      have i1 : ¬ (k : Int) + 1 < ((k + 1 : Nat) : Int) := by omega
      go_wp2_with fail
      (try simp only [Exit.inBlock, Exit.then])
      refine bodyPost_end (results_none rfl _ _ _) rfl ?_
      exact ⟨rfl, hu⟩
set_option maxRecDepth 100000 in
theorem p_stabF (A : Option Addr) (ts : List (Int × Int)) (cap : Nat) (w : World) (h : Frs w A ts) (hs : SrF ts) (h0 : 0 < ts.length) (hn : ts.length < 20) :
    Calls Tryz.prog 103 #[.slice A ts.length cap, fnLess] w fun e w' => e = .returned (.tuple #[]) ∧ Up w w' := by
  have HI := hide (fun W (hW : Up w W) => p_insF A ts cap W (frs_up h hW) hs h0 (by omega))
  have HM : ∀ W, Up w W → Calls Tryz.prog 129 #[.slice A ts.length cap, .int .i64 ts.length, fnLess] W fun e w' => e = .returned (.tuple #[]) ∧ Up W w' := by
    intro W hW
    generalize ts.length = n at *
    have i1 : ¬ (20 : Int) ≤ (n : Int) := by omega
    have i2 : ¬ (20 : Int) < (n : Int) := by omega
    go_enter Tryz.func129, Tryz.ntmps129
    go_upto_region 2 with fail
    go_loopw [7, 8] (fun s7 s8 wx => s7 = .int .i64 0 ∧ s8 = .int .i64 20 ∧ wx = W) (fun _ _ _ => 0)
    case atStart => exact ⟨rfl, rfl, rfl⟩
    case round =>
      obtain ⟨rfl, rfl, rfl⟩ := hrel
      go_upto_region 7 with (go_at_call 144; (with_reducible refine (unhide HI _ hW).mono ?_); rintro e w1 ⟨rfl, u1⟩)
      go_loopw [6] (fun s6 wx => s6 = .int .i64 20 ∧ wx = w1) (fun _ _ => 0)
      case atStart => exact ⟨rfl, rfl⟩
      case round =>
        obtain ⟨rfl, rfl⟩ := hrel
        go_wp2_with fail
        (try simp only [Exit.inBlock, Exit.then])
        refine bodyPost_end (results_none rfl _ _ _) rfl ?_
        exact ⟨rfl, u1⟩
  have HM := hide HM
  generalize ts.length = n at *
  go_enter Tryz.func103, Tryz.ntmps103
  go_wp2_with (go_at_call 129; (with_reducible refine (unhide HM _ (up_refl _)).mono ?_); rintro e w1 ⟨rfl, u1⟩)
  refine bodyPost_end (results_none rfl _ _ _) rfl ?_
  exact ⟨rfl, u1⟩
end Go.Proofs.YthifcalemhpmoaaGreat
