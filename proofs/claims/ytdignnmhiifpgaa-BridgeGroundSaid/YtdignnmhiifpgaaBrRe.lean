/- The document's own wear of a train. -/
import Derived.Test.YtdignnmhiifpgaaBrRd
namespace Go.Proofs.Ytdignnmhiifpgaa
open Go.RowKit Go.Proofs.Gn
set_option linter.unusedVariables false
theorem wsF_pre {p : Pav} (hp : 1 ≤ p.ld) {ts : List (Int × Int)} (h : TrOk ts) : ∀ {k}, k ≤ ts.length → wsF p (ts.take k) ≤ wsF p ts := fun {k} hk => by
  have e : wsF p ts = wsF p (ts.take k) + wsF p (ts.drop k) := by rw [← wsF_app, List.take_append_drop]
  have : 0 ≤ wsF p (ts.drop k) := by
    have key : ∀ (l : List (Int × Int)), (∀ t ∈ l, 0 ≤ t.2 ∧ t.2 ≤ 1048576) → 0 ≤ wsF p l := by
      intro l
      induction l with
      | nil => intro _; exact Int.le_refl 0
      | cons t l ih =>
        intro hh
        have a := (wrF_bd (p := p) hp (hh t (by simp))).1
        have b := ih (fun u hu => hh u (by simp [hu]))
        unfold wsF; omega
    refine key _ fun t ht => ?_
    obtain ⟨j, hj, rfl⟩ := List.mem_iff_getElem.1 (List.mem_of_mem_drop ht)
    exact (h.2 j hj).2
  omega
set_option maxRecDepth 100000 in
set_option maxHeartbeats 8000000 in
theorem r_wear6 (p : Pav) (A : Option Addr) (ts : List (Int × Int)) (cap : Nat) (w : World) (hp : 1 ≤ p.ld ∧ p.ld ≤ 1048576) (hw : 1 ≤ p.pw ∧ p.pw ≤ 6) (hF : Frs w A ts) (ht : TrOk ts) :
    Calls Try.prog 45 #[pvV p, .slice A ts.length cap] w fun e w' => e = .returned (.tuple #[.int .i64 (if wsF p ts ≤ 1073741824 then wsF p ts else 0), .bool (decide (wsF p ts ≤ 1073741824))]) ∧ Up w w' := by
  obtain ⟨S, hS⟩ : ∃ S, wsF p ts = S := ⟨_, rfl⟩
  rw [hS]
  obtain ⟨V, hV⟩ : ∃ V : Value, (Value.tuple #[.int .i64 (if S ≤ 1073741824 then S else 0), .bool (decide (S ≤ 1073741824))]) = V := ⟨_, rfl⟩
  rw [hV]
  have hV1 : S ≤ 1073741824 → V = .tuple #[.int .i64 S, .bool true] := fun h => by rw [← hV, if_pos h, decide_eq_true h]
  have hV2 : 1073741824 < S → V = .tuple #[.int .i64 0, .bool false] := fun h => by rw [← hV, if_neg (by omega), decide_eq_false (by omega)]
  have HPre := hide (fun k (h : k ≤ ts.length) => (by have t := wsF_pre hp.1 ht h; rw [hS] at t; exact t : wsF p (ts.take k) ≤ S))
  have HAll := hide (show wsF p (ts.take ts.length) = S by rw [List.take_length, hS])
  have HB := hide (wsF_bd hp.1 ht)
  have HT := hide (fun k (h : k < ts.length) => (⟨wsF_take p h, (ht.2 k h).2⟩ : _ ∧ _))
  have HV1 := hide hV1
  have HV2 := hide hV2
  have hWb := fun (l : Int) (hl : 0 ≤ l ∧ l ≤ 1048576) => (⟨wrF_bd (p := p) hp.1 hl, rfl⟩ : _ ∧ wrF p l = wrL (up6 (l * 1000) p.ld) (p.pw - 1).toNat (up6 (l * 1000) p.ld))
  have HWb := hide hWb
  have hU0 := hide (fun (l : Int) (hl : 0 ≤ l ∧ l ≤ 1048576) (W : World) => (r_up6 (l * 1000) p.ld W ⟨by omega, by omega⟩ ⟨hp.1, by omega⟩).mono (fun e w' ⟨he, hw⟩ => (⟨he, hw ▸ up_refl W⟩ : _ ∧ Up W w')))
  have hUb := hide (fun (l : Int) (hl : 0 ≤ l ∧ l ≤ 1048576) => (by have t := up6_bd (n := l * 1000) (d := p.ld) (by omega) hp.1; omega : 0 ≤ up6 (l * 1000) p.ld ∧ up6 (l * 1000) p.ld ≤ 1073741824))
  obtain ⟨G, hG⟩ : ∃ G : List (Int × Int) → Int, wsF p = G := ⟨_, rfl⟩
  obtain ⟨Z, hZ⟩ : ∃ G : Int → Int, wrF p = G := ⟨_, rfl⟩
  have hG0 : G [] = 0 := by rw [← hG]; rfl
  simp only [hG, hZ] at HPre HAll HB HT HWb
  unfold pvV
  have hm64 := ht.1
  clear hV hS hG hZ hV1 hV2 hWb ht
  obtain ⟨ld, lf, pw⟩ := p
  dsimp only at *
  obtain ⟨P, rfl⟩ : ∃ P : Nat, pw = (P : Int) := ⟨pw.toNat, by omega⟩
  have hP : ((P : Int) - 1).toNat = P - 1 := by omega
  rw [hP] at HWb
  obtain ⟨n, hN⟩ : ∃ n, ts.length = n := ⟨_, rfl⟩
  have HN := hide hN
  have HF := hide hF
  rw [hN] at HAll hm64 ⊢
  clear hN hF hP
  go_enter Try.func45, Try.ntmps45
  go_upto_region 3 with fail
  refine at_wpB (fun W hW2 => ?_)
  have hBx : Bx W w.heap.size [.int .i64 ld, .int .i64 lf, .int .i64 P] := by rw [hW2]; exact bx_new w _ _
  have U : Up w W := by rw [hW2]; exact (by repeat' (first | (with_reducible exact up_refl _) | (with_reducible assumption) | (with_reducible refine up_alloc ?_ _) | (with_reducible refine up_drewN ?_ _) | (with_reducible refine up_drew ?_) | (with_reducible refine up_set ?_ (by first | (simp; done) | (simp; omega) | omega) _) | (refine up_trans ?_ (by with_reducible assumption))))
  have HBx := hide hBx
  clear hW2 hBx
  go_loopw [6, 7] (fun s6 s7 wr => ∃ k : Nat, k ≤ n ∧ s7 = .int .i64 k ∧ s6 = .int .i64 (G (ts.take k)) ∧ G (ts.take k) ≤ 1073741824 ∧ Up W wr) (fun _ s7 _ => n - (intOf s7).toNat)
  case atStart => exact ⟨0, by omega, rfl, by rw [List.take_zero, hG0], by rw [List.take_zero, hG0]; decide, up_refl _⟩
  case round =>
    obtain ⟨k, hk, rfl, rfl, hle, hu⟩ := hrel
    by_cases hlt : k < n
    · have hl : k < ts.length := by rw [unhide HN]; exact hlt
      rcases unhide HF with hnil | ⟨b, off, rfl, hcc⟩
      · rw [hnil] at hl; simp at hl
      obtain ⟨_, k1⟩ := hcc k hl
      have c1 := up_cell (up_trans U hu) k1
      obtain ⟨hst, hlb⟩ := unhide HT k hl
      have hpre := unhide HPre (k + 1) hl
      have hgb := (unhide HB k (by omega)).1
      generalize ts[k].2 = y at *
      obtain ⟨⟨z0, z1⟩, hz2⟩ := unhide HWb y hlb
      have HU1 := hide (fun W => unhide hU0 y hlb W)
      obtain ⟨r0, r1⟩ := unhide hUb y hlb
      have wy : IntKind.i64.wrap (y * 1000) = y * 1000 := IntWalk.i64_in _ ⟨by omega, by omega⟩
      obtain ⟨r, hr⟩ : ∃ r, up6 (y * 1000) ld = r := ⟨_, rfl⟩
      rw [hr] at hz2 HU1 r0 r1
      obtain ⟨z, hz⟩ : ∃ z, Z y = z := ⟨_, rfl⟩
      rw [hz] at hst z0 z1 hz2
      obtain ⟨g, hg⟩ : ∃ z, G (ts.take k) = z := ⟨_, rfl⟩
      rw [hg] at hst hle hgb ⊢
      have HST := hide hst
      have HZ := hide hz2
      rw [hst] at hpre
      have Bq := bx_up (unhide HBx) hu
      have n0q : ∀ q : UpW wr, q.v.cell? ⟨w.heap.size, 0, none⟩ = some (.int .i64 ld) := fun q => (bx_up Bq q.up 0 _ rfl).1
      have c1q : ∀ q : UpW wr, q.v.cell? ⟨b, off + k * 2 + 1, none⟩ = some (.int .i64 y) := fun q => up_cell q.up c1
      have i0 : (0 : Int) ≤ (k : Int) := by omega
      have i1 : (k : Int) < (n : Int) := by omega
      have i2 : (k : Int).toNat = k := by omega
      have hwk : IntKind.i64.wrap ((k : Int) + 1) = (k : Int) + 1 := IntWalk.i64_in _ ⟨by omega, by omega⟩
      clear hst hz2 hz hg hr k1 hcc
      go_upto_region 5 with fail
      refine wp_upq (by kernel_rfl) (by kernel_rfl) ?_; (repeat (go_big_quiet_step (exact upq (unhide HU1 _)))); refine wpQuiet_nil ?_; intro _ hw'; obtain ⟨pq, hw''⟩ := hw'; subst hw''; have hpq := pq.up
      have hu6 := up_trans hu hpq
      have Bp := bx_up Bq hpq
      obtain ⟨d0, d1, d2⟩ := bx3 Bp
      clear n0q c1q Bq HU1 c1
      obtain ⟨w5, hw5⟩ : ∃ w5, w5 = pq.v := ⟨_, rfl⟩
      rw [← hw5]
      rw [← hw5] at hu6 d0 d1 d2
      clear hw5 Bp hpq
      have hrb : 0 ≤ r ∧ r ≤ 1073741824 := ⟨r0, r1⟩
      have hUp := hide (fun (x : Int) (W : World) (h0 : 0 ≤ x) (h1 : x ≤ 1073741824) => (r_up6 (x * r) 1000 W ⟨Int.mul_nonneg h0 hrb.1, by have := Int.mul_le_mul h1 hrb.2 hrb.1 (by omega); omega⟩ ⟨by omega, by omega⟩))
      go_upto_region 8 with fail
      go_loopw [9, 10] (fun s9 s10 wr => ∃ (i : Nat) (x : Int), 1 ≤ i ∧ i ≤ P ∧ s10 = .int .i64 i ∧ s9 = .int .i64 x ∧ (0 ≤ x ∧ x ≤ 1152921504606846976) ∧ Hid (z = wrL r (P - i) x) ∧ wr = w5) (fun _ s10 _ => P - (intOf s10).toNat)
      case atStart => exact ⟨1, r, by omega, by omega, rfl, rfl, by omega, HZ, rfl⟩
      case round =>
        obtain ⟨i, x, hi1, hi2, rfl, rfl, hx, HX, rfl⟩ := hrel
        have q1 : IntKind.i64.wrap (g + x) = g + x := IntWalk.i64_in _ ⟨by omega, by omega⟩
        by_cases hlt2 : i < P
        · have i3 : (i : Int) < (P : Int) := by omega
          obtain ⟨m, hm2⟩ : ∃ m, P - i = m + 1 := ⟨P - i - 1, by omega⟩
          have hm3 : P - (i + 1) = m := by omega
          rw [hm2] at HX
          by_cases hxx : x ≤ 1073741824
          · have hX2 : z = wrL r m (up6 (x * r) 1000) := by have t := unhide HX; unfold wrL at t; rwa [if_pos hxx] at t
            have HX2 := hide hX2
            have mm : 0 ≤ x * r ∧ x * r ≤ 1073741824 * 1073741824 := ⟨Int.mul_nonneg hx.1 hrb.1, Int.mul_le_mul hxx hrb.2 hrb.1 (by omega)⟩
            have ub := up6_bd (n := x * r) (d := 1000) mm.1 (by omega)
            have HUp := hide (fun W => unhide hUp x W hx.1 hxx)
            have wyy : IntKind.i64.wrap (x * r) = x * r := IntWalk.i64_in _ ⟨by omega, by omega⟩
            obtain ⟨u, hu9⟩ : ∃ u, up6 (x * r) 1000 = u := ⟨_, rfl⟩
            rw [hu9] at ub HUp HX2
            have wi : IntKind.i64.wrap ((i : Int) + 1) = (i : Int) + 1 := IntWalk.i64_in _ ⟨by omega, by omega⟩
            have hub : 0 ≤ u ∧ u ≤ 1152921504606846976 := by omega
            clear ub mm hX2 HX hu9
            go_wp2_with (go_at_call 42; (with_reducible refine (unhide HUp _).mono ?_); rintro e w1 ⟨rfl, rfl⟩)
            go_roundw
            case rel => exact ⟨i + 1, u, by omega, by omega, by go_num, rfl, hub, by rw [hm3]; exact HX2, by first | rfl | trivial⟩
            case measure => simp [intOf]; omega
          · have hX2 : z = x := by have t := unhide HX; unfold wrL at t; rwa [if_neg hxx] at t
            subst hX2
            have d9 : decide (z ≤ 1073741824) = false := decide_eq_false hxx
            have d8 : decide (z > 1073741824) = true := decide_eq_true (by omega)
            have d7 : decide (1073741824 < z) = true := decide_eq_true (by omega)
            clear HX hUp
            have hS2 : 1073741824 < S := by omega
            obtain rfl := unhide HV2 hS2
            go_wp2_with fail
            go_ret2
            exact ⟨rfl, up_trans U hu6⟩
        · obtain rfl : i = P := by omega
          have hX2 : z = x := by have t := unhide HX; rw [Nat.sub_self] at t; exact t
          subst hX2
          clear HX hUp
          by_cases hxx : z ≤ 1073741824
          · have d8 : decide (z > 1073741824) = false := decide_eq_false (by omega)
            have d7 : decide (1073741824 < z) = false := decide_eq_false (by omega)
            by_cases hs3 : g + z ≤ 1073741824
            · have d6 : decide (g + z > 1073741824) = false := decide_eq_false (by omega)
              have d5 : decide (1073741824 < g + z) = false := decide_eq_false (by omega)
              go_wp2_with fail
              go_roundw
              case rel => exact ⟨k + 1, by omega, by first | rfl | trivial | go_num, by rw [unhide HST], by rw [unhide HST]; exact hs3, hu6⟩
              case measure => simp [intOf]; omega
            · have d6 : decide (g + z > 1073741824) = true := decide_eq_true (by omega)
              have d5 : decide (1073741824 < g + z) = true := decide_eq_true (by omega)
              have hS2 : 1073741824 < S := by omega
              obtain rfl := unhide HV2 hS2
              go_wp2_with fail
              go_ret2
              exact ⟨rfl, up_trans U hu6⟩
          · have d8 : decide (z > 1073741824) = true := decide_eq_true (by omega)
            have d7 : decide (1073741824 < z) = true := decide_eq_true (by omega)
            have hS2 : 1073741824 < S := by omega
            obtain rfl := unhide HV2 hS2
            go_wp2_with fail
            go_ret2
            exact ⟨rfl, up_trans U hu6⟩
    · obtain rfl : k = n := by omega
      have hS := unhide HAll
      rw [hS] at hle ⊢
      obtain rfl := unhide HV1 hle
      go_wp2_with fail
      go_ret2
      exact ⟨rfl, up_trans U hu⟩
end Go.Proofs.Ytdignnmhiifpgaa
