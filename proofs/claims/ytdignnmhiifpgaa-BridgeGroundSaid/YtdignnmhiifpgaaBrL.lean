/- Lines of influence: their effects. -/
import Derived.Test.YtdignnmhiifpgaaBrM
import Derived.Test.YtdignnmhiifpgaaCmp
import Derived.Deep.Cut
import Derived.Deep.DeepCutAuto
namespace Go.Proofs.Ytdignnmhiifpgaa
open Go.RowKit Go.Proofs.Gn
/-- A line of influence: what the program keeps of it, and its value. -/
structure Ln where
  span : Int
  po : Int
  org : Int
  c0 : Int
  c1 : Int
  c2 : Int
  f : Nat
  caps : Array Value
  val : Int → Int
def lnC (L : Ln) : List Value := [.int .i64 L.span, .int .i64 L.po, .int .i64 L.org, .int .i64 L.c0, .int .i64 L.c1, .int .i64 L.c2, .func (.func L.f) #[] L.caps]
def lnV (L : Ln) : Value := .agg #[.int .i64 L.span, .int .i64 L.po, .int .i64 L.org, .int .i64 L.c0, .int .i64 L.c1, .int .i64 L.c2, .func (.func L.f) #[] L.caps]
structure LnOk (L : Ln) (w : World) : Prop where
  call : ∀ W, Up w W → ∀ a, -8388608 ≤ a → a ≤ 8388608 → Calls Try.prog L.f (#[.int .i64 a] ++ L.caps) W fun e w' => e = .returned (.int .i64 (L.val a)) ∧ Up W w'
  enter : ∀ args W, (callFunc L.f args).run Try.prog W = .ok (.enter L.f args) W
  bd : ∀ a, 0 ≤ L.val a ∧ L.val a ≤ 17179869184
  o : 0 ≤ L.org ∧ L.org ≤ 1048576
theorem lnOk_up {L : Ln} {w w' : World} (h : LnOk L w) (hu : Up w w') : LnOk L w' := ⟨fun W hW => h.call W (up_trans hu hW), h.enter, h.bd, h.o⟩
/-- A train that may stand on a bridge. -/
def TrOk (ts : List (Int × Int)) : Prop := ts.length ≤ 64 ∧ ∀ k (h : k < ts.length), (0 ≤ ts[k].1 ∧ ts[k].1 ≤ 262144) ∧ (0 ≤ ts[k].2 ∧ ts[k].2 ≤ 1048576)
theorem tok_all : ∀ {ts : List (Int × Int)} {a : Int}, 0 ≤ a → tok a ts = true → ∀ k (h : k < ts.length), (0 ≤ ts[k].1 ∧ ts[k].1 ≤ 262144) ∧ (0 ≤ ts[k].2 ∧ ts[k].2 ≤ 1048576)
  | t :: ts, a, ha, h, k, hk => by
    unfold tok at h
    simp only [Bool.and_eq_true] at h
    have h1 := win6_yes h.1
    have h2 := win6_yes h.2.1
    cases k with
    | zero => exact ⟨⟨by simp only [List.getElem_cons_zero]; omega, h1.2⟩, h2⟩
    | succ k => exact tok_all (by omega) h.2.2 k (by simpa using hk)
theorem trOk_of {ts : List (Int × Int)} (h : ctE ts = 0) : TrOk ts ∧ 0 < ts.length := by
  unfold ctE at h
  split at h
  · rename_i hw
    have := win6_yes hw
    split at h
    · rename_i ht
      simp only [Bool.and_eq_true] at ht
      exact ⟨⟨by omega, tok_all (Int.le_refl 0) ht.1⟩, by omega⟩
    · cases h
  · cases h
def efT (L : Ln) (s : Int) (t : Int × Int) : Int := t.2 * L.val (s - t.1 - L.org)
/-- The effect of a train. -/
def ef (L : Ln) (s : Int) : List (Int × Int) → Int
  | [] => 0
  | t :: ts => efT L s t + ef L s ts
theorem ef_app (L : Ln) (s : Int) (a b : List (Int × Int)) : ef L s (a ++ b) = ef L s a + ef L s b := by
  induction a with
  | nil => simp [ef]
  | cons t a ih => simp only [List.cons_append, ef, ih]; omega
theorem ef_take (L : Ln) (s : Int) {ts : List (Int × Int)} {k : Nat} (h : k < ts.length) : ef L s (ts.take (k + 1)) = ef L s (ts.take k) + efT L s ts[k] := by
  rw [List.take_succ_eq_append_getElem h, ef_app]; simp [ef]
theorem efT_bd {L : Ln} {w : World} (hL : LnOk L w) (s : Int) {t : Int × Int} (h : 0 ≤ t.2 ∧ t.2 ≤ 1048576) : 0 ≤ efT L s t ∧ efT L s t ≤ 18014398509481984 := by
  unfold efT
  have b := hL.bd (s - t.1 - L.org)
  refine ⟨Int.mul_nonneg h.1 b.1, ?_⟩
  calc t.2 * L.val (s - t.1 - L.org) ≤ 1048576 * 17179869184 := Int.mul_le_mul h.2 b.2 b.1 (by decide)
    _ ≤ 18014398509481984 := by decide
theorem ef_bd {L : Ln} {w : World} (hL : LnOk L w) (s : Int) {ts : List (Int × Int)} (h : TrOk ts) : ∀ k, k ≤ ts.length → 0 ≤ ef L s (ts.take k) ∧ ef L s (ts.take k) ≤ 18014398509481984 * (k : Int)
  | 0, _ => by simp [ef]
  | k + 1, hk => by
    have i := ef_bd hL s h k (by omega)
    have t := efT_bd hL s (h.2 k (by omega)).2
    rw [ef_take L s (by omega)]
    omega
set_option maxRecDepth 100000 in
set_option maxHeartbeats 8000000 in
theorem p_effect (L : Ln) (s : Int) (A : Option Addr) (ts : List (Int × Int)) (cap : Nat) (w : World) (hL : LnOk L w) (hF : Frs w A ts) (ht : TrOk ts) (hs : -6291456 ≤ s ∧ s ≤ 6291456) :
    Calls Try.prog 53 #[lnV L, .int .i64 s, .slice A ts.length cap] w fun e w' => e = .returned (.int .i64 (ef L s ts)) ∧ Up w w' := by
  have hall : ef L s (ts.take ts.length) = ef L s ts := by rw [List.take_length]
  have HF := hide hF
  have HT := hide (fun k (h : k < ts.length) => (⟨(ht.2 k h).1, (ht.2 k h).2, efT_bd hL s (ht.2 k h).2, ef_take L s h⟩ : _ ∧ _ ∧ _ ∧ _))
  have HB := hide (fun k (h : k ≤ ts.length) => ef_bd hL s ht k h)
  have h64 := ht.1
  have hT0 : ∀ t, efT L s t = t.2 * L.val (s - t.1 - L.org) := fun t => rfl
  have HT0 := hide hT0
  obtain ⟨V, hV⟩ : ∃ V, ef L s ts = V := ⟨_, rfl⟩
  rw [hV] at hall ⊢
  have HV := hide hall
  have hor := hL.o
  have hen := hL.enter
  have hbd := hL.bd
  have HCl := hide hL.call
  obtain ⟨E, hE⟩ : ∃ E, ef L s = E := ⟨_, rfl⟩
  obtain ⟨ET, hET⟩ : ∃ E, efT L s = E := ⟨_, rfl⟩
  rw [hE] at HV
  rw [hE, hET] at HT
  rw [hE] at HB
  rw [hET] at HT0
  have HE0 : E [] = 0 := by rw [← hE]; rfl
  clear hall hV hF ht hT0 hL hE hET
  obtain ⟨span, po, org, c0, c1, c2, f, caps, val⟩ := L
  simp only at hor hen hbd HCl HT0
  unfold lnV
  simp only
  have HBd := hide hbd
  clear hbd
  obtain ⟨n, hN⟩ : ∃ n, ts.length = n := ⟨_, rfl⟩
  have HN := hide hN
  rw [hN] at h64 HV HB ⊢
  clear hN
  go_enter Try.func53, Try.ntmps53
  go_upto_region 2 with fail
  refine at_wpB (fun W0 hW0 => ?_)
  have B0 : Bx W0 w.heap.size [.int .i64 span, .int .i64 po, .int .i64 org, .int .i64 c0, .int .i64 c1, .int .i64 c2, .func (.func f) #[] caps] := by rw [hW0]; exact bx_new w _ _
  have U0 : Up w W0 := by rw [hW0]; exact (by repeat' (first | (with_reducible exact up_refl _) | (with_reducible assumption) | (with_reducible refine up_alloc ?_ _) | (with_reducible refine up_drewN ?_ _) | (with_reducible refine up_drew ?_) | (with_reducible refine up_set ?_ (by first | (simp; done) | (simp; omega) | omega) _) | (refine up_trans ?_ (by with_reducible assumption))))
  clear hW0
  go_wp2_with fail
  go_loopw [7, 12] (fun s7 s12 wr => ∃ k : Nat, k ≤ n ∧ s12 = .int .i64 k ∧ s7 = .int .i64 (E (ts.take k)) ∧ Up W0 wr) (fun _ s12 _ => n - (intOf s12).toNat)
  case atStart => exact ⟨0, by omega, rfl, by rw [List.take_zero, HE0], up_refl _⟩
  case round =>
    obtain ⟨k, hk, rfl, rfl, hu⟩ := hrel
    by_cases hlt : k < n
    · have hl : k < ts.length := by rw [unhide HN]; exact hlt
      obtain ⟨hx, hp, hb, hst⟩ := unhide HT k hl
      have hsum := unhide HB k (by omega)
      rw [unhide HT0] at hb hst
      rcases frs_up (unhide HF) (up_trans U0 hu) with hnil | ⟨b, off, rfl, hc⟩
      · rw [hnil] at hl; simp at hl
      obtain ⟨k0, k1⟩ := hc k hl
      generalize ts[k].1 = x at *
      generalize ts[k].2 = p at *
      have HST := hide hst
      obtain ⟨S, hS⟩ : ∃ S, E (ts.take k) = S := ⟨_, rfl⟩
      rw [hS] at hsum HST ⊢
      have hcl := fun W hW => unhide HCl W hW (s - x - org) (by omega) (by omega)
      obtain ⟨v, hv⟩ : ∃ v, val (s - x - org) = v := ⟨_, rfl⟩
      have hvb := unhide HBd (s - x - org)
      rw [hv] at hcl hb HST hvb
      have q1 : IntKind.i64.wrap (s - x) = s - x := IntWalk.i64_in _ ⟨by omega, by omega⟩
      have q2 : IntKind.i64.wrap (s - x - org) = s - x - org := IntWalk.i64_in _ ⟨by omega, by omega⟩
      have q3 : IntKind.i64.wrap (p * v) = p * v := IntWalk.i64_in _ ⟨by omega, by omega⟩
      have q4 : IntKind.i64.wrap (S + p * v) = S + p * v := IntWalk.i64_in _ ⟨by omega, by omega⟩
      have hwk : IntKind.i64.wrap ((k : Int) + 1) = (k : Int) + 1 := IntWalk.i64_in _ ⟨by omega, by omega⟩
      have i0 : (0 : Int) ≤ (k : Int) := by omega
      have i1 : (k : Int) < (n : Int) := by omega
      have BB := bx_up B0 hu
      clear hc hst hS hv hsum hb hx hp
      go_upto_region 5 with fail
      refine at_wpB (fun W1 hW1 => ?_)
      have B1 : Bx W1 wr.heap.size [.int .i64 x, .int .i64 p] := by rw [hW1]; exact bx_new wr _ _
      have U1 : Up wr W1 := by rw [hW1]; exact (by repeat' (first | (with_reducible exact up_refl _) | (with_reducible assumption) | (with_reducible refine up_alloc ?_ _) | (with_reducible refine up_drewN ?_ _) | (with_reducible refine up_drew ?_) | (with_reducible refine up_set ?_ (by first | (simp; done) | (simp; omega) | omega) _) | (refine up_trans ?_ (by with_reducible assumption))))
      have BL := bx_up BB U1
      clear hW1 BB k0 k1
      have HCL := hide (fun W (hW : Up W1 W) => hcl W (up_trans (up_trans U0 (up_trans hu U1)) hW))
      clear hcl
      have n0 : ∀ r : UpW W1, r.v.cell? ⟨wr.heap.size, 0, none⟩ = some (.int .i64 x) := fun r => (bx2 (bx_up B1 r.up)).1
      have n1 : ∀ r : UpW W1, r.v.cell? ⟨wr.heap.size, 1, none⟩ = some (.int .i64 p) := fun r => (bx2 (bx_up B1 r.up)).2
      have n2 : ∀ r : UpW W1, r.v.cell? ⟨w.heap.size, 2, none⟩ = some (.int .i64 org) := fun r => (bx_up BL r.up 2 _ rfl).1
      have n3 : ∀ r : UpW W1, r.v.cell? ⟨w.heap.size, 6, none⟩ = some (.func (.func f) #[] caps) := fun r => (bx_up BL r.up 6 _ rfl).1
      have U2 := up_trans hu U1
      clear B1 BL B0 U1 hu
      refine wp_upq (by kernel_rfl) (by kernel_rfl) ?_; (repeat (go_big_quiet_step (exact upq (unhide HCL _ (UpW.up _))))); refine wpQuiet_nil ?_; intro _ hw'; obtain ⟨pq, hw''⟩ := hw'; subst hw''; have hpq := pq.up
      go_wp2_with fail
      go_roundw
      case rel => exact ⟨k + 1, by omega, by first | rfl | trivial | go_num, by rw [unhide HST], up_trans U2 hpq⟩
      case measure => simp [intOf]; omega
    · obtain rfl : k = n := by omega
      rw [unhide HV]
      go_wp2_with fail
      go_ret
      exact ⟨rfl, up_trans U0 hu⟩
end Go.Proofs.Ytdignnmhiifpgaa
