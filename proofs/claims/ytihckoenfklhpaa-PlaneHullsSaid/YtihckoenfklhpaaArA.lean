/- The reference's Area, and that it is the same. Area, for any list: it answers as the reference does. -/
import Derived.Test.YtihckoenfklhpaaRefIn
import Derived.Test.YtihckoenfklhpaaArea
import Derived.Test.YtihckoenfklhpaaInA
namespace Go.Proofs.Ytihckoenfklhpaa
open Go.RowKit Go.Proofs.Gn
/-- The sum over the triangles at the first corner. -/
def arD (ps : Pl) : Nat → Int
  | 0 => 0
  | k + 1 => arD ps k + Gx.dt (Gx.g ps 0) (Gx.g ps (k + 1)) (Gx.g ps (k + 2))
theorem dt_bc {a b c : Int × Int} (ha : Bc a.1 ∧ Bc a.2) (hb : Bc b.1 ∧ Bc b.2) (hc : Bc c.1 ∧ Bc c.2) :
    (-1125899906842624 ≤ (b.1 - a.1) * (c.2 - a.2) ∧ (b.1 - a.1) * (c.2 - a.2) ≤ 1125899906842624) ∧ (-1125899906842624 ≤ (b.2 - a.2) * (c.1 - a.1) ∧ (b.2 - a.2) * (c.1 - a.1) ≤ 1125899906842624) := by
  have key : ∀ u v : Int, -33554432 ≤ u → u ≤ 33554432 → -33554432 ≤ v → v ≤ 33554432 → -1125899906842624 ≤ u * v ∧ u * v ≤ 1125899906842624 := fun u v h1 h2 h3 h4 => by
    have p1 := Int.mul_nonneg (show 0 ≤ 33554432 - u by omega) (show 0 ≤ 33554432 - v by omega)
    have p2 := Int.mul_nonneg (show 0 ≤ 33554432 + u by omega) (show 0 ≤ 33554432 + v by omega)
    have p3 := Int.mul_nonneg (show 0 ≤ 33554432 - u by omega) (show 0 ≤ 33554432 + v by omega)
    have p4 := Int.mul_nonneg (show 0 ≤ 33554432 + u by omega) (show 0 ≤ 33554432 - v by omega)
    constructor <;> grind
  unfold Bc at ha hb hc
  exact ⟨key _ _ (by omega) (by omega) (by omega) (by omega), key _ _ (by omega) (by omega) (by omega) (by omega)⟩
theorem arD_bd {ps : Pl} (ho : okL ps = true) : ∀ k : Nat, -(2251799813685248 * (k : Int)) ≤ arD ps k ∧ arD ps k ≤ 2251799813685248 * (k : Int) := by
  intro k
  induction k with
  | zero => simp [arD]
  | succ k ih =>
    have := dt_bc (g_bc ho 0) (g_bc ho (k + 1)) (g_bc ho (k + 2))
    unfold arD Gx.dt
    omega
set_option maxRecDepth 100000 in
set_option maxHeartbeats 4000000 in
theorem r_AreaV (b off : Nat) (ps : Pl) (cap : Nat) (w : World) (hc : Pts w (some ⟨b, off, none⟩) ps) (hz : hulR ps ps = 0) :
    Calls Try.prog 17 #[.slice (some ⟨b, off, none⟩) ps.length cap] w fun e w' => e = .returned (.tuple #[.int .i64 (arD ps (ps.length - 2)), .int .i64 0]) ∧ Up w w' := by
  have hv := (hulR_zero hz).1
  have hlen := hv.len
  have h0 := hv.pos
  have HOK := hide hv.ok
  have PH : ∀ W : World, Up w W → Calls Try.prog 40 #[.slice (some ⟨b, off, none⟩) ps.length cap, .slice (some ⟨b, off, none⟩) ps.length cap] W fun e w' => e = .returned (.int .i64 0) ∧ Up W w' := fun W hu => by
    have q := r_hulls _ _ ps ps cap cap W (pts_up hc hu) (pts_up hc hu) (by omega) (by omega)
    rw [hz] at q
    exact q
  obtain ⟨b', off', he, hcs⟩ := hc.resolve_left (by intro e; rw [e] at h0; simp at h0)
  obtain ⟨rfl, rfl⟩ : b = b' ∧ off = off' := by simpa using he
  have HC := hide hcs
  obtain ⟨n, hN⟩ : ∃ n, ps.length = n := ⟨_, rfl⟩
  rw [hN] at PH hlen h0 ⊢
  have HN := hide hN
  have HPH := hide PH
  clear PH hc hz hv he hcs hN
  go_enter Try.func17, Try.ntmps17
  go_wp2_with (go_at_call 40; (with_reducible refine (unhide HPH _ (by repeat' (first | (with_reducible exact up_refl _) | (with_reducible assumption) | (with_reducible refine up_alloc ?_ _) | (with_reducible refine up_drewN ?_ _) | (with_reducible refine up_drew ?_) | (with_reducible refine up_set ?_ (by first | (simp; done) | (simp; omega) | omega) _) | (refine up_trans ?_ (by with_reducible assumption))))).mono ?_); rintro e w1 ⟨rfl, hb1⟩)
  go_loopw [5, 6] (fun s5 s6 wr => ∃ k : Nat, k ≤ n - 2 ∧ s6 = .int .i64 ((k + 1 : Nat) : Int) ∧ s5 = .int .i64 (arD ps k) ∧ Up w wr) (fun _ s6 _ => n - (intOf s6).toNat)
  case atStart => exact ⟨0, Nat.zero_le _, rfl, rfl, hb1⟩
  case round =>
    clear hb1
    obtain ⟨k, hk, rfl, rfl, hu⟩ := hrel
    have wI : IntKind.i64.wrap (((k + 1 : Nat) : Int) + 1) = ((k + 2 : Nat) : Int) := by rw [IntWalk.i64_in _ ⟨by omega, by omega⟩]; omega
    by_cases hlt : k + 2 < n
    · have l0 : 0 < ps.length := by rw [unhide HN]; exact h0
      have l1 : k + 1 < ps.length := by rw [unhide HN]; omega
      have l2 : k + 2 < ps.length := by rw [unhide HN]; exact hlt
      obtain ⟨a0, a1⟩ := pts_g (unhide HC) l0
      obtain ⟨b0, b1⟩ := pts_g (unhide HC) l1
      obtain ⟨d0, d1⟩ := pts_g (unhide HC) l2
      have bnd := dt_bc (g_bc (unhide HOK) 0) (g_bc (unhide HOK) (k + 1)) (g_bc (unhide HOK) (k + 2))
      have ba := g_bc (unhide HOK) 0
      have bb := g_bc (unhide HOK) (k + 1)
      have bd := g_bc (unhide HOK) (k + 2)
      have hS : arD ps (k + 1) = arD ps k + Gx.dt (Gx.g ps 0) (Gx.g ps (k + 1)) (Gx.g ps (k + 2)) := rfl
      have hB := arD_bd (unhide HOK) k
      obtain ⟨P, hP⟩ : ∃ P, Gx.g ps 0 = P := ⟨_, rfl⟩
      obtain ⟨Q, hQ⟩ : ∃ P, Gx.g ps (k + 1) = P := ⟨_, rfl⟩
      obtain ⟨R, hR⟩ : ∃ P, Gx.g ps (k + 2) = P := ⟨_, rfl⟩
      rw [hP] at a0 a1 bnd ba hS
      rw [hQ] at b0 b1 bnd bb hS
      rw [hR] at d0 d1 bnd bd hS
      obtain ⟨p1, p2⟩ := P
      obtain ⟨q1, q2⟩ := Q
      obtain ⟨r1, r2⟩ := R
      unfold Gx.dt at hS
      unfold Bc at ba bb bd
      simp only [Nat.zero_mul, Nat.add_zero] at a0 a1 b0 b1 d0 d1 bnd ba bb bd hS
      obtain ⟨X, hX⟩ : ∃ X, arD ps k = X := ⟨_, rfl⟩
      obtain ⟨Y, hY⟩ : ∃ X, arD ps (k + 1) = X := ⟨_, rfl⟩
      rw [hX] at hS hB
      rw [hY] at hS
      rw [hX]
      have HY := hide hY
      obtain ⟨M1, hM1⟩ : ∃ M, (q1 - p1) * (r2 - p2) = M := ⟨_, rfl⟩
      obtain ⟨M2, hM2⟩ : ∃ M, (q2 - p2) * (r1 - p1) = M := ⟨_, rfl⟩
      rw [hM1, hM2] at bnd hS
      have v1 : IntKind.i64.wrap (q1 - p1) = q1 - p1 := IntWalk.i64_in _ ⟨by omega, by omega⟩
      have v2 : IntKind.i64.wrap (r2 - p2) = r2 - p2 := IntWalk.i64_in _ ⟨by omega, by omega⟩
      have v3 : IntKind.i64.wrap (q2 - p2) = q2 - p2 := IntWalk.i64_in _ ⟨by omega, by omega⟩
      have v4 : IntKind.i64.wrap (r1 - p1) = r1 - p1 := IntWalk.i64_in _ ⟨by omega, by omega⟩
      have v5 : IntKind.i64.wrap ((q1 - p1) * (r2 - p2)) = M1 := by rw [hM1]; exact IntWalk.i64_in _ ⟨by omega, by omega⟩
      have v6 : IntKind.i64.wrap ((q2 - p2) * (r1 - p1)) = M2 := by rw [hM2]; exact IntWalk.i64_in _ ⟨by omega, by omega⟩
      have v7 : IntKind.i64.wrap (X + M1) = X + M1 := IntWalk.i64_in _ ⟨by omega, by omega⟩
      have v8 : IntKind.i64.wrap (X + M1 - M2) = Y := by rw [IntWalk.i64_in _ ⟨by omega, by omega⟩]; omega
      have c0 := up_cell hu a0
      have c1 := up_cell hu a1
      have c2 := up_cell hu b0
      have c3 := up_cell hu b1
      have c4 := up_cell hu d0
      have c5 := up_cell hu d1
      have i1 : ((k + 1 : Nat) : Int) < (n : Int) := by omega
      have i2 : ((k + 2 : Nat) : Int) < (n : Int) := by omega
      have i3 : (0 : Int) < (n : Int) := by omega
      have HK := hide (show k + 1 ≤ n - 2 by omega)
      have HME := hide (show n - (k + 2) < n - (k + 1) by omega)
      obtain ⟨I, hI⟩ : ∃ I : Nat, I = k + 1 := ⟨_, rfl⟩
      obtain ⟨J, hJ⟩ : ∃ I : Nat, I = k + 2 := ⟨_, rfl⟩
      rw [← hI] at wI i1 c2 c3 HME ⊢
      rw [← hJ] at wI i2 c4 c5 HME
      have HJ := hide hJ
      clear a0 a1 b0 b1 d0 d1 bnd ba bb bd hS hB hP hQ hR hX hY hM1 hM2 hI hJ l0 l1 l2
      go_upto_region 8 with fail
      have n0 : ∀ p : UpW wr, p.v.cell? ⟨b, off, none⟩ = some (.int .i64 p1) := fun p => up_cell p.up c0
      have n1 : ∀ p : UpW wr, p.v.cell? ⟨b, off + 1, none⟩ = some (.int .i64 p2) := fun p => up_cell p.up c1
      have n2 : ∀ p : UpW wr, p.v.cell? ⟨b, off + I * 2, none⟩ = some (.int .i64 q1) := fun p => up_cell p.up c2
      have n3 : ∀ p : UpW wr, p.v.cell? ⟨b, off + I * 2 + 1, none⟩ = some (.int .i64 q2) := fun p => up_cell p.up c3
      have n4 : ∀ p : UpW wr, p.v.cell? ⟨b, off + J * 2, none⟩ = some (.int .i64 r1) := fun p => up_cell p.up c4
      have n5 : ∀ p : UpW wr, p.v.cell? ⟨b, off + J * 2 + 1, none⟩ = some (.int .i64 r2) := fun p => up_cell p.up c5
      refine wp_upq (by kernel_rfl) (by kernel_rfl) ?_; (repeat (go_big_quiet_step (fail))); refine wpQuiet_nil ?_; intro _ hw'; obtain ⟨pq, hw''⟩ := hw'; subst hw''; have hpq := pq.up
      have hu2 := up_trans hu hpq
      clear n0 n1 n2 n3 n4 n5
      go_wp2_with fail
      first
        | exact ⟨⟨k + 1, unhide HK, by rw [unhide HJ], by rw [unhide HY], hu2⟩, by simpa [intOf] using unhide HME⟩
        | (go_roundw; (case rel => exact ⟨k + 1, unhide HK, by rw [unhide HJ], by rw [unhide HY], hu2⟩); (case measure => simpa [intOf] using unhide HME))
    · have ek : arD ps k = arD ps (n - 2) := by
        rcases Nat.lt_or_ge n 2 with c | c
        · rw [show k = n - 2 by omega]
        · rw [show k = n - 2 by omega]
      have i1 : ¬ ((k + 2 : Nat) : Int) < (n : Int) := by omega
      rw [ek]
      obtain ⟨Z, hZ⟩ : ∃ Z, arD ps (n - 2) = Z := ⟨_, rfl⟩
      rw [hZ]
      have HZ := hide hZ
      clear ek hZ
      go_wp2_with fail
      exact bodyPost_ret (v := .tuple #[.int .i64 Z, .int .i64 0]) (by simp [results, Try.results17, go_sem]) rfl ⟨by rw [unhide HZ], hu⟩
theorem arS_to {ps : Pl} (ho : okL ps = true) : ∀ k, k + 1 < ps.length → arS (upTo (ap ps ho) (k + 1)) + Gx.crs (Gx.g ps (k + 1)) (Gx.g ps 0) = arD ps k := by
  intro k
  induction k with
  | zero =>
    intro hk
    rw [upTo_succ, arS_snoc]
    have e : Gx.gc ps (0 + 1) = Gx.g ps 1 := Gx.gc_lt (by omega)
    show arS (upTo (ap ps ho) 0) + Gx.crs (Gx.g ps 0) (Gx.gc ps (0 + 1)) + _ = 0
    rw [e, show arS (upTo (ap ps ho) 0) = 0 from rfl]
    unfold Gx.crs
    grind
  | succ k ih =>
    intro hk
    have h := ih (by omega)
    rw [upTo_succ, arS_snoc]
    have e : Gx.gc ps (k + 1 + 1) = Gx.g ps (k + 2) := Gx.gc_lt (by omega)
    show arS (upTo (ap ps ho) (k + 1)) + Gx.crs (Gx.g ps (k + 1)) (Gx.gc ps (k + 1 + 1)) + Gx.crs (Gx.g ps (k + 2)) (Gx.g ps 0) = arD ps k + Gx.dt (Gx.g ps 0) (Gx.g ps (k + 1)) (Gx.g ps (k + 2))
    rw [e, ← h]
    unfold Gx.crs Gx.dt
    grind
/-- Both sums are the same. -/
theorem ar_eq {ps : Pl} (hv : HV ps) : arK (upTo (ap ps hv.ok) (sidesN ps)) = arD ps (ps.length - 2) := by
  have hlen := hv.len
  have h0 := hv.pos
  have hs : sidesN ps ≤ 256 := by unfold sidesN; split <;> omega
  rw [(arK_sum _ (by rw [upTo_len]; exact hs)).1]
  by_cases h1 : ps.length = 1
  · have e : sidesN ps = 0 := by unfold sidesN; rw [if_pos h1]
    rw [e, h1]
    rfl
  · have e : sidesN ps = ps.length := by unfold sidesN; rw [if_neg h1]
    obtain ⟨k, hk⟩ : ∃ k, ps.length = k + 2 := ⟨ps.length - 2, by omega⟩
    rw [e, hk, upTo_succ, arS_snoc, show k + 2 - 2 = k by omega, ← arS_to hv.ok k (by omega)]
    have e2 : Gx.gc ps (k + 1 + 1) = Gx.g ps 0 := by unfold Gx.gc; rw [hk, show k + 1 + 1 = k + 2 by omega, Nat.mod_self]
    show arS (upTo (ap ps hv.ok) (k + 1)) + Gx.crs (Gx.g ps (k + 1)) (Gx.gc ps (k + 1 + 1)) = _
    rw [e2]
end Go.Proofs.Ytihckoenfklhpaa
namespace Go.Proofs.Ytihckoenfklhpaa
open Go.RowKit Go.Proofs.Gn
/-- What Area returns. -/
def arV (ps : Pl) : Int := if hulR ps ps = 0 then arD ps (ps.length - 2) else 0
theorem r_AreaA (A : Option Addr) (ps : Pl) (cap : Nat) (w : World) (h : Pts w A ps) (hn : ps.length ≤ 60000) :
    Calls Try.prog 17 #[.slice A ps.length cap] w fun e w' => e = .returned (.tuple #[.int .i64 (arV ps), .int .i64 (hulR ps ps)]) ∧ Up w w' := by
  unfold arV
  by_cases c : hulR ps ps = 0
  · have hv := (hulR_zero c).1
    obtain ⟨b, off, rfl, hc⟩ := h.resolve_left (by intro e; have := hv.pos; rw [e] at this; simp at this)
    have q := r_AreaV b off ps cap w (.inr ⟨b, off, rfl, hc⟩) c
    rw [c, if_pos rfl]
    exact q
  · rw [if_neg c]
    have PH : ∀ W : World, Up w W → Calls Try.prog 40 #[.slice A ps.length cap, .slice A ps.length cap] W fun e w' => e = .returned (.int .i64 (hulR ps ps)) ∧ Up W w' := fun W hu => r_hulls A A ps ps cap cap W (pts_up h hu) (pts_up h hu) (by omega) (by omega)
    obtain ⟨z, hZ⟩ : ∃ z, hulR ps ps = z := ⟨_, rfl⟩
    rw [hZ] at PH c ⊢
    have z1 : (z == 0) = false := beq_false_of_ne c
    obtain ⟨n, hN⟩ : ∃ n, ps.length = n := ⟨_, rfl⟩
    rw [hN] at PH ⊢
    have HPH := hide PH
    clear PH hN hZ h hn
    go_enter Try.func17, Try.ntmps17
    go_wp2_with (go_at_call 40; (with_reducible refine (unhide HPH _ (by repeat' (first | (with_reducible exact up_refl _) | (with_reducible assumption) | (with_reducible refine up_alloc ?_ _) | (with_reducible refine up_drewN ?_ _) | (with_reducible refine up_drew ?_) | (with_reducible refine up_set ?_ (by first | (simp; done) | (simp; omega) | omega) _) | (refine up_trans ?_ (by with_reducible assumption))))).mono ?_); rintro e w1 ⟨rfl, hb1⟩)
    go_ret2
    exact ⟨rfl, (by repeat' (first | (with_reducible exact up_refl _) | (with_reducible assumption) | (with_reducible refine up_alloc ?_ _) | (with_reducible refine up_drewN ?_ _) | (with_reducible refine up_drew ?_) | (with_reducible refine up_set ?_ (by first | (simp; done) | (simp; omega) | omega) _) | (refine up_trans ?_ (by with_reducible assumption))))⟩
set_option maxRecDepth 100000 in
theorem p_AreaA (A : Option Addr) (ps : Pl) (cap : Nat) (w : World) (h : Pts w A ps) (hcap : ps.length ≤ cap) (hcap2 : cap ≤ 9223372036854775807) :
    Calls Try.prog 16 #[.slice A ps.length cap] w fun e w' => e = .returned (.tuple #[.int .i64 (arV ps), .int .i64 (hulR ps ps)]) ∧ Up w w' := by
  have hh := (isRB_hul (ps := ps)).2
  unfold arV
  by_cases c : hulR ps ps = 0
  · have hv := (hulR_zero c).1
    obtain ⟨b, off, rfl, hc⟩ := h.resolve_left (by intro e; have := hv.pos; rw [e] at this; simp at this)
    have q := p_Area b off ps cap w hc hv hcap hcap2
    rw [ar_eq hv] at q
    rw [c, if_pos rfl]
    exact q
  · rw [if_neg c]
    have PC : ∀ (B : Nat) W, Up w W → W.cell? ⟨B, 0, none⟩ = some (.slice A ps.length cap) → Calls Try.prog 37 #[.slice (some ⟨B, 0, none⟩) 1 1] W fun e w' => e = .returned (.int .i64 (hulR ps ps)) ∧ Up W w' := fun B W hu hw => by
      rw [← hh]
      exact p_check1 _ ps cap B W (pts_up h hu) hcap hcap2 hw
    obtain ⟨z, hZ⟩ : ∃ z, hulR ps ps = z := ⟨_, rfl⟩
    rw [hZ] at PC c ⊢
    have z1 : (z == 0) = false := beq_false_of_ne c
    obtain ⟨n, hN⟩ : ∃ n, ps.length = n := ⟨_, rfl⟩
    rw [hN] at PC ⊢
    have HPC := hide PC
    clear PC hN hZ h hcap hcap2 hh
    go_enter Try.func16, Try.ntmps16
    go_wp2_with (go_at_call 37; (with_reducible refine (unhide HPC _ _ (by repeat' (first | (with_reducible exact up_refl _) | (with_reducible assumption) | (with_reducible refine up_alloc ?_ _) | (with_reducible refine up_drewN ?_ _) | (with_reducible refine up_drew ?_) | (with_reducible refine up_set ?_ (by first | (simp; done) | (simp; omega) | omega) _) | (refine up_trans ?_ (by with_reducible assumption)))) ?_).mono ?_); (· go_cell); rintro e w1 ⟨rfl, hb1⟩)
    go_ret2
    exact ⟨rfl, (by repeat' (first | (with_reducible exact up_refl _) | (with_reducible assumption) | (with_reducible refine up_alloc ?_ _) | (with_reducible refine up_drewN ?_ _) | (with_reducible refine up_drew ?_) | (with_reducible refine up_set ?_ (by first | (simp; done) | (simp; omega) | omega) _) | (refine up_trans ?_ (by with_reducible assumption))))⟩
end Go.Proofs.Ytihckoenfklhpaa
