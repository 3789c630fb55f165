/- The line that parts two hulls, and whether a line does. -/
import Derived.Test.YtihckoenfklhpaaGap
namespace Go.Proofs.Ytihckoenfklhpaa
open Go.RowKit Go.Proofs.Gn
theorem sep_iff {a b : Pl} (ha : 0 < a.length) (hb : 0 < b.length) (n : Int × Int) : sepB a b n = true ↔ ∀ x ∈ a, ∀ y ∈ b, dt2 x n < dt2 y n := by
  unfold sepB
  rw [decide_eq_true_eq]
  constructor
  · intro h x hx y hy
    have := hiV_ge n hx
    have := loV_le n hy
    omega
  · intro h
    obtain ⟨x, hx, e⟩ := hiV_at ha n
    obtain ⟨y, hy, f⟩ := loV_at hb n
    rw [e, f]
    exact h x hx y hy
/-- A line between them: no point is in both. -/
theorem part_no {a b : Pl} {n : Int × Int} {k : Int} (h1 : hiV a n ≤ k) (h2 : k < loV b n) : ¬ Gx.Diffs a b (0, 0) := fun d => by
  obtain ⟨x, hx, y, hy, e⟩ := d (-n.2, n.1)
  have p1 := hiV_ge n hx
  have p2 := loV_le n hy
  unfold dt2 at p1 p2
  unfold Gx.crs Gx.sb at e
  simp only [Int.mul_zero, Int.sub_zero] at e
  grind
theorem sep_no {a b : Pl} {n : Int × Int} (h : sepB a b n = true) : ¬ Gx.Diffs a b (0, 0) := part_no (k := hiV a n) (Int.le_refl _) (of_decide_eq_true h)
theorem sep_ex {a b D : Pl} (ha : 0 < a.length) (hb : 0 < b.length) (hd : Gx.Diff a b D) (hB : BdL D) (h : ¬ Gx.Diffs a b (0, 0)) : ∃ n ∈ outL (upTo (qp D hB) (sidesN D)), sepB a b n = true := by
  have hc : ¬ Gx.Cont D (0, 0) := fun c => h ((hd.cont _).1 c)
  have z : ∀ w : Int × Int, Gx.crs w (0, 0) = 0 := fun w => by unfold Gx.crs; simp
  -- where all of D is on one side, all differences are
  have far : ∀ (w : Int × Int), (∀ r ∈ D, 0 < Gx.crs w r) → ∀ x ∈ a, ∀ y ∈ b, 0 < Gx.crs w (Gx.sb x y) := fun w hw x hx y hy => by
    obtain ⟨r, hr, e⟩ := hd.sc x hx y hy w
    have := hw r hr
    omega
  by_cases b1 : ∀ r ∈ D, 0 < r.1
  · refine ⟨(-1, 0), by simp [outL, box4], (sep_iff ha hb _).2 fun x hx y hy => ?_⟩
    have := far (0, -1) (fun r hr => by have := b1 r hr; unfold Gx.crs; simp; omega) x hx y hy
    unfold Gx.crs Gx.sb at this
    unfold dt2
    simp at this ⊢
    omega
  by_cases b2 : ∀ r ∈ D, r.1 < 0
  · refine ⟨(1, 0), by simp [outL, box4], (sep_iff ha hb _).2 fun x hx y hy => ?_⟩
    have := far (0, 1) (fun r hr => by have := b2 r hr; unfold Gx.crs; simp; omega) x hx y hy
    unfold Gx.crs Gx.sb at this
    unfold dt2
    simp at this ⊢
    omega
  by_cases b3 : ∀ r ∈ D, 0 < r.2
  · refine ⟨(0, -1), by simp [outL, box4], (sep_iff ha hb _).2 fun x hx y hy => ?_⟩
    have := far (1, 0) (fun r hr => by have := b3 r hr; unfold Gx.crs; simp; omega) x hx y hy
    unfold Gx.crs Gx.sb at this
    unfold dt2
    simp at this ⊢
    omega
  by_cases b4 : ∀ r ∈ D, r.2 < 0
  · refine ⟨(0, 1), by simp [outL, box4], (sep_iff ha hb _).2 fun x hx y hy => ?_⟩
    have := far (-1, 0) (fun r hr => by have := b4 r hr; unfold Gx.crs; simp; omega) x hx y hy
    unfold Gx.crs Gx.sb at this
    unfold dt2
    simp at this ⊢
    omega
  -- the box has (0, 0): then a side has not
  have nb : ∀ {p : Int × Int → Prop}, (¬ ∀ r ∈ D, ¬ p r) → ∃ r ∈ D, p r := fun {p} hn => by
    by_cases c : ∃ r ∈ D, p r
    · exact c
    · exact absurd (fun r hr hp => c ⟨r, hr, hp⟩) hn
  have x0 : ∃ r ∈ D, r.1 ≤ 0 := nb fun h => b1 fun r hr => by have := h r hr; omega
  have x1 : ∃ r ∈ D, 0 ≤ r.1 := nb fun h => b2 fun r hr => by have := h r hr; omega
  have y0 : ∃ r ∈ D, r.2 ≤ 0 := nb fun h => b3 fun r hr => by have := h r hr; omega
  have y1 : ∃ r ∈ D, 0 ≤ r.2 := nb fun h => b4 fun r hr => by have := h r hr; omega
  by_cases hs : ∃ k, k < sidesN D ∧ 0 < Gx.crs (Gx.sd D k) (Gx.g D k)
  · obtain ⟨k, hk, hpos⟩ := hs
    have hl : k < D.length := by unfold sidesN at hk; split at hk <;> omega
    refine ⟨outQ (qp D hB k), by unfold outL upTo; simp only [List.mem_append, List.mem_map, List.mem_range]; exact .inr ⟨_, ⟨k, hk, rfl⟩, rfl⟩, (sep_iff ha hb _).2 fun x hx y hy => ?_⟩
    have f := far (Gx.sd D k) (fun r hr => by
      have l := hd.poly.left r hr k hl
      rw [Gx.dt_eq, ← Gx.sd_lt hl, Gx.crs_sb] at l
      omega) x hx y hy
    rw [Gx.sd_lt hl] at f
    unfold outQ qp dt2
    unfold Gx.crs Gx.sb at f
    simp only at f ⊢
    grind
  · exfalso
    refine hc ⟨⟨x0, x1, y0, y1⟩, fun hl1 i hi => ?_⟩
    have hi2 : i < sidesN D := by unfold sidesN; rw [if_neg hl1]; exact hi
    rw [Gx.dt_eq, ← Gx.sd_lt hi, Gx.crs_sb, z]
    have : ¬ 0 < Gx.crs (Gx.sd D i) (Gx.g D i) := fun h => hs ⟨i, hi2, h⟩
    omega
theorem out_bd {D : Pl} (hB : BdL D) (h : ∀ r ∈ D, (-33554432 ≤ r.1 ∧ r.1 ≤ 33554432) ∧ (-33554432 ≤ r.2 ∧ r.2 ≤ 33554432)) : ∀ n ∈ outL (upTo (qp D hB) (sidesN D)), (-67108864 ≤ n.1 ∧ n.1 ≤ 67108864) ∧ (-67108864 ≤ n.2 ∧ n.2 ≤ 67108864) := by
  intro n hn
  unfold outL upTo at hn
  simp only [List.mem_append, List.mem_map, List.mem_range] at hn
  rcases hn with hn | ⟨x, ⟨k, hk, rfl⟩, rfl⟩
  · simp [box4] at hn
    rcases hn with rfl | rfl | rfl | rfl <;> simp
  · have hl : k < D.length := by unfold sidesN at hk; split at hk <;> omega
    have p := h _ (Gx.g_mem hl)
    have q := h _ (Gx.gc_mem (List.length_pos_iff.1 (by omega)) (k + 1))
    unfold outQ qp
    simp only
    omega
/-- What Part returns. -/
def PartIs (a b : Pl) (v : Value) : Prop := (Gx.Diffs a b (0, 0) ∧ v = .tuple #[ln 0 0 0, .int .i64 5]) ∨
  (¬ Gx.Diffs a b (0, 0) ∧ ∃ n : Int × Int, v = .tuple #[ln n.1 n.2 (hiV a n), .int .i64 0] ∧ sepB a b n = true ∧ (-67108864 ≤ n.1 ∧ n.1 ≤ 67108864) ∧ (-67108864 ≤ n.2 ∧ n.2 ≤ 67108864))
/-- What the look for a line finds. -/
def LineIs (a b : Pl) (v : Value) : Prop := (Gx.Diffs a b (0, 0) ∧ v = .tuple #[ln 0 0 0, .bool false]) ∨
  (¬ Gx.Diffs a b (0, 0) ∧ ∃ n : Int × Int, v = .tuple #[ln n.1 n.2 (hiV a n), .bool true] ∧ sepB a b n = true ∧ (-67108864 ≤ n.1 ∧ n.1 ≤ 67108864) ∧ (-67108864 ≤ n.2 ∧ n.2 ≤ 67108864))
theorem first_ex (f : Int × Int → Bool) (ds : Pl) : ∃ K, K ≤ ds.length ∧ (∀ i, i < K → f (Gx.g ds i) = false) ∧ (K < ds.length → f (Gx.g ds K) = true) := by
  obtain ⟨K, h1, h2, h3⟩ := Gx.least_of (F := fun i => i = ds.length ∨ f (Gx.g ds i) = true) ds.length (.inl rfl)
  refine ⟨K, h1, fun i hi => ?_, fun h => h2.resolve_left (by omega)⟩
  cases e : f (Gx.g ds i) with
  | false => rfl
  | true => exact absurd (.inr e) (h3 i hi)
/-- Outwards, then the first one that parts. -/
def OutAt (a b : Pl) (w : World) (v : Value) (W : World) : Prop := ∃ (ds : Pl) (g cap : Nat), v = .slice (some ⟨g, 0, none⟩) ds.length cap ∧ ds.length ≤ 3000 ∧ At W g 0 cap ds ∧ (∀ n ∈ ds, (-67108864 ≤ n.1 ∧ n.1 ≤ 67108864) ∧ (-67108864 ≤ n.2 ∧ n.2 ≤ 67108864)) ∧ (¬ Gx.Diffs a b (0, 0) → ∃ n ∈ ds, sepB a b n = true) ∧ Up w W
theorem p_out {a b : Pl} (ha : HV a) (hb : HV b) {w W : World} {v : Value} (hD : DiffAt w a b v W) : Calls Try.prog 59 #[v] W fun e w' => ∃ v, e = .returned v ∧ OutAt a b W v w' := by
  obtain ⟨D, g, cap, rfl, hd, _, hl, hA, _, _⟩ := hD
  have hbd := diff_bdL hd ha.ok hb.ok
  have h0 : 0 < D.length := List.length_pos_iff.2 hd.poly.ne
  refine (p_outwards g 0 D cap W hA.pts h0 (by omega) hbd).mono fun e w' ⟨v, he, ho, hu⟩ => ⟨v, he, ?_⟩
  have hlen : (outL (upTo (qp D hbd) (sidesN D))).length = 4 + sidesN D := by rw [outL_len, upTo_len]
  have hs : sidesN D ≤ D.length := by unfold sidesN; split <;> omega
  rw [← hlen] at ho
  obtain ⟨g', cap', rfl, _, q2, q3⟩ := own_some ho (by rw [hlen]; omega)
  exact ⟨_, g', cap', rfl, by rw [hlen]; omega, ⟨own_cells ho, q2, q3⟩, out_bd hbd (diff_bd hd ha.ok hb.ok), sep_ex ha.pos hb.pos hd hbd, hu⟩
theorem p_line {a b : Pl} (ha : HV a) (hb : HV b) {ga oa ca gb ob cb : Nat} {w W : World} (h1 : At W ga oa ca a) (h2 : At W gb ob cb b) {v : Value} (hO : OutAt a b w v W) :
    Calls Try.prog 58 #[.slice (some ⟨ga, oa, none⟩) a.length ca, .slice (some ⟨gb, ob, none⟩) b.length cb, v] W fun e w' => ∃ r, e = .returned r ∧ LineIs a b r ∧ Up W w' := by
  obtain ⟨ds, g, cap, rfl, hl, hA, hn, hex, _⟩ := hO
  obtain ⟨K, k1, k2, k3⟩ := first_ex (sepB a b) ds
  have hdn : ∀ n ∈ ds, Dn n := fun n hm => by have := hn n hm; unfold Dn; omega
  rcases Nat.lt_or_ge K ds.length with c | c
  · refine (p_firstLine ga oa gb ob g 0 a b ds ca cb cap W h1.pts h2.pts hA.pts ha.pos hb.pos (by have := ha.len; omega) (by have := hb.len; omega) (by omega) ha.bd hb.bd hdn K k1 k2 k3 _ (fun _ => rfl) (fun e => by omega)).mono fun e w' ⟨he, hu⟩ => ⟨_, he, ?_, hu⟩
    exact .inr ⟨sep_no (k3 c), _, rfl, k3 c, hn _ (Gx.g_mem c)⟩
  · have e : K = ds.length := by omega
    refine (p_firstLine ga oa gb ob g 0 a b ds ca cb cap W h1.pts h2.pts hA.pts ha.pos hb.pos (by have := ha.len; omega) (by have := hb.len; omega) (by omega) ha.bd hb.bd hdn K k1 k2 k3 _ (fun _ => by omega) (fun _ => rfl)).mono fun e w' ⟨he, hu⟩ => ⟨_, he, ?_, hu⟩
    refine .inl ⟨?_, rfl⟩
    by_cases d : Gx.Diffs a b (0, 0)
    · exact d
    · exfalso
      obtain ⟨n, hm, hs⟩ := hex d
      obtain ⟨i, hi, rfl⟩ := Gx.mem_g hm
      have := k2 i (by omega)
      rw [hs] at this
      cases this
theorem p_Part {a b : Pl} (ha : HV a) (hb : HV b) {ga oa ca gb ob cb : Nat} (w : World) (h1 : At w ga oa ca a) (h2 : At w gb ob cb b) :
    Calls Try.prog 26 #[.slice (some ⟨ga, oa, none⟩) a.length ca, .slice (some ⟨gb, ob, none⟩) b.length cb] w fun e w' => ∃ r, e = .returned r ∧ PartIs a b r ∧ Up w w' := by
  have PC : ∀ (B : Nat) (W : World), Up w W → W.cell? ⟨B, 0, none⟩ = some (.slice (some ⟨ga, oa, none⟩) a.length ca) → W.cell? ⟨B, 1, none⟩ = some (.slice (some ⟨gb, ob, none⟩) b.length cb) → Calls Try.prog 37 #[.slice (some ⟨B, 0, none⟩) 2 2] W fun e w' => e = .returned (.int .i64 0) ∧ Up W w' :=
    fun B W hu k1 k2 => p_chk2 ha hb B W (h1.up hu) (h2.up hu) k1 k2
  have PD : ∀ W, Up w W → Calls Try.prog 50 #[.slice (some ⟨ga, oa, none⟩) a.length ca, .slice (some ⟨gb, ob, none⟩) b.length cb] W fun e w' => ∃ v, e = .returned v ∧ DiffAt W a b v w' := fun W hu => p_diff ha hb W (h1.up hu) (h2.up hu)
  have PO : ∀ (W0 W : World) (v : Value), DiffAt W0 a b v W → Calls Try.prog 59 #[v] W fun e w' => ∃ v, e = .returned v ∧ OutAt a b W v w' := fun W0 W v hD => p_out ha hb hD
  have PL : ∀ (W0 W : World) (v : Value), Up w W → OutAt a b W0 v W → Calls Try.prog 58 #[.slice (some ⟨ga, oa, none⟩) a.length ca, .slice (some ⟨gb, ob, none⟩) b.length cb, v] W fun e w' => ∃ r, e = .returned r ∧ LineIs a b r ∧ Up W w' := fun W0 W v hu hO => p_line ha hb (h1.up hu) (h2.up hu) hO
  have HPC := hide PC
  have HPD := hide PD
  have HPO := hide PO
  obtain ⟨n1, e1⟩ : ∃ n, a.length = n := ⟨_, rfl⟩
  obtain ⟨n2, e2⟩ : ∃ n, b.length = n := ⟨_, rfl⟩
  rw [e1] at HPC HPD PL ⊢
  rw [e2] at HPC HPD PL ⊢
  have B0 := bx_new w [.int .i64 0, .int .i64 0, .int .i64 0] 39
  have HB0 := hide B0
  clear PC PD PO h1 h2 e1 e2 B0
  by_cases d : Gx.Diffs a b (0, 0)
  · have PL' : ∀ (W0 W : World) (v : Value), Up w W → OutAt a b W0 v W → Calls Try.prog 58 #[.slice (some ⟨ga, oa, none⟩) n1 ca, .slice (some ⟨gb, ob, none⟩) n2 cb, v] W fun e w' => e = .returned (.tuple #[ln 0 0 0, .bool false]) ∧ Up W w' := fun W0 W v hu hO =>
      (PL W0 W v hu hO).mono fun e w' ⟨r, he, hL, hup⟩ => ⟨by rw [he]; rcases hL with ⟨_, rfl⟩ | ⟨h, _⟩; rfl; exact absurd d h, hup⟩
    have HPL := hide PL'
    have HR : Hid (PartIs a b (.tuple #[ln 0 0 0, .int .i64 5])) := hide (.inl ⟨d, rfl⟩)
    clear PL PL' d
    go_enter Try.func26, Try.ntmps26
    go_wp2_with (first
      | (go_at_call 37; (with_reducible refine (unhide HPC _ _ (by repeat' (first | (with_reducible exact up_refl _) | (with_reducible assumption) | (with_reducible refine up_alloc ?_ _) | (with_reducible refine up_drewN ?_ _) | (with_reducible refine up_drew ?_) | (with_reducible refine up_set ?_ (by first | (simp; done) | (simp; omega) | omega) _) | (refine up_trans ?_ (by with_reducible assumption)))) ?_ ?_).mono ?_); (· go_cell); (· go_cell); rintro e w1 ⟨rfl, hb1⟩)
      | (go_at_call 50; (with_reducible refine (unhide HPD _ (by repeat' (first | (with_reducible exact up_refl _) | (with_reducible assumption) | (with_reducible refine up_alloc ?_ _) | (with_reducible refine up_drewN ?_ _) | (with_reducible refine up_drew ?_) | (with_reducible refine up_set ?_ (by first | (simp; done) | (simp; omega) | omega) _) | (refine up_trans ?_ (by with_reducible assumption))))).mono ?_); rintro e w2 ⟨v, rfl, hD⟩; have HD := hide hD; have hu2 : Up w1 w2 := hD.choose_spec.choose_spec.choose_spec.2.2.2.2.2.2; clear hD)
      | (go_at_call 59; (with_reducible refine (unhide HPO _ _ _ (unhide HD)).mono ?_); rintro e w3 ⟨v3, rfl, hO⟩; have HO := hide hO; have hu3 : Up w2 w3 := hO.choose_spec.choose_spec.choose_spec.2.2.2.2.2; clear hO)
      | (go_at_call 58; (with_reducible refine (unhide HPL _ _ _ (by repeat' (first | (with_reducible exact up_refl _) | (with_reducible assumption) | (with_reducible refine up_alloc ?_ _) | (with_reducible refine up_drewN ?_ _) | (with_reducible refine up_drew ?_) | (with_reducible refine up_set ?_ (by first | (simp; done) | (simp; omega) | omega) _) | (refine up_trans ?_ (by with_reducible assumption)))) (unhide HO)).mono ?_); rintro e w4 ⟨rfl, hb4⟩; have hu4 : Up (w.alloc (.cells #[.int .i64 0, .int .i64 0, .int .i64 0] 39)) w4 := (by repeat' (first | (with_reducible exact up_refl _) | (with_reducible assumption) | (with_reducible refine up_alloc ?_ _) | (with_reducible refine up_drewN ?_ _) | (with_reducible refine up_drew ?_) | (with_reducible refine up_set ?_ (by first | (simp; done) | (simp; omega) | omega) _) | (refine up_trans ?_ (by with_reducible assumption)))); have B := bx_up (unhide HB0) hu4; have z0 := (bx3 B).1; have z1 := (bx3 B).2.1; have z2 := (bx3 B).2.2; have z3 := (bxf3 B).1; have z4 := (bxf3 B).2.1; have z5 := (bxf3 B).2.2; clear B; have y0 := alloc_cell (.cells #[.int .i64 0, .int .i64 0, .int .i64 0] 39) z0; have y1 := alloc_cell (.cells #[.int .i64 0, .int .i64 0, .int .i64 0] 39) z1; have y2 := alloc_cell (.cells #[.int .i64 0, .int .i64 0, .int .i64 0] 39) z2; have y3 := alloc_frozen (.cells #[.int .i64 0, .int .i64 0, .int .i64 0] 39) z0 z3; have y4 := alloc_frozen (.cells #[.int .i64 0, .int .i64 0, .int .i64 0] 39) z1 z4; have y5 := alloc_frozen (.cells #[.int .i64 0, .int .i64 0, .int .i64 0] 39) z2 z5))
    exact bodyPost_ret (v := .tuple #[ln 0 0 0, .int .i64 5]) (by simp [results, Try.results26, go_sem, *]) rfl ⟨_, rfl, unhide HR, (by repeat' (first | (with_reducible exact up_refl _) | (with_reducible assumption) | (with_reducible refine up_alloc ?_ _) | (with_reducible refine up_drewN ?_ _) | (with_reducible refine up_drew ?_) | (with_reducible refine up_set ?_ (by first | (simp; done) | (simp; omega) | omega) _) | (refine up_trans ?_ (by with_reducible assumption))))⟩
  · have PL' : ∀ (W0 W : World) (v : Value), Up w W → OutAt a b W0 v W → Calls Try.prog 58 #[.slice (some ⟨ga, oa, none⟩) n1 ca, .slice (some ⟨gb, ob, none⟩) n2 cb, v] W fun e w' => ∃ x y k : Int, e = .returned (.tuple #[ln x y k, .bool true]) ∧ PartIs a b (.tuple #[ln x y k, .int .i64 0]) ∧ Up W w' := fun W0 W v hu hO =>
      (PL W0 W v hu hO).mono fun e w' ⟨r, he, hL, hup⟩ => by
        rcases hL with ⟨h, _⟩ | ⟨_, n, rfl, h3, h4⟩
        · exact absurd h d
        · exact ⟨n.1, n.2, hiV a n, he, .inr ⟨d, n, rfl, h3, h4⟩, hup⟩
    have HPL := hide PL'
    clear PL PL' d
    go_enter Try.func26, Try.ntmps26
    go_wp2_with (first
      | (go_at_call 37; (with_reducible refine (unhide HPC _ _ (by repeat' (first | (with_reducible exact up_refl _) | (with_reducible assumption) | (with_reducible refine up_alloc ?_ _) | (with_reducible refine up_drewN ?_ _) | (with_reducible refine up_drew ?_) | (with_reducible refine up_set ?_ (by first | (simp; done) | (simp; omega) | omega) _) | (refine up_trans ?_ (by with_reducible assumption)))) ?_ ?_).mono ?_); (· go_cell); (· go_cell); rintro e w1 ⟨rfl, hb1⟩)
      | (go_at_call 50; (with_reducible refine (unhide HPD _ (by repeat' (first | (with_reducible exact up_refl _) | (with_reducible assumption) | (with_reducible refine up_alloc ?_ _) | (with_reducible refine up_drewN ?_ _) | (with_reducible refine up_drew ?_) | (with_reducible refine up_set ?_ (by first | (simp; done) | (simp; omega) | omega) _) | (refine up_trans ?_ (by with_reducible assumption))))).mono ?_); rintro e w2 ⟨v, rfl, hD⟩; have HD := hide hD; have hu2 : Up w1 w2 := hD.choose_spec.choose_spec.choose_spec.2.2.2.2.2.2; clear hD)
      | (go_at_call 59; (with_reducible refine (unhide HPO _ _ _ (unhide HD)).mono ?_); rintro e w3 ⟨v3, rfl, hO⟩; have HO := hide hO; have hu3 : Up w2 w3 := hO.choose_spec.choose_spec.choose_spec.2.2.2.2.2; clear hO)
      | (go_at_call 58; (with_reducible refine (unhide HPL _ _ _ (by repeat' (first | (with_reducible exact up_refl _) | (with_reducible assumption) | (with_reducible refine up_alloc ?_ _) | (with_reducible refine up_drewN ?_ _) | (with_reducible refine up_drew ?_) | (with_reducible refine up_set ?_ (by first | (simp; done) | (simp; omega) | omega) _) | (refine up_trans ?_ (by with_reducible assumption)))) (unhide HO)).mono ?_); rintro e w4 ⟨x, y, k, rfl, hL, hb4⟩; have HR := hide hL; clear hL; have hu4 : Up (w.alloc (.cells #[.int .i64 0, .int .i64 0, .int .i64 0] 39)) w4 := (by repeat' (first | (with_reducible exact up_refl _) | (with_reducible assumption) | (with_reducible refine up_alloc ?_ _) | (with_reducible refine up_drewN ?_ _) | (with_reducible refine up_drew ?_) | (with_reducible refine up_set ?_ (by first | (simp; done) | (simp; omega) | omega) _) | (refine up_trans ?_ (by with_reducible assumption)))); have B := bx_up (unhide HB0) hu4; have z0 := (bx3 B).1; have z1 := (bx3 B).2.1; have z2 := (bx3 B).2.2; have z3 := (bxf3 B).1; have z4 := (bxf3 B).2.1; have z5 := (bxf3 B).2.2; clear B; have y0 := alloc_cell (.cells #[.int .i64 x, .int .i64 y, .int .i64 k] 39) z0; have y1 := alloc_cell (.cells #[.int .i64 x, .int .i64 y, .int .i64 k] 39) z1; have y2 := alloc_cell (.cells #[.int .i64 x, .int .i64 y, .int .i64 k] 39) z2; have y3 := alloc_frozen (.cells #[.int .i64 x, .int .i64 y, .int .i64 k] 39) z0 z3; have y4 := alloc_frozen (.cells #[.int .i64 x, .int .i64 y, .int .i64 k] 39) z1 z4; have y5 := alloc_frozen (.cells #[.int .i64 x, .int .i64 y, .int .i64 k] 39) z2 z5))
    exact bodyPost_ret (v := .tuple #[ln x y k, .int .i64 0]) (by simp [results, Try.results26, go_sem, *]) rfl ⟨_, rfl, unhide HR, (by repeat' (first | (with_reducible exact up_refl _) | (with_reducible assumption) | (with_reducible refine up_alloc ?_ _) | (with_reducible refine up_drewN ?_ _) | (with_reducible refine up_drew ?_) | (with_reducible refine up_set ?_ (by first | (simp; done) | (simp; omega) | omega) _) | (refine up_trans ?_ (by with_reducible assumption))))⟩
end Go.Proofs.Ytihckoenfklhpaa
