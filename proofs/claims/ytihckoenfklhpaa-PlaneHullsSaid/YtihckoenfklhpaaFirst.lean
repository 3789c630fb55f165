/- How far a hull reaches in a direction. The first direction that parts two hulls. -/
import Derived.Test.YtihckoenfklhpaaOpp
namespace Go.Proofs.Ytihckoenfklhpaa
open Go.RowKit Go.Proofs.Gn
def dt2 (p n : Int × Int) : Int := p.1 * n.1 + p.2 * n.2
/-- How far the first k points reach. -/
def hiK (h : Pl) (n : Int × Int) (k : Nat) : Int := (h.take k).foldl (fun m p => if dt2 p n > m then dt2 p n else m) (dt2 (Gx.g h 0) n)
def hiV (h : Pl) (n : Int × Int) : Int := hiK h n h.length
def loV (h : Pl) (n : Int × Int) : Int := - hiV h (Gx.ng n)
theorem hiK_zero (h : Pl) (n : Int × Int) : hiK h n 0 = dt2 (Gx.g h 0) n := rfl
theorem hiK_succ {h : Pl} (n : Int × Int) {k : Nat} (hk : k < h.length) : hiK h n (k + 1) = if dt2 (Gx.g h k) n > hiK h n k then dt2 (Gx.g h k) n else hiK h n k := by
  unfold hiK
  rw [List.take_succ_eq_append_getElem hk, List.foldl_append, ← Gx.g_eq hk]
  rfl
theorem hiK_ge {h : Pl} (n : Int × Int) : ∀ k, k ≤ h.length → ∀ i, i < k → dt2 (Gx.g h i) n ≤ hiK h n k
  | 0, _, i, hi => by omega
  | k + 1, hk, i, hi => by
    rw [hiK_succ n (show k < h.length by omega)]
    rcases Nat.lt_or_ge i k with c | c
    · have := hiK_ge (h := h) n k (by omega) i c
      split <;> omega
    · obtain rfl : i = k := by omega
      split <;> omega
theorem hiK_at {h : Pl} (h0 : 0 < h.length) (n : Int × Int) : ∀ k, k ≤ h.length → ∃ p ∈ h, hiK h n k = dt2 p n
  | 0, _ => ⟨_, Gx.g_mem h0, rfl⟩
  | k + 1, hk => by
    obtain ⟨p, hp, e⟩ := hiK_at h0 n k (by omega)
    rw [hiK_succ n (show k < h.length by omega)]
    split
    · exact ⟨_, Gx.g_mem (by omega), rfl⟩
    · exact ⟨p, hp, e⟩
theorem hiV_ge {h : Pl} (n : Int × Int) {p : Int × Int} (hp : p ∈ h) : dt2 p n ≤ hiV h n := by
  obtain ⟨i, hi, rfl⟩ := Gx.mem_g hp
  exact hiK_ge n _ (Nat.le_refl _) i hi
theorem hiV_at {h : Pl} (h0 : 0 < h.length) (n : Int × Int) : ∃ p ∈ h, hiV h n = dt2 p n := hiK_at h0 n _ (Nat.le_refl _)
theorem dt2_ng (p n : Int × Int) : dt2 p (Gx.ng n) = - dt2 p n := by unfold dt2 Gx.ng; simp only [Int.mul_neg]; omega
theorem loV_le {h : Pl} (n : Int × Int) {p : Int × Int} (hp : p ∈ h) : loV h n ≤ dt2 p n := by
  have := hiV_ge (Gx.ng n) hp
  rw [dt2_ng] at this
  unfold loV
  omega
theorem loV_at {h : Pl} (h0 : 0 < h.length) (n : Int × Int) : ∃ p ∈ h, loV h n = dt2 p n := by
  obtain ⟨p, hp, e⟩ := hiV_at h0 (Gx.ng n)
  rw [dt2_ng] at e
  exact ⟨p, hp, by unfold loV; omega⟩
/-- Small enough for a direction. -/
def Dn (n : Int × Int) : Prop := (-268435456 ≤ n.1 ∧ n.1 ≤ 268435456) ∧ (-268435456 ≤ n.2 ∧ n.2 ≤ 268435456)
theorem dt2_bd {p n : Int × Int} (hp : Bd p.1 ∧ Bd p.2) (hn : Dn n) : (-72057594037927936 ≤ p.1 * n.1 ∧ p.1 * n.1 ≤ 72057594037927936) ∧ (-72057594037927936 ≤ p.2 * n.2 ∧ p.2 * n.2 ≤ 72057594037927936) := by
  unfold Bd Dn at *
  have := crs_bd (u := p) (v := (n.2, n.1)) (by omega) (by omega) (by simp only; omega) (by simp only; omega)
  exact this
theorem hiK_bd {h : Pl} (h0 : 0 < h.length) (hb : BdL h) {n : Int × Int} (hn : Dn n) (k : Nat) (hk : k ≤ h.length) : -144115188075855872 ≤ hiK h n k ∧ hiK h n k ≤ 144115188075855872 := by
  obtain ⟨p, hp, e⟩ := hiK_at h0 n k hk
  have := dt2_bd (hb p hp) hn
  rw [e]
  unfold dt2
  omega
set_option maxRecDepth 100000 in
set_option maxHeartbeats 4000000 in
theorem p_highest (b off : Nat) (h : Pl) (cap : Nat) (n1 n2 : Int) (w : World) (hc : ∀ k (hk : k < h.length), w.cell? ⟨b, off + k * 2, none⟩ = some (.int .i64 h[k].1) ∧ w.cell? ⟨b, off + k * 2 + 1, none⟩ = some (.int .i64 h[k].2)) (h0 : 0 < h.length) (hlen : h.length ≤ 70000) (hb : BdL h) (hn : Dn (n1, n2)) :
    Calls Try.prog 55 #[.slice (some ⟨b, off, none⟩) h.length cap, pt n1 n2] w fun e w' => e = .returned (.int .i64 (hiV h (n1, n2))) ∧ Up w w' := by
  have PD : ∀ (k : Nat) (W : World), k < h.length → Calls Try.prog 83 #[pt (Gx.g h k).1 (Gx.g h k).2, pt n1 n2] W fun e w' => e = .returned (.int .i64 (dt2 (Gx.g h k) (n1, n2))) ∧ Up W w' := fun k W hk => by
    have := dt2_bd (hb _ (Gx.g_mem hk)) hn
    simp only at this
    exact p_dot _ _ n1 n2 W (by omega) (by omega) (by omega) (by omega)
  have HPD := hide PD
  have HC := hide hc
  unfold hiV
  obtain ⟨N, hN⟩ : ∃ n, h.length = n := ⟨_, rfl⟩
  rw [hN] at h0 hlen HPD ⊢
  have HN := hide hN
  obtain ⟨x0, x1⟩ := pts_g hc (k := 0) (by omega)
  have PD0 := fun W => PD 0 W (by omega)
  have hz := hiK_zero h (n1, n2)
  obtain ⟨X, hX⟩ : ∃ X, Gx.g h 0 = X := ⟨_, rfl⟩
  rw [hX] at x0 x1 PD0 hz
  obtain ⟨p1, p2⟩ := X
  simp only [Nat.zero_mul, Nat.add_zero] at x0 x1 PD0
  obtain ⟨V, hV⟩ : ∃ V, dt2 (p1, p2) (n1, n2) = V := ⟨_, rfl⟩
  rw [hV] at PD0 hz
  have HZ := hide hz
  have HPD0 := hide PD0
  have hn' : (0 : Int) < (N : Int) := by omega
  clear hc PD hN hX hV hz PD0 hb
  go_enter Try.func55, Try.ntmps55
  go_upto_region 1 with fail
  go_cut [5] (fun s wx => s = .int .i64 V ∧ Up (w.alloc (.cells #[.int .i64 n1, .int .i64 n2] 24)) wx)
  case first => as_aux_lemma =>
    have B := bx_new w [.int .i64 n1, .int .i64 n2] 24
    have m0 : ∀ p : UpW (w.alloc (.cells #[.int .i64 n1, .int .i64 n2] 24)), p.v.cell? ⟨w.heap.size, 0, none⟩ = some (.int .i64 n1) := fun p => (bx2 (bx_up B p.up)).1
    have m1 : ∀ p : UpW (w.alloc (.cells #[.int .i64 n1, .int .i64 n2] 24)), p.v.cell? ⟨w.heap.size, 1, none⟩ = some (.int .i64 n2) := fun p => (bx2 (bx_up B p.up)).2
    have m2 : ∀ p : UpW (w.alloc (.cells #[.int .i64 n1, .int .i64 n2] 24)), p.v.cell? ⟨b, off, none⟩ = some (.int .i64 p1) := fun p => up_cell p.up (alloc_cell _ x0)
    have m3 : ∀ p : UpW (w.alloc (.cells #[.int .i64 n1, .int .i64 n2] 24)), p.v.cell? ⟨b, off + 1, none⟩ = some (.int .i64 p2) := fun p => up_cell p.up (alloc_cell _ x1)
    clear B
    refine wp_upq (by kernel_rfl) (by kernel_rfl) ?_; (repeat (go_big_quiet_step ((go_at_call 83; exact upq (unhide HPD0 _))))); refine wpQuiet_nil ?_; intro _ hw'; obtain ⟨pq, hw''⟩ := hw'; subst hw''; have hpq := pq.up
    go_wp2_with fail
    go_meet
    exact ⟨rfl, hpq⟩
  case rest =>
  obtain ⟨rfl, hu⟩ := hcut
  rw [← unhide HZ]
  clear x0 x1 HZ HPD0
  go_wp2_with fail
  go_loopw [5, 15] (fun s5 s15 wr => ∃ k : Nat, k ≤ N ∧ s15 = .int .i64 k ∧ s5 = .int .i64 (hiK h (n1, n2) k) ∧ Up (w.alloc (.cells #[.int .i64 n1, .int .i64 n2] 24)) wr) (fun _ s15 _ => N - (intOf s15).toNat)
  case atStart => exact ⟨0, Nat.zero_le _, rfl, rfl, hu⟩
  case round =>
    clear hu
    obtain ⟨k, hk, rfl, rfl, hu⟩ := hrel
    by_cases hlt : k < N
    · have l1 : k < h.length := by rw [unhide HN]; exact hlt
      obtain ⟨x0, x1⟩ := pts_g (unhide HC) l1
      have hs := hiK_succ (n1, n2) l1
      have PD := fun W => unhide HPD k W hlt
      obtain ⟨X, hX⟩ : ∃ X, Gx.g h k = X := ⟨_, rfl⟩
      rw [hX] at x0 x1 hs PD
      obtain ⟨p1, p2⟩ := X
      simp only at x0 x1 PD
      have c0 := up_cell hu (alloc_cell _ x0)
      have c1 := up_cell hu (alloc_cell _ x1)
      have B := bx_up (bx_new w [.int .i64 n1, .int .i64 n2] 24) hu
      obtain ⟨V, hV⟩ : ∃ V, dt2 (p1, p2) (n1, n2) = V := ⟨_, rfl⟩
      obtain ⟨M, hM⟩ : ∃ V, hiK h (n1, n2) k = V := ⟨_, rfl⟩
      obtain ⟨M', hM'⟩ : ∃ V, hiK h (n1, n2) (k + 1) = V := ⟨_, rfl⟩
      rw [hV] at PD
      rw [hV, hM, hM'] at hs
      rw [hM]
      have HM := hide hM'
      have r1 := fun (ts : Array TypeId) (t : TypeId) (W : World) => (show (Builtin.max_ ts t #[.int .i64 M, .int .i64 V]).run Try.prog W = .ok (.int .i64 M') W by rw [run_max_int2, hs])
      have HPD2 := hide PD
      have b0 := alloc_cell (.cells #[.int .i64 p1, .int .i64 p2] 24) (bx2 B).1
      have b1 := alloc_cell (.cells #[.int .i64 p1, .int .i64 p2] 24) (bx2 B).2
      have k1 : (k : Int) < (N : Int) := by omega
      clear x0 x1 hs PD hX hV hM hM' B
      go_wp2_with (go_at_call 83; (with_reducible refine (unhide HPD2 _).mono ?_); rintro e w2 ⟨rfl, hb2⟩)
      first
        | exact ⟨⟨k + 1, by omega, by go_num, by rw [unhide HM], up_trans (up_alloc hu _) hb2⟩, by simp [intOf]; omega⟩
        | (go_roundw; (case rel => exact ⟨k + 1, by omega, by go_num, by rw [unhide HM], up_trans (up_alloc hu _) hb2⟩); (case measure => simp [intOf]; omega))
    · obtain rfl : k = N := by omega
      have k1 : ¬ (k : Int) < (k : Int) := by omega
      go_wp2_with fail
      go_ret
      exact ⟨rfl, up_trans (up_alloc (up_refl _) _) hu⟩
theorem p_lowest (b off : Nat) (h : Pl) (cap : Nat) (n1 n2 : Int) (w : World) (hc : ∀ k (hk : k < h.length), w.cell? ⟨b, off + k * 2, none⟩ = some (.int .i64 h[k].1) ∧ w.cell? ⟨b, off + k * 2 + 1, none⟩ = some (.int .i64 h[k].2)) (h0 : 0 < h.length) (hlen : h.length ≤ 70000) (hb : BdL h) (hn : Dn (n1, n2)) :
    Calls Try.prog 56 #[.slice (some ⟨b, off, none⟩) h.length cap, pt n1 n2] w fun e w' => e = .returned (.int .i64 (loV h (n1, n2))) ∧ Up w w' := by
  have en : Gx.ng (n1, n2) = (0 - n1, 0 - n2) := by unfold Gx.ng; simp
  have hn2 : Dn (0 - n1, 0 - n2) := by unfold Dn at *; simp only at *; omega
  have PH : ∀ W, Up w W → Calls Try.prog 55 #[.slice (some ⟨b, off, none⟩) h.length cap, pt (0 - n1) (0 - n2)] W fun e w' => e = .returned (.int .i64 (hiV h (0 - n1, 0 - n2))) ∧ Up W w' := fun W hu =>
    p_highest b off h cap _ _ W (fun k hk => ⟨up_cell hu (hc k hk).1, up_cell hu (hc k hk).2⟩) h0 hlen hb hn2
  have hB := hiK_bd h0 hb hn2 h.length (Nat.le_refl _)
  unfold loV
  rw [en]
  unfold hiV at PH ⊢
  obtain ⟨V, hV⟩ : ∃ V, hiK h (0 - n1, 0 - n2) h.length = V := ⟨_, rfl⟩
  rw [hV] at PH hB ⊢
  have PM : ∀ W : World, Calls Try.prog 80 #[pt 0 0, pt n1 n2] W fun e w' => e = .returned (pt (0 - n1) (0 - n2)) ∧ Up W w' := fun W => by
    unfold Dn at hn
    simp only at hn
    exact p_minus 0 0 n1 n2 W (by omega) (by omega) (by omega) (by omega)
  obtain ⟨u1, hu1⟩ : ∃ u, 0 - n1 = u := ⟨_, rfl⟩
  obtain ⟨u2, hu2⟩ : ∃ u, 0 - n2 = u := ⟨_, rfl⟩
  rw [hu1, hu2] at PM PH
  have HPH := hide PH
  have HPM := hide PM
  have n0 : IntKind.i64.wrap (-V) = -V := IntWalk.i64_in _ ⟨by omega, by omega⟩
  clear en hn2 PH PM hV hc hb hn hu1 hu2
  go_enter Try.func56, Try.ntmps56
  go_wp2_with (first
    | (go_at_call 80; (with_reducible refine (unhide HPM _).mono ?_); rintro e w1 ⟨rfl, hb1⟩)
    | (go_at_call 55; (with_reducible refine (unhide HPH _ (by repeat' (first | (with_reducible exact up_refl _) | (with_reducible assumption) | (with_reducible refine up_alloc ?_ _) | (with_reducible refine up_drewN ?_ _) | (with_reducible refine up_drew ?_) | (with_reducible refine up_set ?_ (by first | (simp; done) | (simp; omega) | omega) _) | (refine up_trans ?_ (by with_reducible assumption))))).mono ?_); rintro e w2 ⟨rfl, hb2⟩))
  go_ret
  exact ⟨rfl, (by repeat' (first | (with_reducible exact up_refl _) | (with_reducible assumption) | (with_reducible refine up_alloc ?_ _) | (with_reducible refine up_drewN ?_ _) | (with_reducible refine up_drew ?_) | (with_reducible refine up_set ?_ (by first | (simp; done) | (simp; omega) | omega) _) | (refine up_trans ?_ (by with_reducible assumption))))⟩
end Go.Proofs.Ytihckoenfklhpaa
namespace Go.Proofs.Ytihckoenfklhpaa
open Go.RowKit Go.Proofs.Gn
/-- Is all of a behind all of b, in this direction? -/
def sepB (a b : Pl) (n : Int × Int) : Bool := decide (hiV a n < loV b n)
abbrev ln (x y k : Int) : Value := .agg #[.int .i64 x, .int .i64 y, .int .i64 k]
theorem hiV_bd {h : Pl} (h0 : 0 < h.length) (hb : BdL h) {n : Int × Int} (hn : Dn n) : -144115188075855872 ≤ hiV h n ∧ hiV h n ≤ 144115188075855872 := hiK_bd h0 hb hn _ (Nat.le_refl _)
set_option maxRecDepth 100000 in
set_option maxHeartbeats 4000000 in
theorem p_firstLine (ba oa bb ob g o : Nat) (a b ds : Pl) (ca cb cd : Nat) (w : World)
    (hca : ∀ k (h : k < a.length), w.cell? ⟨ba, oa + k * 2, none⟩ = some (.int .i64 a[k].1) ∧ w.cell? ⟨ba, oa + k * 2 + 1, none⟩ = some (.int .i64 a[k].2))
    (hcb : ∀ k (h : k < b.length), w.cell? ⟨bb, ob + k * 2, none⟩ = some (.int .i64 b[k].1) ∧ w.cell? ⟨bb, ob + k * 2 + 1, none⟩ = some (.int .i64 b[k].2))
    (hcd : ∀ k (h : k < ds.length), w.cell? ⟨g, o + k * 2, none⟩ = some (.int .i64 ds[k].1) ∧ w.cell? ⟨g, o + k * 2 + 1, none⟩ = some (.int .i64 ds[k].2))
    (a0 : 0 < a.length) (b0 : 0 < b.length) (la : a.length ≤ 1000) (lb : b.length ≤ 1000) (ld : ds.length ≤ 10000) (hba : BdL a) (hbb : BdL b) (hd : ∀ n ∈ ds, Dn n)
    (K : Nat) (hK : K ≤ ds.length) (hno : ∀ i, i < K → sepB a b (Gx.g ds i) = false) (hyes : K < ds.length → sepB a b (Gx.g ds K) = true)
    (R : Value) (h1 : K < ds.length → .tuple #[ln (Gx.g ds K).1 (Gx.g ds K).2 (hiV a (Gx.g ds K)), .bool true] = R) (h2 : K = ds.length → .tuple #[ln 0 0 0, .bool false] = R) :
    Calls Try.prog 58 #[.slice (some ⟨ba, oa, none⟩) a.length ca, .slice (some ⟨bb, ob, none⟩) b.length cb, .slice (some ⟨g, o, none⟩) ds.length cd] w fun e w' => e = .returned R ∧ Up w w' := by
  have PA : ∀ (n : Int × Int) (W : World), Up w W → Dn n → Calls Try.prog 55 #[.slice (some ⟨ba, oa, none⟩) a.length ca, pt n.1 n.2] W fun e w' => e = .returned (.int .i64 (hiV a n)) ∧ Up W w' := fun n W hu hn =>
    p_highest ba oa a ca n.1 n.2 W (fun k hk => ⟨up_cell hu (hca k hk).1, up_cell hu (hca k hk).2⟩) a0 (by omega) hba hn
  have PB : ∀ (n : Int × Int) (W : World), Up w W → Dn n → Calls Try.prog 56 #[.slice (some ⟨bb, ob, none⟩) b.length cb, pt n.1 n.2] W fun e w' => e = .returned (.int .i64 (loV b n)) ∧ Up W w' := fun n W hu hn =>
    p_lowest bb ob b cb n.1 n.2 W (fun k hk => ⟨up_cell hu (hcb k hk).1, up_cell hu (hcb k hk).2⟩) b0 (by omega) hbb hn
  have HPA := hide PA
  have HPB := hide PB
  have HCD := hide hcd
  have HD := hide hd
  have HNO := hide hno
  have HYES := hide hyes
  have H1 := hide h1
  have H2 := hide h2
  clear PA PB hca hcb hcd hba hbb hd hno hyes h1 h2
  obtain ⟨p, hp⟩ : ∃ n, a.length = n := ⟨_, rfl⟩
  obtain ⟨q, hq⟩ : ∃ n, b.length = n := ⟨_, rfl⟩
  obtain ⟨m, hm⟩ : ∃ n, ds.length = n := ⟨_, rfl⟩
  rw [hp] at a0 la HPA ⊢
  rw [hq] at b0 lb HPB ⊢
  rw [hm] at ld hK HYES H1 H2 ⊢
  have HM := hide hm
  clear hp hq hm
  go_enter Try.func58, Try.ntmps58
  go_wp2_with fail
  go_loopw [13] (fun s13 wr => ∃ k : Nat, k ≤ K ∧ s13 = .int .i64 k ∧ Up (w.alloc (.cells #[.int .i64 0, .int .i64 0, .int .i64 0] 39)) wr) (fun s13 _ => m - (intOf s13).toNat)
  case atStart => exact ⟨0, Nat.zero_le _, rfl, up_refl _⟩
  case round =>
    obtain ⟨k, hk, rfl, hu⟩ := hrel
    have hU : Up w wr := up_trans (up_alloc (up_refl _) _) hu
    have B := bx_up (bx_new w [.int .i64 0, .int .i64 0, .int .i64 0] 39) hu
    by_cases hlt : k < m
    · have l1 : k < ds.length := by rw [unhide HM]; exact hlt
      obtain ⟨x0, x1⟩ := pts_g (unhide HCD) l1
      have hn := unhide HD _ (Gx.g_mem l1)
      have PA := fun W hW => unhide HPA (Gx.g ds k) W hW hn
      have PB := fun W hW => unhide HPB (Gx.g ds k) W hW hn
      have hs : sepB a b (Gx.g ds k) = decide (hiV a (Gx.g ds k) < loV b (Gx.g ds k)) := rfl
      have hr : k = K → .tuple #[ln (Gx.g ds k).1 (Gx.g ds k).2 (hiV a (Gx.g ds k)), .bool true] = R := fun e => by rw [e]; exact unhide H1 (by omega)
      have hcase : (k < K ∧ sepB a b (Gx.g ds k) = false) ∨ (k = K ∧ sepB a b (Gx.g ds k) = true) := by
        rcases Nat.lt_or_ge k K with c | c
        · exact .inl ⟨c, unhide HNO k c⟩
        · obtain rfl : k = K := by omega
          exact .inr ⟨rfl, unhide HYES hlt⟩
      obtain ⟨X, hX⟩ : ∃ X, Gx.g ds k = X := ⟨_, rfl⟩
      rw [hX] at x0 x1 PA PB hs hr hcase
      obtain ⟨n1, n2⟩ := X
      simp only at x0 x1 PA PB hr
      obtain ⟨V1, hV1⟩ : ∃ V, hiV a (n1, n2) = V := ⟨_, rfl⟩
      obtain ⟨V2, hV2⟩ : ∃ V, loV b (n1, n2) = V := ⟨_, rfl⟩
      rw [hV1] at PA hs hr
      rw [hV2] at PB hs
      have c0 := up_cell hU x0
      have c1 := up_cell hU x1
      have HPA' := hide PA
      have HPB' := hide PB
      have HR := hide hr
      have k1 : (k : Int) < (m : Int) := by omega
      rw [hs] at hcase
      have HB := hide B
      clear x0 x1 PA PB hs hr hn hX hV1 hV2 B
      rcases hcase with ⟨hkK, hsep⟩ | ⟨hkK, hsep⟩
      · have hlt2 : V2 ≤ V1 := by have := of_decide_eq_false hsep; omega
        clear hsep
        go_wp2_with (first
          | (go_at_call 55; (with_reducible refine (unhide HPA' _ (by repeat' (first | (with_reducible exact up_refl _) | (with_reducible assumption) | (with_reducible refine up_alloc ?_ _) | (with_reducible refine up_drewN ?_ _) | (with_reducible refine up_drew ?_) | (with_reducible refine up_set ?_ (by first | (simp; done) | (simp; omega) | omega) _) | (refine up_trans ?_ (by with_reducible assumption))))).mono ?_); rintro e w1 ⟨rfl, hb1⟩; have d0 : w1.cell? ⟨wr.heap.size, 0, none⟩ = some (.int .i64 n1) := up_cell hb1 (by go_cell); have d1 : w1.cell? ⟨wr.heap.size, 1, none⟩ = some (.int .i64 n2) := up_cell hb1 (by go_cell))
          | (go_at_call 56; (with_reducible refine (unhide HPB' _ (by repeat' (first | (with_reducible exact up_refl _) | (with_reducible assumption) | (with_reducible refine up_alloc ?_ _) | (with_reducible refine up_drewN ?_ _) | (with_reducible refine up_drew ?_) | (with_reducible refine up_set ?_ (by first | (simp; done) | (simp; omega) | omega) _) | (refine up_trans ?_ (by with_reducible assumption))))).mono ?_); rintro e w2 ⟨rfl, hb2⟩))
        first
          | exact ⟨⟨k + 1, by omega, by go_num, (by repeat' (first | (with_reducible exact up_refl _) | (with_reducible assumption) | (with_reducible refine up_alloc ?_ _) | (with_reducible refine up_drewN ?_ _) | (with_reducible refine up_drew ?_) | (with_reducible refine up_set ?_ (by first | (simp; done) | (simp; omega) | omega) _) | (refine up_trans ?_ (by with_reducible assumption))))⟩, by simp [intOf]; omega⟩
          | (go_roundw; (case rel => exact ⟨k + 1, by omega, by go_num, (by repeat' (first | (with_reducible exact up_refl _) | (with_reducible assumption) | (with_reducible refine up_alloc ?_ _) | (with_reducible refine up_drewN ?_ _) | (with_reducible refine up_drew ?_) | (with_reducible refine up_set ?_ (by first | (simp; done) | (simp; omega) | omega) _) | (refine up_trans ?_ (by with_reducible assumption))))⟩); (case measure => simp [intOf]; omega))
      · have hlt2 : V1 < V2 := of_decide_eq_true hsep
        have HKK := hide hkK
        clear hkK hsep
        go_wp2_with (first
          | (go_at_call 55; (with_reducible refine (unhide HPA' _ (by repeat' (first | (with_reducible exact up_refl _) | (with_reducible assumption) | (with_reducible refine up_alloc ?_ _) | (with_reducible refine up_drewN ?_ _) | (with_reducible refine up_drew ?_) | (with_reducible refine up_set ?_ (by first | (simp; done) | (simp; omega) | omega) _) | (refine up_trans ?_ (by with_reducible assumption))))).mono ?_); rintro e w1 ⟨rfl, hb1⟩; have d0 : w1.cell? ⟨wr.heap.size, 0, none⟩ = some (.int .i64 n1) := up_cell hb1 (by go_cell); have d1 : w1.cell? ⟨wr.heap.size, 1, none⟩ = some (.int .i64 n2) := up_cell hb1 (by go_cell))
          | (go_at_call 56; (with_reducible refine (unhide HPB' _ (by repeat' (first | (with_reducible exact up_refl _) | (with_reducible assumption) | (with_reducible refine up_alloc ?_ _) | (with_reducible refine up_drewN ?_ _) | (with_reducible refine up_drew ?_) | (with_reducible refine up_set ?_ (by first | (simp; done) | (simp; omega) | omega) _) | (refine up_trans ?_ (by with_reducible assumption))))).mono ?_); rintro e w2 ⟨rfl, hb2⟩; have f0 := up_cell hb2 d0; have f1 := up_cell hb2 d1; have hu2 : Up wr w2 := (by repeat' (first | (with_reducible exact up_refl _) | (with_reducible assumption) | (with_reducible refine up_alloc ?_ _) | (with_reducible refine up_drewN ?_ _) | (with_reducible refine up_drew ?_) | (with_reducible refine up_set ?_ (by first | (simp; done) | (simp; omega) | omega) _) | (refine up_trans ?_ (by with_reducible assumption)))); have B2 := bx_up (unhide HB) hu2; have q0 := (bx3 B2).1; have q1 := (bx3 B2).2.1; have q2 := (bx3 B2).2.2; have q3 := (bxf3 B2).1; have q4 := (bxf3 B2).2.1; have q5 := (bxf3 B2).2.2; clear B2))
        exact bodyPost_ret (v := .tuple #[ln n1 n2 V1, .bool true]) (by simp [results, Try.results58, go_sem, *]) rfl ⟨by rw [unhide HR (unhide HKK)], (by repeat' (first | (with_reducible exact up_refl _) | (with_reducible assumption) | (with_reducible refine up_alloc ?_ _) | (with_reducible refine up_drewN ?_ _) | (with_reducible refine up_drew ?_) | (with_reducible refine up_set ?_ (by first | (simp; done) | (simp; omega) | omega) _) | (refine up_trans ?_ (by with_reducible assumption))))⟩
    · obtain rfl : k = m := by omega
      have HR := hide (unhide H2 (show K = k by omega))
      have q0 := (bx3 B).1; have q1 := (bx3 B).2.1; have q2 := (bx3 B).2.2; have q3 := (bxf3 B).1; have q4 := (bxf3 B).2.1; have q5 := (bxf3 B).2.2
      have k1 : ¬ (k : Int) < (k : Int) := by omega
      clear B
      go_wp2_with fail
      exact bodyPost_ret (v := .tuple #[ln 0 0 0, .bool false]) (by simp [results, Try.results58, go_sem, *]) rfl ⟨by rw [unhide HR], (by repeat' (first | (with_reducible exact up_refl _) | (with_reducible assumption) | (with_reducible refine up_alloc ?_ _) | (with_reducible refine up_drewN ?_ _) | (with_reducible refine up_drew ?_) | (with_reducible refine up_set ?_ (by first | (simp; done) | (simp; omega) | omega) _) | (refine up_trans ?_ (by with_reducible assumption))))⟩
end Go.Proofs.Ytihckoenfklhpaa
