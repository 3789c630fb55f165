/- BridgeWears: the law's function returns true. -/
import Derived.Test.YtkaabmanbefknaaRBrCF
import Derived.OwnWalk
import Derived.Deep.Cut
import Derived.Deep.DeepCutAuto
namespace Go.Proofs.YtkaabmanbefknaaR
open Go.RowKit Go.Proofs.Gn
set_option linter.unusedVariables false
theorem ctE_n {ts : List (Int × Int)} (h : ctE ts = 0) : 1 ≤ ts.length ∧ ts.length ≤ 64 := by
  obtain ⟨a, b⟩ := trOk_of h
  exact ⟨b, a.1⟩
theorem bx_same6 {W W' : World} {b : Nat} {vs : List Value} (h : Bx W b vs) (e : W'.heap[b]? = W.heap[b]?) : Bx W' b vs := fun i v hi =>
  ⟨(World.cell?_of_block (a := ⟨b, i, none⟩) e).trans (h i v hi).1, by have t := (h i v hi).2; simp only [World.frozen?, e] at t ⊢; exact t⟩
theorem frs_one {W : World} {g : Nat} {x : Int} (h : Bx W g [.int .i64 0, .int .i64 x]) : Frs W (some ⟨g, 0, none⟩) [(0, x)] := .inr ⟨g, 0, rfl, fun k hk => by
  match k, hk with
  | 0, _ => exact ⟨(h 0 _ rfl).1, (h 1 _ rfl).1⟩⟩
theorem tw_facts {P : Pav} {ts : List (Int × Int)} {n : Int} (hl : 1 ≤ P.lf) (hS : 0 ≤ wsF P ts) (h : daE P ts n = 0) (h2 : daE P ts (2 * n) = 0) : daV P ts n ≤ daV P ts (2 * n) ∧ daV P ts (2 * n) ≤ 2 * daV P ts n := by
  obtain ⟨a0, a1, a2, a3⟩ := da_ok h
  obtain ⟨b0, b1, b2, b3⟩ := da_ok h2
  rw [a3, b3]
  have e : wsF P ts * 1000 * (2 * n) = 2 * (wsF P ts * 1000 * n) := by rw [← Int.mul_assoc, Int.mul_comm _ 2, Int.mul_assoc]
  have p : 0 ≤ wsF P ts * 1000 * n := Int.mul_nonneg (by omega) a1.1
  rw [e]
  exact ⟨up6_le (by omega) hl, up6_two hl⟩
theorem mo_facts {P : Pav} {ts : List (Int × Int)} {n : Int} {k : Nat} (hk : k < ts.length) {x : Int} (hp : 1 ≤ P.ld) (hl : 1 ≤ P.lf) (ht : ∀ k (h : k < ts.length), 0 ≤ ts[k].2 ∧ ts[k].2 ≤ 1048576) (h1 : ts[k].2 ≤ x) (h2 : x ≤ 1048576) (h : daE P ts n = 0) (h3 : daE P (ts.set k (ts[k].1, x)) n = 0) : daV P ts n ≤ daV P (ts.set k (ts[k].1, x)) n := by
  obtain ⟨a0, a1, a2, a3⟩ := da_ok h
  obtain ⟨b0, b1, b2, b3⟩ := da_ok h3
  rw [a3, b3]
  have t := wsF_set hp hk ht h1 h2 b2
  exact up6_le (Int.mul_le_mul_of_nonneg_right (by omega) a1.1) hl
theorem le_facts {P : Pav} {ts : List (Int × Int)} {n d : Int} (hl : 1 ≤ P.lf) (hS : 0 ≤ wsF P ts) (h : daE P ts n = 0) (h2 : lfE P ts d = 0) :
    (0 ≤ lfV P ts d ∧ lfV P ts d ≤ 1048576) ∧ (0 ≤ d ∧ d ≤ 1000000) ∧ daE P ts (lfV P ts d) = 0 ∧ (0 ≤ daV P ts (lfV P ts d) ∧ d + daV P ts (lfV P ts d) ≤ 1000000) ∧ (lfV P ts d = 1048576 ∨ (lfV P ts d < 1048576 ∧ daE P ts (lfV P ts d + 1) = 0 ∧ 1000000 < d + daV P ts (lfV P ts d + 1) ∧ daV P ts (lfV P ts d + 1) ≤ 4611686018427387904)) := by
  obtain ⟨a0, a1, a2, a3⟩ := da_ok h
  obtain ⟨c0, c1, c2⟩ := lf_ok h2
  obtain ⟨q0, q1, q2⟩ := lq_ok (S := wsF P ts) (lf := P.lf) (n := d) (by omega) hl c0
  rw [← c2] at q0 q1 q2
  obtain ⟨m0, m1⟩ := da_mk a0 q0 a2
  refine ⟨q0, c0, m0, ⟨?_, by rw [m1]; exact q1⟩, ?_⟩
  · rw [m1]; exact (up6_bd (Int.mul_nonneg (by omega) q0.1) hl).1
  · rcases q2 with q2 | ⟨q2, q3⟩
    · exact .inl q2
    · obtain ⟨r0, r1⟩ := da_mk (n := lfV P ts d + 1) a0 ⟨by omega, by omega⟩ a2
      refine .inr ⟨q2, r0, by rw [r1]; exact q3, ?_⟩
      rw [r1]
      have u := (up6_bd (n := wsF P ts * 1000 * (lfV P ts d + 1)) (d := P.lf) (Int.mul_nonneg (by omega) (by omega)) hl).2
      have v : wsF P ts * 1000 * (lfV P ts d + 1) ≤ 1073741824000 * 1048576 := Int.mul_le_mul (by omega) (by omega) (by omega) (by omega)
      omega
set_option maxRecDepth 100000 in
set_option maxHeartbeats 8000000 in
theorem l_Wears (ld lf pw : Int) (A : Option Addr) (ts : List (Int × Int)) (cap : Nat) (n d ax : Int) (w : World) (hF : Frs w A ts) (hnt : ts.length ≤ 9223372036854775807) (hax : 0 ≤ ax ∧ ax ≤ 255) :
    Calls Try.prog 8 #[.agg #[.int .i64 ld, .int .i64 lf, .int .i64 pw], .slice A ts.length cap, .int .i64 n, .int .i64 d, .int .u8 ax] w fun e w' => e = .returned (.bool true) ∧ Below w.heap.size w w' := by
  obtain ⟨P, hP⟩ : ∃ P : Pav, P = ⟨ld, lf, pw⟩ := ⟨_, rfl⟩
  have HD := hide (fun (m : Int) W (hU : Up w W) => (show Calls Try.prog 20 #[.agg #[.int .i64 ld, .int .i64 lf, .int .i64 pw], .slice A ts.length cap, .int .i64 m] W fun e w' => e = .returned (.tuple #[.int .i64 (daV P ts m), .int .i64 (daE P ts m)]) ∧ Up W w' from by rw [hP]; exact p_Damage ⟨ld, lf, pw⟩ A ts cap m W (frs_up hF hU) hnt))
  by_cases hbig : 70 < ts.length
  · have HN := hide (fun W => p_up6 0 1 W (by omega) (by omega))
    obtain ⟨m, hm⟩ : ∃ m, ts.length = m := ⟨_, rfl⟩
    rw [hm] at hbig hnt ⊢
    have e1 : decide ((m : Int) > 70) = true := decide_eq_true (by omega)
    have e2 : decide (70 < (m : Int)) = true := decide_eq_true (by omega)
    clear HD HN hm hF hP
    go_enter Try.func8, Try.ntmps8
    go_wp2_with (go_at_call 14; refine (l_known _).mono ?_; rintro e w1 ⟨rfl, hu⟩)
    go_ret
    exact ⟨rfl, (by repeat' (first | (with_reducible exact up_refl _) | (with_reducible assumption) | (with_reducible refine up_alloc ?_ _) | (with_reducible refine up_drewN ?_ _) | (with_reducible refine up_drew ?_) | (with_reducible refine up_set ?_ (by first | (simp; done) | (simp; omega) | omega) _) | (refine up_trans ?_ (by with_reducible assumption))))⟩
  by_cases hE : daE P ts n = 0
  · obtain ⟨h0, hn, hS, hv⟩ := da_ok hE
    obtain ⟨hp, hc⟩ := orF_2 h0
    obtain ⟨⟨p1, p2⟩, ⟨p3, p4⟩, p5⟩ := pvE_ok hp
    obtain ⟨hTr, h1⟩ := trOk_of hc
    have hm64 := hTr.1
    have hts := fun k hk => (hTr.2 k hk).2
    have hS0 : 0 ≤ wsF P ts := wsF_nn p1 hts
    have hone := one_wear hp
    have hTw := fun h => tw_facts p3 hS0 hE h
    have hMo := fun k (hk : k < ts.length) x a b h => mo_facts (x := x) hk p1 p3 hts a b hE h
    have hLe := fun h => le_facts (d := d) p3 hS0 hE h
    have hLn := fun h => lf_no (n := d) h0 hS h
    have hab : 0 ≤ daV P ts n ∧ daV P ts n ≤ 1125899906842624000 := by
      rw [hv]
      have u := up6_bd (n := wsF P ts * 1000 * n) (d := P.lf) (Int.mul_nonneg (by omega) hn.1) p3
      have v : wsF P ts * 1000 * n ≤ 1073741824000 * 1048576 := Int.mul_le_mul (by omega) hn.2 hn.1 (by omega)
      omega
    have HL := hide (fun W (hU : Up w W) => (show Calls Try.prog 22 #[.agg #[.int .i64 ld, .int .i64 lf, .int .i64 pw], .slice A ts.length cap, .int .i64 d] W fun e w' => e = .returned (.tuple #[.int .i64 (lfV P ts d), .int .i64 (lfE P ts d)]) ∧ Up W w' from by rw [hP]; exact p_Left ⟨ld, lf, pw⟩ A ts cap d W (frs_up hF hU) hnt))
    have HO := hide (fun W g (hg : Frs W (some ⟨g, 0, none⟩) [(0, ld)]) => (show Calls Try.prog 20 #[.agg #[.int .i64 ld, .int .i64 lf, .int .i64 pw], .slice (some ⟨g, 0, none⟩) 1 1, .int .i64 lf] W fun e w' => e = .returned (.tuple #[.int .i64 1000000, .int .i64 0]) ∧ Up W w' from by
      have t := p_Damage ⟨ld, lf, pw⟩ (some ⟨g, 0, none⟩) [(0, ld)] 1 lf W hg (by simp)
      rw [hP] at hone
      rw [hone.1, hone.2] at t
      exact t))
    have HM := hide (fun W g cq (us : List (Int × Int)) (hl : us.length = ts.length) (hg : Frs W (some ⟨g, 0, none⟩) us) => (show Calls Try.prog 20 #[.agg #[.int .i64 ld, .int .i64 lf, .int .i64 pw], .slice (some ⟨g, 0, none⟩) ts.length cq, .int .i64 n] W fun e w' => e = .returned (.tuple #[.int .i64 (daV P us n), .int .i64 (daE P us n)]) ∧ Up W w' from by
      have t := p_Damage ⟨ld, lf, pw⟩ (some ⟨g, 0, none⟩) us cq n W hg (by omega)
      rw [hl] at t
      rw [hP]
      exact t))
    have HDn := hide (unhide HD n)
    have HDt := hide (unhide HD (2 * n))
    have HDc := hide (unhide HD (lfV P ts d))
    have HDd := hide (unhide HD (lfV P ts d + 1))
    rw [hE] at HDn
    obtain ⟨a, hA⟩ : ∃ a, daV P ts n = a := ⟨_, rfl⟩
    obtain ⟨tV, htV⟩ : ∃ a, daV P ts (2 * n) = a := ⟨_, rfl⟩
    obtain ⟨tE, htE⟩ : ∃ a, daE P ts (2 * n) = a := ⟨_, rfl⟩
    obtain ⟨q, hq⟩ : ∃ a, lfV P ts d = a := ⟨_, rfl⟩
    obtain ⟨qE, hqE⟩ : ∃ a, lfE P ts d = a := ⟨_, rfl⟩
    rw [hA] at HDn hab
    simp only [hA, htV, htE] at hTw
    simp only [hA] at hMo
    rw [htV, htE] at HDt
    rw [hq, hqE] at HL
    rw [hq] at HDc HDd
    simp only [hq, hqE] at hLe hLn
    rcases hF with hnil | ⟨ba, off, rfl, hcc⟩
    · rw [hnil] at h1; simp at h1
    have HC := hide hcc
    have HTs := hide hts
    have hTW := hide hTw
    have hMO := hide hMo
    have hLE := hide hLe
    have hLN := hide hLn
    obtain ⟨m, hm⟩ : ∃ m, ts.length = m := ⟨_, rfl⟩
    have HN := hide hm
    rw [hm] at hbig hnt hm64 h1 HL HM HDn HDt HDc HDd ⊢
    clear HD hone hTw hMo hLe hLn hcc hts hTr hS0 hS hv h0 hp hc hE hA htV htE hq hqE hm
    have e1 : decide ((m : Int) > 70) = false := decide_eq_false (by omega)
    have e2 : decide (70 < (m : Int)) = false := decide_eq_false (by omega)
    have e4 : ((m : Int) == 0) = false := by simp; omega
    have x1 : IntKind.i64.wrap (2 * n) = 2 * n := IntWalk.i64_in _ ⟨by omega, by omega⟩
    have x2 : IntKind.i64.wrap (2 * a) = 2 * a := IntWalk.i64_in _ ⟨by omega, by omega⟩
    clear e1 hbig
    go_enter Try.func8, Try.ntmps8
    go_upto_region 1 with fail
    refine at_wpB (fun W0 hW0 => ?_)
    have hB : Bx W0 w.heap.size [.int .i64 ld, .int .i64 lf, .int .i64 pw] := by rw [hW0]; exact bx_new w _ _
    have U : Up w W0 := by rw [hW0]; exact (by repeat' (first | (with_reducible exact up_refl _) | (with_reducible assumption) | (with_reducible refine up_alloc ?_ _) | (with_reducible refine up_drewN ?_ _) | (with_reducible refine up_drew ?_) | (with_reducible refine up_set ?_ (by first | (simp; done) | (simp; omega) | omega) _) | (refine up_trans ?_ (by with_reducible assumption))))
    clear hW0
    obtain ⟨c0, c1, c2⟩ := bx3 hB
    go_upto_region 6 with (go_at_call 20; (with_reducible refine (unhide HDn _ U).mono ?_); rintro e w1 ⟨rfl, hu1⟩)
    have hB := bx_up hB hu1
    have U := up_trans U hu1
    obtain ⟨c0, c1, c2⟩ := bx3 hB
    clear hu1 HDn
    have k0 := fun o => alloc_cell o c0
    have k1 := fun o => alloc_cell o c1
    have k2 := fun o => alloc_cell o c2
    go_upto_region 9 with (go_at_call 20; (with_reducible refine (unhide HO _ _ (frs_one (bx_new w1 _ _))).mono ?_); rintro e w2 ⟨rfl, hu2⟩)
    have hB := bx_up hB (up_trans (up_alloc (up_refl w1) _) hu2)
    have U := up_trans U (up_trans (up_alloc (up_refl w1) _) hu2)
    obtain ⟨c0, c1, c2⟩ := bx3 hB
    clear hu2 HO k0 k1 k2
    go_upto_region 10 with (go_at_call 20; (with_reducible refine (unhide HDt _ U).mono ?_); rintro e w3 ⟨rfl, hu3⟩)
    have hB := bx_up hB hu3
    have U := up_trans U hu3
    obtain ⟨c0, c1, c2⟩ := bx3 hB
    clear hu3 HDt
    go_cut [84] (fun s wx => s = .bool false ∧ wx = w3)
    case first => as_aux_lemma =>
      clear hMO hLE hLN HDc HDd HL HM HC HTs HN
      by_cases ht : tE = 0
      · obtain ⟨t1, t2⟩ := unhide hTW ht
        subst ht
        have y1 : decide (tV < a) = false := decide_eq_false (by omega)
        have y2 : decide (tV > 2 * a) = false := decide_eq_false (by omega)
        have y3 : decide (2 * a < tV) = false := decide_eq_false (by omega)
        clear hTW
        go_wp2_with fail
        go_meet
        exact ⟨rfl, rfl⟩
      · have y0 : (tE == 0) = false := by simp; exact ht
        clear hTW
        go_wp2_with fail
        go_meet
        exact ⟨rfl, rfl⟩
    case rest =>
    obtain ⟨rfl, rfl⟩ := hcut
    clear hTW
    obtain ⟨i1', hj, hy0, hy1, hy2⟩ := info_parts info_frc
    have HJ := hide hj
    clear hj
    have hls : (cellsF ts).length = m * 2 := by rw [cellsF_length, unhide HN]
    have hnw : ∀ j u, (cellsF ts)[j]? = some u → (wc.alloc (.cells #[] 73)).cell? ((⟨ba, off, none⟩ : Addr).add j) = some u := cellsF_news fun k hk => ⟨up_cell (up_alloc U _) (unhide HC k hk).1, up_cell (up_alloc U _) (unhide HC k hk).2⟩
    have HNW := hide hnw
    clear hnw
    go_upto_region 13 with (at_builtin; refine wpList_append_own _ rfl _ _ 46 rfl wc.heap.size 73 i1' _ 2 16 Try.underlying46 (unhide HJ) hy0 hy1 hy2 rfl (by decide) (.slice (some ⟨wc.heap.size, 0, none⟩) 0 0) 0 [] rfl (World.ownsRow_made wc #[] 0 (Nat.le_refl _) (by unfold maxLen; omega) rfl) ⟨ba, off, none⟩ m cap (cellsF ts) rfl hls (unhide HNW) (cellsF_one ts) (by unfold maxLen; omega) (by omega) (by simp) ?_; intro vq W2 hown hgrow _)
    simp only [Nat.zero_add, List.nil_append] at hown
    rcases hown.2 with ⟨_, hz⟩ | ⟨g, cq, cur, rfl, hbg, hgg, _⟩
    · omega
    have hBx := hide (bx_cellsF hown)
    have hB2 : Bx W2 w.heap.size [.int .i64 ld, .int .i64 lf, .int .i64 pw] := bx_same6 (bx_alloc hB _) (hgrow.block _ (by have := bx_lt hB (by simp); simp; omega) (by have := bx_lt hB (by simp); intro e; simp [Value.ownBlock] at e; omega))
    have U2 : Up w W2 := (up_alloc U _).grown hgrow (up_alloc U _).size (by intro j hj; simp [Value.ownBlock] at hj; subst hj; exact U.size)
    have hgw : w.heap.size < g := by have t1 := bx_lt hB (by simp); omega
    clear hown hgg hgrow hbg hB U HNW hls HJ c0 c1 c2
    obtain ⟨k, hk, hmod⟩ : ∃ k : Nat, k < m ∧ ax % (m : Int) = (k : Int) := by
      have t1 := Int.emod_nonneg ax (b := (m : Int)) (by omega)
      have t2 := Int.emod_lt_of_pos ax (b := (m : Int)) (by omega)
      exact ⟨(ax % (m : Int)).toNat, by omega, by omega⟩
    have hkl : k < ts.length := by rw [unhide HN]; exact hk
    obtain ⟨at1, at2⟩ := cellsF_at hkl
    obtain ⟨y, hy⟩ : ∃ y, ts[k].2 = y := ⟨_, rfl⟩
    have hyb := unhide HTs k hkl
    rw [hy] at at2 hyb
    have hY := hide hy
    obtain ⟨r1, r2⟩ := unhide hBx _ _ at2
    have r1' : W2.cell? ⟨g, 0 + k * 2 + 1, none⟩ = some (.int .i64 y) := by rw [Nat.zero_add]; exact r1
    have r2' : W2.frozen? ⟨g, 0 + k * 2 + 1, none⟩ = false := by rw [Nat.zero_add]; exact r2
    have z1 : IntKind.i64.wrap ax = ax := IntWalk.i64_in _ ⟨by omega, by omega⟩
    have z2 : IntKind.i64.wrap (ax.tmod (m : Int)) = (k : Int) := by rw [Int.tmod_eq_emod_of_nonneg hax.1, hmod]; exact IntWalk.i64_in _ ⟨by omega, by omega⟩
    have z8 : ax.tmod (m : Int) = (k : Int) := by rw [Int.tmod_eq_emod_of_nonneg hax.1, hmod]
    have z9 : IntKind.i64.wrap (k : Int) = (k : Int) := IntWalk.i64_in _ ⟨by omega, by omega⟩
    have hmod' := hmod
    have z3 : IntKind.i64.wrap (y + ax) = y + ax := IntWalk.i64_in _ ⟨by omega, by omega⟩
    have z4 : (0 : Int) ≤ (k : Int) := by omega
    have z5 : (k : Int) < (m : Int) := by omega
    have z6 : (k : Int).toNat = k := by omega
    have z7 : (m : Int) ≠ 0 := by omega
    clear hy at1 at2 hmod'
    go_upto_region 14 with fail
    have hB2' := hide hB2
    have hU2' := hide U2
    clear hB2 U2
    go_cut [10] (fun s wx => s = .bool false ∧ ∃ x : Int, y ≤ x ∧ x ≤ 1048576 ∧ Bx wx g ((cellsF ts).set (k * 2 + 1) (.int .i64 x)) ∧ Bx wx w.heap.size [.int .i64 ld, .int .i64 lf, .int .i64 pw] ∧ Up w wx)
    case first => as_aux_lemma =>
      clear hMO hLE hLN HDc HDd HL HM HC HTs HN
      have fin : ∀ x : Int, y ≤ x → x ≤ 1048576 → (∃ x' : Int, y ≤ x' ∧ x' ≤ 1048576 ∧ Bx (W2.setCell ⟨g, k * 2 + 1, none⟩ (.int .i64 x)) g ((cellsF ts).set (k * 2 + 1) (.int .i64 x')) ∧ Bx (W2.setCell ⟨g, k * 2 + 1, none⟩ (.int .i64 x)) w.heap.size [.int .i64 ld, .int .i64 lf, .int .i64 pw] ∧ Up w (W2.setCell ⟨g, k * 2 + 1, none⟩ (.int .i64 x))) := fun x h1 h2 =>
        ⟨x, h1, h2, bx_set (unhide hBx) _ _, bx_far (unhide hB2') (p := ⟨g, k * 2 + 1, none⟩) (by simp only; omega) _, up_set (unhide hU2') (by simp only; omega) _⟩
      have hfin := hide fin
      clear fin hBx hB2' hU2'
      by_cases hlt : y + ax < 1048576
      · go_wp2_with fail
        go_meet
        exact ⟨rfl, by have t := unhide hfin (y + ax) (by omega) (by omega); simpa using t⟩
      · have hd : decide (y + ax < 1048576) = false := decide_eq_false hlt
        go_wp2_with fail
        go_meet
        exact ⟨rfl, by have t := unhide hfin 1048576 (by omega) (by omega); simpa using t⟩
    case rest =>
    obtain ⟨rfl, x, hx1, hx2, hBs, hB, U⟩ := hcut
    rw [← cellsF_set hkl x] at hBs
    have hMt := hide (unhide HM wc g cq (ts.set k (ts[k].1, x)) (by rw [List.length_set]; exact unhide HN) (frs_cellsF hBs))
    have hMf := unhide hMO k hkl x (by rw [unhide hY]; exact hx1) hx2
    obtain ⟨mV, hmV⟩ : ∃ v, daV P (ts.set k (ts[k].1, x)) n = v := ⟨_, rfl⟩
    obtain ⟨mE, hmE⟩ : ∃ v, daE P (ts.set k (ts[k].1, x)) n = v := ⟨_, rfl⟩
    rw [hmV, hmE] at hMt
    simp only [hmV, hmE] at hMf
    have hMF := hide hMf
    obtain ⟨c0, c1, c2⟩ := bx3 hB
    clear hMO HM hBs hmV hmE hMf hBx hB2' hU2' r1 r2 r1' r2' HTs HC hY
    go_upto_region 16 with (go_at_call 20; (with_reducible refine (unhide hMt).mono ?_); rintro e w4 ⟨rfl, hu4⟩)
    have hB := bx_up hB hu4
    have U := up_trans U hu4
    obtain ⟨c0, c1, c2⟩ := bx3 hB
    clear hu4 hMt
    go_cut [119] (fun s wx => s = .bool false ∧ wx = w4)
    case first => as_aux_lemma =>
      clear hLE hLN HDc HDd HL HN
      by_cases ht : mE = 0
      · have t1 := unhide hMF ht
        subst ht
        have y1 : decide (mV < a) = false := decide_eq_false (by omega)
        clear hMF
        go_wp2_with fail
        go_meet
        exact ⟨rfl, rfl⟩
      · have y0 : (mE == 0) = false := by simp; exact ht
        clear hMF
        go_wp2_with fail
        go_meet
        exact ⟨rfl, rfl⟩
    case rest =>
    obtain ⟨rfl, rfl⟩ := hcut
    clear hMF
    go_upto_region 19 with (go_at_call 22; (with_reducible refine (unhide HL _ U).mono ?_); rintro e w5 ⟨rfl, hu5⟩)
    have hB := bx_up hB hu5
    have U := up_trans U hu5
    obtain ⟨c0, c1, c2⟩ := bx3 hB
    clear hu5 HL
    by_cases hq0 : qE = 0
    · obtain ⟨⟨q1, q2⟩, ⟨d1, d2⟩, f1, ⟨f2, f3⟩, f4⟩ := unhide hLE hq0
      subst hq0
      rw [f1] at HDc
      obtain ⟨cV, hcV⟩ : ∃ v, daV P ts q = v := ⟨_, rfl⟩
      obtain ⟨dV, hdV⟩ : ∃ v, daV P ts (q + 1) = v := ⟨_, rfl⟩
      obtain ⟨dE, hdE⟩ : ∃ v, daE P ts (q + 1) = v := ⟨_, rfl⟩
      rw [hcV] at HDc f2 f3
      rw [hdV, hdE] at HDd
      rw [hdV, hdE] at f4
      have v1 : IntKind.i64.wrap (q + 1) = q + 1 := IntWalk.i64_in _ ⟨by omega, by omega⟩
      have v2 : IntKind.i64.wrap (d + cV) = d + cV := IntWalk.i64_in _ ⟨by omega, by omega⟩
      have v4 : decide (q ≥ 0) = true := decide_eq_true (by omega)
      have v5 : decide (0 ≤ q) = true := decide_eq_true (by omega)
      have v6 : decide (q ≤ 1048576) = true := decide_eq_true (by omega)
      have v7 : decide (d + cV ≤ 1000000) = true := decide_eq_true (by omega)
      clear hcV hdV hdE f1 hLE hLN
      rcases f4 with g0 | ⟨g1, rfl, g3, g4⟩
      · have g2 : (q == 1048576) = true := by simp; exact g0
        clear g0 q1 q2
        go_wp2_with (first | (go_at_call 20; (with_reducible refine (unhide HDc _ U).mono ?_); rintro e w6 ⟨rfl, hu6⟩; have U := up_trans U hu6; obtain ⟨k0, k1, k2⟩ := bx3 (bx_up hB hu6)) | (go_at_call 20; (with_reducible refine (unhide HDd _ U).mono ?_); rintro e w7 ⟨rfl, hu7⟩; have U := up_trans U hu7) | (go_at_call 14; refine (l_known _).mono ?_; rintro e w8 ⟨rfl, hu8⟩; have U := up_trans U hu8))
        go_ret
        exact ⟨rfl, U⟩
      · have g2 : (q == 1048576) = false := by simp; omega
        have v3 : IntKind.i64.wrap (d + dV) = d + dV := IntWalk.i64_in _ ⟨by omega, by omega⟩
        have v8 : decide (d + dV > 1000000) = true := decide_eq_true (by omega)
        have v9 : decide (1000000 < d + dV) = true := decide_eq_true (by omega)
        go_wp2_with (first | (go_at_call 20; (with_reducible refine (unhide HDc _ U).mono ?_); rintro e w6 ⟨rfl, hu6⟩; have U := up_trans U hu6; obtain ⟨k0, k1, k2⟩ := bx3 (bx_up hB hu6)) | (go_at_call 20; (with_reducible refine (unhide HDd _ U).mono ?_); rintro e w7 ⟨rfl, hu7⟩; have U := up_trans U hu7) | (go_at_call 14; refine (l_known _).mono ?_; rintro e w8 ⟨rfl, hu8⟩; have U := up_trans U hu8))
        go_ret
        exact ⟨rfl, U⟩
    · have e9 : (qE == 0) = false := by simp; exact hq0
      rcases unhide hLN hq0 with rfl | rfl
      · clear hLN hLE HDc HDd
        go_wp2_with (go_at_call 14; refine (l_known _).mono ?_; rintro e w8 ⟨rfl, hu8⟩; have U := up_trans U hu8)
        go_ret
        exact ⟨rfl, U⟩
      · clear hLN hLE HDc HDd
        go_wp2_with (go_at_call 14; refine (l_known _).mono ?_; rintro e w8 ⟨rfl, hu8⟩; have U := up_trans U hu8)
        go_ret
        exact ⟨rfl, U⟩
  · have ha := da_no hE
    have HDn := hide (unhide HD n)
    rw [ha] at HDn
    obtain ⟨E, hEE⟩ : ∃ E, daE P ts n = E := ⟨_, rfl⟩
    rw [hEE] at HDn hE
    obtain ⟨m, hm⟩ : ∃ m, ts.length = m := ⟨_, rfl⟩
    rw [hm] at hbig hnt HDn ⊢
    have e1 : decide ((m : Int) > 70) = false := decide_eq_false (by omega)
    have e2 : decide (70 < (m : Int)) = false := decide_eq_false (by omega)
    have e3 : (E == 0) = false := by simp; exact hE
    clear HD hm hF hP ha hEE
    go_enter Try.func8, Try.ntmps8
    go_wp2_with (first | (go_at_call 20; (with_reducible refine (unhide HDn _ (by repeat' (first | (with_reducible exact up_refl _) | (with_reducible assumption) | (with_reducible refine up_alloc ?_ _) | (with_reducible refine up_drewN ?_ _) | (with_reducible refine up_drew ?_) | (with_reducible refine up_set ?_ (by first | (simp; done) | (simp; omega) | omega) _) | (refine up_trans ?_ (by with_reducible assumption))))).mono ?_); rintro e w1 ⟨rfl, hu1⟩) | (go_at_call 14; refine (l_known _).mono ?_; rintro e w2 ⟨rfl, hu⟩))
    go_ret
    exact ⟨rfl, (by repeat' (first | (with_reducible exact up_refl _) | (with_reducible assumption) | (with_reducible refine up_alloc ?_ _) | (with_reducible refine up_drewN ?_ _) | (with_reducible refine up_drew ?_) | (with_reducible refine up_set ?_ (by first | (simp; done) | (simp; omega) | omega) _) | (refine up_trans ?_ (by with_reducible assumption))))⟩
end Go.Proofs.YtkaabmanbefknaaR
