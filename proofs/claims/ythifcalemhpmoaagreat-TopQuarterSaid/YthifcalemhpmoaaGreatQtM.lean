/- A load and its platform, turned by a quarter: numbers. -/
import Derived.Test.YthifcalemhpmoaaGreatTogM
import Derived.Test.YthifcalemhpmoaaGreatPkTrP
namespace Go.Proofs.YthifcalemhpmoaaGreat
open Go.RowKit Go.Proofs.Gn
set_option linter.unusedVariables false
/-- A support, turned to the left. -/
def trS (s : Gs.Sup) : Gs.Sup := ⟨-s.y, s.x, s.g, s.lim, s.lo, s.hi⟩
theorem ln_gen {L : List Pce} (h : loE cgN L [] 300 = 0) : lnB (ceV (mo fX L) (mas L)) (ceV (mo fY L) (mas L)) (ceV (mo fZ L) (mas L)) 0 0 0 0 = true := by
  obtain ⟨g, a, b, c, d, hm⟩ := loE_ok h
  have x := ce_bd hm (mo_mas fX_bm c)
  have y := ce_bd hm (mo_mas fY_bm c)
  have z := ce_bd hm (mo_mas fZ_bm c)
  unfold lnB ceB slB
  rw [(win_iff _ _ _).2 x, (win_iff _ _ _).2 y, (win_iff _ _ _).2 z]
  decide
theorem sh_ch {S : List Gs.Sup} {m X Y : Int} (h : ¬ chE S = 0) : shE S m X Y = chE S := by
  have e : boE S m X Y = chE S := by unfold boE; rw [if_neg h]
  unfold shE
  rw [e, if_neg h]
theorem sd_gen {S : List Gs.Sup} {L : List Pce} (h : loE cgN L [] 300 = 0) :
    sdE S cgN L [] 300 0 0 0 0 = shE S (mas L) (ceV (mo fX L) (mas L)) (ceV (mo fY L) (mas L)) ∧ ∀ g, sdV S cgN L [] 300 0 0 0 0 g = shV S (mas L) (ceV (mo fX L) (mas L)) (ceV (mo fY L) (mas L)) (up (mas L) (paD S) (g S (ceV (mo fX L) (mas L)) (ceV (mo fY L) (mas L)))) := by
  have hl := ln_gen h
  have hM : loM cgN L [] 300 = mas L := by unfold loM; rw [if_pos h]
  have eX : loC cgN L [] 300 fX = ceV (mo fX L) (mas L) := by unfold loC; rw [if_pos h]
  have eY : loC cgN L [] 300 fY = ceV (mo fY L) (mas L) := by unfold loC; rw [if_pos h]
  have eZ : loC cgN L [] 300 fZ = ceV (mo fZ L) (mas L) := by unfold loC; rw [if_pos h]
  have hx : sdX cgN L [] 300 0 0 0 0 = ceV (mo fX L) (mas L) := by
    unfold sdX foV
    rw [eX, eY, eZ, if_pos hl, ft_zero]
  have hy : sdY cgN L [] 300 0 0 0 0 = ceV (mo fY L) (mas L) := by
    unfold sdY foV
    rw [eX, eY, eZ, if_pos hl, ft_zero]
  have hL : sdL cgN L [] 300 0 0 0 0 = 0 := by
    unfold sdL lnE
    rw [eX, eY, eZ, if_pos hl]
  refine ⟨?_, fun g => ?_⟩
  · unfold sdE stE
    rw [h, if_pos rfl, hL, if_pos rfl, hM, hx, hy]
    split
    · rfl
    · rename_i hc
      rw [sh_ch hc]
  · unfold sdV stV
    rw [h, if_pos rfl, hL, if_pos rfl, hM, hx, hy]
    split
    · rfl
    · rename_i hc
      unfold shV
      rw [sh_ch hc, if_neg hc]
theorem tr_okS (s : Gs.Sup) : Gs.okS (trS s) = Gs.okS s := by
  unfold Gs.okS trS
  dsimp only
  rw [decide_eq_decide]
  omega
theorem tr_okA (S : List Gs.Sup) : Gs.okA (S.map trS) = Gs.okA S := by
  unfold Gs.okA
  induction S with
  | nil => rfl
  | cons s S ih => rw [List.map_cons, List.all_cons, List.all_cons, ih, tr_okS]
theorem tr_cN (g : Int) (S : List Gs.Sup) : Gs.cN g (S.map trS) = Gs.cN g S := by
  induction S with
  | nil => rfl
  | cons s S ih => simp only [List.map_cons, Gs.cN, ih]; rfl
theorem tr_cX (g : Int) (S : List Gs.Sup) : Gs.cX g (S.map trS) = -(Gs.cY g S) := by
  induction S with
  | nil => rfl
  | cons s S ih =>
    simp only [List.map_cons, Gs.cX, Gs.cY, ih]
    have e1 : (trS s).g = s.g := rfl
    have e2 : (trS s).x = -s.y := rfl
    rw [e1, e2]
    split <;> omega
theorem tr_cY (g : Int) (S : List Gs.Sup) : Gs.cY g (S.map trS) = Gs.cX g S := by
  induction S with
  | nil => rfl
  | cons s S ih => simp only [List.map_cons, Gs.cX, Gs.cY, ih]; rfl
theorem tr_wh (S : List Gs.Sup) : Gs.wh (S.map trS) = Gs.wh S := by
  unfold Gs.wh Gs.dt
  simp only [tr_cN, tr_cX, tr_cY]
  grind
theorem tr_q0 (S : List Gs.Sup) (X Y : Int) : Gs.q0 (S.map trS) (-Y) X = Gs.q0 S X Y := by
  unfold Gs.q0 Gs.dt
  simp only [tr_cN, tr_cX, tr_cY]
  grind
theorem tr_q1 (S : List Gs.Sup) (X Y : Int) : Gs.q1 (S.map trS) (-Y) X = Gs.q1 S X Y := by
  unfold Gs.q1 Gs.dt
  simp only [tr_cN, tr_cX, tr_cY]
  grind
theorem tr_q2 (S : List Gs.Sup) (X Y : Int) : Gs.q2 (S.map trS) (-Y) X = Gs.q2 S X Y := by
  unfold Gs.q2 Gs.dt
  simp only [tr_cN, tr_cX, tr_cY]
  grind
theorem tr_pa (S : List Gs.Sup) (X Y : Int) : paD (S.map trS) = paD S ∧ pa0 (S.map trS) (-Y) X = pa0 S X Y ∧ pa1 (S.map trS) (-Y) X = pa1 S X Y ∧ pa2 (S.map trS) (-Y) X = pa2 S X Y := by
  unfold paD pa0 pa1 pa2
  rw [tr_wh, tr_q0, tr_q1, tr_q2]
  exact ⟨rfl, rfl, rfl, rfl⟩
theorem tr_ch (S : List Gs.Sup) : chE (S.map trS) = chE S := by
  unfold chE
  rw [tr_okA, tr_wh, List.length_map]
theorem tr_pt (X Y : Int) : ptE (-Y) X = ptE X Y := by
  have : ptB (-Y) X = ptB X Y := by
    apply Bool.eq_iff_iff.2
    unfold ptB
    simp only [Bool.and_eq_true, win_iff]
    omega
  unfold ptE
  rw [this]
theorem tr_fit (a b c : Int) (S : List Gs.Sup) : fit a b c (S.map trS) = fit a b c S := by
  unfold fit
  induction S with
  | nil => rfl
  | cons s S ih => rw [List.map_cons, List.all_cons, List.all_cons, ih]; rfl
theorem tr_sh (S : List Gs.Sup) (m X Y : Int) : shE (S.map trS) m (-Y) X = shE S m X Y := by
  obtain ⟨a, b, c, d⟩ := tr_pa S X Y
  unfold shE uE boE
  rw [tr_ch, tr_pt, a, b, c, d, tr_fit]
theorem tr_shV (S : List Gs.Sup) (m X Y v : Int) : shV (S.map trS) m (-Y) X v = shV S m X Y v := by
  unfold shV
  rw [tr_sh]
/-- The square of four supports about a point. -/
def sq4 (c0 c1 s : Int) : List Gs.Sup := [⟨c0 - s, c1 - s, 0, 1048576, 0, 0⟩, ⟨c0 - s, c1 + s, 0, 1048576, 0, 0⟩, ⟨c0 + s, c1 - s, 1, 1048576, 0, 0⟩, ⟨c0 + s, c1 + s, 2, 1048576, 0, 0⟩]
theorem sq4_wh (c0 c1 s : Int) : Gs.wh (sq4 c0 c1 s) = 2 * (s * s) * 4 := by
  unfold Gs.wh Gs.dt sq4
  simp [Gs.cN, Gs.cX, Gs.cY]
  grind
theorem sq4_q (c0 c1 s : Int) : Gs.q0 (sq4 c0 c1 s) c0 c1 = 2 * (s * s) ∧ Gs.q1 (sq4 c0 c1 s) c0 c1 = 2 * (s * s) ∧ Gs.q2 (sq4 c0 c1 s) c0 c1 = 2 * (s * s) := by
  unfold Gs.q0 Gs.q1 Gs.q2 Gs.dt sq4
  simp [Gs.cN, Gs.cX, Gs.cY]
  refine ⟨?_, ?_, ?_⟩ <;> grind
theorem up4 {m D : Int} (hD : 0 < D) : up m (D * 4) D = (m + 3) / 4 := by
  unfold up
  rw [show m * -D = D * -m by grind, Int.mul_ediv_mul_of_pos _ _ hD]
  omega
theorem sq4_ok {c0 c1 s : Int} (h0 : -20000 ≤ c0 ∧ c0 ≤ 20000) (h1 : -20000 ≤ c1 ∧ c1 ≤ 20000) (hs : 1 ≤ s ∧ s ≤ 256) : chE (sq4 c0 c1 s) = 0 := by
  have ha : Gs.okA (sq4 c0 c1 s) = true := by
    unfold Gs.okA sq4 Gs.okS
    simp only [List.all_cons, List.all_nil, Bool.and_true, Bool.and_eq_true, decide_eq_true_eq]
    omega
  have hp : 0 < s * s := Int.mul_pos (by omega) (by omega)
  unfold chE
  rw [if_neg (by unfold sq4; simp), if_pos ha, sq4_wh, if_neg (by omega)]
theorem sq4_sh {c0 c1 s m : Int} (h0 : -20000 ≤ c0 ∧ c0 ≤ 20000) (h1 : -20000 ≤ c1 ∧ c1 ≤ 20000) (hs : 1 ≤ s ∧ s ≤ 256) (hm : 1 ≤ m ∧ m ≤ 1000000) :
    shE (sq4 c0 c1 s) m c0 c1 = 0 ∧ up m (paD (sq4 c0 c1 s)) (pa0 (sq4 c0 c1 s) c0 c1) = (m + 3) / 4 ∧ up m (paD (sq4 c0 c1 s)) (pa1 (sq4 c0 c1 s) c0 c1) = (m + 3) / 4 ∧ up m (paD (sq4 c0 c1 s)) (pa2 (sq4 c0 c1 s) c0 c1) = (m + 3) / 4 := by
  have hp : 0 < s * s := Int.mul_pos (by omega) (by omega)
  obtain ⟨q0, q1, q2⟩ := sq4_q c0 c1 s
  have hw := sq4_wh c0 c1 s
  have e : ∀ q, pv (Gs.wh (sq4 c0 c1 s)) q = q := fun q => pv_pos (by rw [hw]; omega)
  have eD : paD (sq4 c0 c1 s) = 2 * (s * s) * 4 := by unfold paD; rw [e, hw]
  have e0 : pa0 (sq4 c0 c1 s) c0 c1 = 2 * (s * s) := by unfold pa0; rw [e, q0]
  have e1 : pa1 (sq4 c0 c1 s) c0 c1 = 2 * (s * s) := by unfold pa1; rw [e, q1]
  have e2 : pa2 (sq4 c0 c1 s) c0 c1 = 2 * (s * s) := by unfold pa2; rw [e, q2]
  have hu := up4 (m := m) (D := 2 * (s * s)) (by omega)
  rw [eD, e0, e1, e2]
  refine ⟨?_, hu, hu, hu⟩
  have hb : boE (sq4 c0 c1 s) m c0 c1 = 0 := by
    unfold boE
    rw [if_pos (sq4_ok h0 h1 hs)]
    have : msE m = 0 := by unfold msE; rw [(win_iff _ _ _).2 (by omega), if_pos rfl]
    rw [if_pos this]
    unfold ptE ptB
    rw [(win_iff c0 _ _).2 (by omega), (win_iff c1 _ _).2 (by omega)]
    rfl
  unfold shE
  rw [if_pos hb]
  unfold uE
  rw [eD, e0, e1, e2, hu, if_neg, if_pos]
  · unfold fit sq4 sel
    simp only [List.all_cons, List.all_nil, Bool.and_true, Bool.and_eq_true, decide_eq_true_eq]
    omega
  · unfold lif
    rw [if_neg (by omega), if_neg (by omega), if_neg (by omega)]
    decide
theorem ce_bdK {n M : Int} (hM : 1 ≤ M ∧ M ≤ 16777216) (h : -(20000 * M) ≤ n ∧ n ≤ 20000 * M) : -20000 ≤ ceV n M ∧ ceV n M ≤ 20000 := by
  unfold ceV neV
  split
  · unfold near
    constructor
    · exact Int.le_ediv_of_mul_le (by omega) (by omega)
    · have : (2 * n + 2 * M) / (2 * (2 * M)) < 20001 := Int.ediv_lt_of_lt_mul (by omega) (by omega)
      omega
  · omega
theorem cg_fbd {b : Bxe} (h : okBxe b) : (-(20000 * (cgP b).m) ≤ fX (cgP b) ∧ fX (cgP b) ≤ 20000 * (cgP b).m) ∧ (-(20000 * (cgP b).m) ≤ fY (cgP b) ∧ fY (cgP b) ≤ 20000 * (cgP b).m) := by
  obtain ⟨x, y, z, l, w, h', m⟩ := h
  have hm : 0 ≤ 1 + b.m % 8000 := by omega
  unfold fX fY cgP
  dsimp only
  constructor
  · have p := Int.mul_le_mul_of_nonneg_left (show 20 * b.x + (20 * b.x + (1 + 20 * b.l)) ≤ 20000 by omega) hm
    have q := Int.mul_le_mul_of_nonneg_left (show -20000 ≤ 20 * b.x + (20 * b.x + (1 + 20 * b.l)) by omega) hm
    omega
  · have p := Int.mul_le_mul_of_nonneg_left (show 10 * b.y - 1280 + (10 * b.y - 1280 + (1 + 10 * b.w)) ≤ 20000 by omega) hm
    have q := Int.mul_le_mul_of_nonneg_left (show -20000 ≤ 10 * b.y - 1280 + (10 * b.y - 1280 + (1 + 10 * b.w)) by omega) hm
    omega
theorem mo_small {f : Pce → Int} {L : List Pce} (h : ∀ p ∈ L, -(20000 * p.m) ≤ f p ∧ f p ≤ 20000 * p.m) : -(20000 * mas L) ≤ mo f L ∧ mo f L ≤ 20000 * mas L := by
  induction L with
  | nil => simp [mo, mas]
  | cons p L ih =>
    have a := h p (by simp)
    have b := ih fun q hq => h q (by simp [hq])
    simp only [mo, mas]
    omega
theorem cg_ce {bs : List Bxe} (hb : ∀ k (h : k < bs.length), okBxe bs[k]) (h0 : bs ≠ []) : (-20000 ≤ ceV (mo fX (cgL bs)) (mas (cgL bs)) ∧ ceV (mo fX (cgL bs)) (mas (cgL bs)) ≤ 20000) ∧ (-20000 ≤ ceV (mo fY (cgL bs)) (mas (cgL bs)) ∧ ceV (mo fY (cgL bs)) (mas (cgL bs)) ≤ 20000) := by
  have m1 := cgL_mas hb
  have n1 := cgL_len bs
  have n1' := n1.2 h0
  have hm : ∀ p ∈ cgL bs, ∃ b, okBxe b ∧ p = cgP b := by
    intro p hp
    unfold cgL at hp
    obtain ⟨b, hbm, rfl⟩ := List.mem_map.1 hp
    obtain ⟨k, hk, rfl⟩ := List.getElem_of_mem (List.mem_of_mem_take hbm)
    exact ⟨_, hb k hk, rfl⟩
  refine ⟨ce_bdK (by omega) (mo_small fun p hp => ?_), ce_bdK (by omega) (mo_small fun p hp => ?_)⟩
  · obtain ⟨b, ob, rfl⟩ := hm p hp
    exact (cg_fbd ob).1
  · obtain ⟨b, ob, rfl⟩ := hm p hp
    exact (cg_fbd ob).2
/-- The supports of a platform, by two small numbers each. -/
def qtS (lift : Int) (k : Nat) (l : Int × Int) : Gs.Sup := ⟨40 * l.1, 40 * l.2 - 5000, (k : Int) % 3, 4000 + 100 * lift, 0, 100⟩
def qtL (lift : Int) (ls : List (Int × Int)) : List Gs.Sup := (ls.take 8).mapIdx (qtS lift)
theorem qtL_len (lift : Int) (ls : List (Int × Int)) : (qtL lift ls).length ≤ 8 := by
  unfold qtL
  rw [List.length_mapIdx, List.length_take]
  omega
theorem qt_snoc (lift : Int) {ls : List (Int × Int)} {k : Nat} (h : k < ls.length) : (ls.take (k + 1)).mapIdx (qtS lift) = (ls.take k).mapIdx (qtS lift) ++ [qtS lift k ls[k]] := by
  rw [List.take_succ_eq_append_getElem h, List.mapIdx_append]
  simp [List.length_take, Nat.min_eq_left (Nat.le_of_lt h)]
theorem qt_same {S : List Gs.Sup} {L : List Pce} (hE : loE cgN L [] 300 = 0) (hd : ceV (-(mo fY L)) (mas L) = -(ceV (mo fY L) (mas L))) :
    sdE (S.map trS) cgN (L.map trP) [] 300 0 0 0 0 = sdE S cgN L [] 300 0 0 0 0 ∧ sdV (S.map trS) cgN (L.map trP) [] 300 0 0 0 0 pa0 = sdV S cgN L [] 300 0 0 0 0 pa0 ∧ sdV (S.map trS) cgN (L.map trP) [] 300 0 0 0 0 pa1 = sdV S cgN L [] 300 0 0 0 0 pa1 ∧ sdV (S.map trS) cgN (L.map trP) [] 300 0 0 0 0 pa2 = sdV S cgN L [] 300 0 0 0 0 pa2 := by
  obtain ⟨e1, v1⟩ := sd_gen (S := S) hE
  obtain ⟨e2, v2⟩ := sd_gen (S := S.map trS) (lo_tr hE)
  rw [mas_tr, moX_tr, moY_tr, hd] at e2 v2
  obtain ⟨a, b, c, d⟩ := tr_pa S (ceV (mo fX L) (mas L)) (ceV (mo fY L) (mas L))
  refine ⟨?_, ?_, ?_, ?_⟩
  · rw [e1, e2, tr_sh]
  · rw [v1, v2, tr_shV, a, b]
  · rw [v1, v2, tr_shV, a, c]
  · rw [v1, v2, tr_shV, a, d]
theorem qt_four {bs : List Bxe} (hb : ∀ k (h : k < bs.length), okBxe bs[k]) (h0 : bs ≠ []) {s : Int} (hs : 1 ≤ s ∧ s ≤ 256) :
    sdE (sq4 (ceV (mo fX (cgL bs)) (mas (cgL bs))) (ceV (mo fY (cgL bs)) (mas (cgL bs))) s) cgN (cgL bs) [] 300 0 0 0 0 = 0 ∧ sdV (sq4 (ceV (mo fX (cgL bs)) (mas (cgL bs))) (ceV (mo fY (cgL bs)) (mas (cgL bs))) s) cgN (cgL bs) [] 300 0 0 0 0 pa0 = (mas (cgL bs) + 3) / 4 ∧ sdV (sq4 (ceV (mo fX (cgL bs)) (mas (cgL bs))) (ceV (mo fY (cgL bs)) (mas (cgL bs))) s) cgN (cgL bs) [] 300 0 0 0 0 pa1 = (mas (cgL bs) + 3) / 4 ∧ sdV (sq4 (ceV (mo fX (cgL bs)) (mas (cgL bs))) (ceV (mo fY (cgL bs)) (mas (cgL bs))) s) cgN (cgL bs) [] 300 0 0 0 0 pa2 = (mas (cgL bs) + 3) / 4 := by
  have hm : 1 ≤ mas (cgL bs) ∧ mas (cgL bs) ≤ 1000000 := by
    have a := cgL_mas hb
    have b := cgL_len bs
    have c := b.2 h0
    omega
  obtain ⟨x, y⟩ := cg_ce hb h0
  obtain ⟨e, v⟩ := sd_gen (S := sq4 (ceV (mo fX (cgL bs)) (mas (cgL bs))) (ceV (mo fY (cgL bs)) (mas (cgL bs))) s) (cg_lo0 hb h0)
  obtain ⟨z, p, q, r⟩ := sq4_sh x y hs hm
  rw [z] at e
  refine ⟨e, ?_, ?_, ?_⟩
  · rw [v, p]; unfold shV; rw [if_pos z]
  · rw [v, q]; unfold shV; rw [if_pos z]
  · rw [v, r]; unfold shV; rw [if_pos z]
theorem sups_bx {W : World} {g : Nat} {ps : List Gs.Sup} (h : Bx W g (cellsSp ps)) : Sups W (some ⟨g, 0, none⟩) ps := by
  refine .inr ⟨g, 0, rfl, fun k hk => ?_⟩
  obtain ⟨a0, a1, a2, a3, a4, a5⟩ := cellsSp_at hk
  simp only [Nat.zero_add]
  exact ⟨(h _ _ a0).1, (h _ _ a1).1, (h _ _ a2).1, (h _ _ a3).1, (h _ _ a4).1, (h _ _ a5).1⟩
end Go.Proofs.YthifcalemhpmoaaGreat
