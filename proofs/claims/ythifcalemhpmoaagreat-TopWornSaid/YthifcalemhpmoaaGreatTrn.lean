/- The train of the carrier: bridge.train. -/
import Derived.Test.YthifcalemhpmoaaGreatPkStab
import Derived.Test.YthifcalemhpmoaaGreatPkCarP
import Derived.Test.YthifcalemhpmoaaGreatPkPlatf
import Derived.Test.YthifcalemhpmoaaGreatPkChMass
import Derived.Test.YthifcalemhpmoaaGreatPkBrS
import Derived.Maps.AppendAt
import Derived.Deep.RegionLaw
import Derived.OwnWalk
namespace Go.Proofs.YthifcalemhpmoaaGreat
open Go.RowKit Go.Proofs.Gn
attribute [local go_sem] Oper.semAt_some
set_option linter.unusedVariables false
section
variable {P : Program} (w : World)
theorem wp_append_atF {o : Oper} {a : Act} {K : Act → World → Prop} {Q : Exit → Act → World → Prop} (s x : Operand) (t : TypeId)
    (ho : o.op = .call { callee := .builtin .append, args := #[s, x], argTypes := #[t, t] })
    (base : Nat) (e : TypeId) (i : TypeInfo) (z : Value) (size bytes : Nat) (ht : P.underlying t = some (.slice e)) (hi : P.info? e = some i) (hz : i.zero = some z)
    (hsize : i.size = size) (hby : i.bytes = bytes) (hzs : z.cells.size = size) (hsz : 0 < size)
    (v : Value) (n : Nat) (xs : List Value) (hs : a.eval s = v) (hown : w.ownsRow base e size v n xs)
    (ad : Addr) (m c : Nat) (news : List Value) (hx : a.eval x = .slice (some ad) m c) (hl : news.length = m * size) (hnews : ∀ j u, news[j]? = some u → w.cell? (ad.add j) = some u) (h1 : ∀ u ∈ news, u.oneCell' = true)
    (h63 : n + m ≤ maxLen) (hbytes : (n + m) * bytes ≤ 140737488355328) (hbase : base ≤ w.heap.size)
    (h : ∀ v' w', w'.ownsRow base e size v' (n + m) (xs ++ news) → w.grownBy w' v.ownBlock → (v'.ownBlock = v.ownBlock ∨ v'.ownBlock = some w.heap.size) → K (a.put o.dst v') w') : o.wp P a w K Q := by
  obtain ⟨v', w', hrun, h2, h3, _, h5⟩ := run_append_own_at (P := P) w base t o.type e i z size bytes ht hi hz hsize hby hzs hsz v n xs hown ad m c news hl hnews h1 h63 hbytes hbase
  unfold Oper.wp execOp
  simp only [ho, resolve, invoke, builtin, Sem.run_bind, Sem.run_pure, Result.andThen_ok, List.map_toArray, List.map_cons, List.map_nil, hs, hx, hrun]
  exact h v' w' h2 h3 h5
theorem step_append_atF {ops : Array Oper} {o : Oper} {a : Act} {K : Act → World → Prop} {Q : Exit → Act → World → Prop} {E : Prop} (hgd : o.guard = none) (s x : Operand) (t : TypeId)
    (ho : o.op = .call { callee := .builtin .append, args := #[s, x], argTypes := #[t, t] })
    (base : Nat) (e : TypeId) (i : TypeInfo) (z : Value) (size bytes : Nat) (ht : P.underlying t = some (.slice e)) (hi : P.info? e = some i) (hz : i.zero = some z)
    (hsize : i.size = size) (hby : i.bytes = bytes) (hzs : z.cells.size = size) (hsz : 0 < size)
    (v : Value) (n : Nat) (xs : List Value) (hs : a.eval s = v) (hown : w.ownsRow base e size v n xs)
    (ad : Addr) (m c : Nat) (news : List Value) (hx : a.eval x = .slice (some ad) m c) (hl : news.length = m * size) (hnews : ∀ j u, news[j]? = some u → w.cell? (ad.add j) = some u) (h1 : ∀ u ∈ news, u.oneCell' = true)
    (h63 : n + m ≤ maxLen) (hbytes : (n + m) * bytes ≤ 140737488355328) (hbase : base ≤ w.heap.size)
    (h : ∀ v' w', w'.ownsRow base e size v' (n + m) (xs ++ news) → w.grownBy w' v.ownBlock → (v'.ownBlock = v.ownBlock ∨ v'.ownBlock = some w.heap.size) → K (a.put o.dst v') w') :
    if Region.wanted o (yielded ops a.tmps) = true then Oper.wp P o a w K Q else E := by
  have hw : Region.wanted o (yielded ops a.tmps) = true := by simp [Region.wanted, hgd]
  rw [if_pos hw]
  exact wp_append_atF w s x t ho base e i z size bytes ht hi hz hsize hby hzs hsz v n xs hs hown ad m c news hx hl hnews h1 h63 hbytes hbase h
end
def jtF : Nat → Int
  | 0 => 0
  | 1 => 3000
  | _ => 9000
def msF : Nat → Nat
  | 0 => 0
  | 1 => 2
  | _ => 5
def lvF (a b : Int) : Nat → Int
  | 0 => a
  | _ => b
/-- The train of the carrier whose axles bear a, and b. -/
def trF (a b : Int) : List (Int × Int) := [(0, a), (3000, a), (8000, b), (9000, b), (10000, b)]
def cellsFo (ts : List (Int × Int)) : List Value := ts.flatMap fun t => [.int .i64 t.1, .int .i64 t.2]
theorem cellsFo_snoc (ts : List (Int × Int)) (x y : Int) : cellsFo (ts ++ [(x, y)]) = cellsFo ts ++ [.int .i64 x, .int .i64 y] := by simp [cellsFo]
theorem cellsFo_len (ts : List (Int × Int)) : (cellsFo ts).length = ts.length * 2 := by
  induction ts with
  | nil => rfl
  | cons p ts ih => unfold cellsFo at ih ⊢; rw [List.flatMap_cons, List.length_append, ih]; simp; omega
theorem cellsFo_at {ts : List (Int × Int)} : ∀ {k : Nat} (h : k < ts.length), (cellsFo ts)[k * 2]? = some (.int .i64 ts[k].1) ∧ (cellsFo ts)[k * 2 + 1]? = some (.int .i64 ts[k].2) := by
  induction ts with
  | nil => intro k h; simp at h
  | cons p ts ih =>
    intro k h
    have e : cellsFo (p :: ts) = .int .i64 p.1 :: .int .i64 p.2 :: cellsFo ts := rfl
    rw [e]
    cases k with
    | zero => exact ⟨rfl, rfl⟩
    | succ k =>
      have q := ih (k := k) (by simpa using h)
      rw [show (k + 1) * 2 = k * 2 + 2 by omega]
      exact q
theorem info_fo : (Tryz.prog.info? 144).map (fun i => (i.zero, i.size, i.bytes)) = some (some (.agg #[.int .i64 0, .int .i64 0]), 2, 16) := by kernel_rfl
theorem bx_ownF {W : World} {base e n g cap : Nat} {xs : List Value} (h : W.ownsRow base e 2 (.slice (some ⟨g, 0, none⟩) n cap) n xs) : Bx W g xs := fun j v hj => by
  have hl := h.1
  have hj2 : j < xs.length := (List.getElem?_eq_some_iff.1 hj).1
  exact ⟨(h.cellAt j (by omega)).trans hj, h.frozenAt j⟩
theorem frs_bx {W : World} {g : Nat} {ts : List (Int × Int)} (h : Bx W g (cellsFo ts)) : Frs W (some ⟨g, 0, none⟩) ts := by
  refine .inr ⟨g, 0, rfl, fun k hk => ?_⟩
  obtain ⟨a0, a1⟩ := cellsFo_at hk
  simp only [Nat.zero_add]
  exact ⟨(h _ _ a0).1, (h _ _ a1).1⟩
theorem bx_put {W : World} {b i : Nat} {v : Value} {vs : List Value} (h : Bx W b vs) (hv : vs[i]? = some v) : Bx (W.setCell ⟨b, i, none⟩ v) b vs := by
  have q := bx_set h i v
  have e : vs.set i v = vs := by
    apply List.ext_getElem?
    intro j
    rw [List.getElem?_set]
    split
    · rename_i e
      subst e
      split
      · exact hv.symm
      · rename_i hl
        rw [List.getElem?_eq_none (by omega)] at hv
        cases hv
    · rfl
  rwa [e] at q
theorem tr_unit (A B : Option Addr) (a b : Int) {i : Nat} (hi : i < (crU A B).length) :
    (jtF (i + 1) = jtF i + ((crU A B)[i].le + (crU A B)[i].be) ∧ (0 ≤ jtF i ∧ jtF i ≤ 9000) ∧ (0 ≤ (crU A B)[i].le ∧ (crU A B)[i].le ≤ 6000) ∧ (crU A B)[i].be = 0) ∧ (msF (i + 1) = msF i + (crU A B)[i].xs.length ∧ msF i + (crU A B)[i].xs.length ≤ 5 ∧ (crU A B)[i].xs.length ≤ 3) ∧
    ∀ k (h : k < (crU A B)[i].xs.length), (trF a b).take (msF i + (k + 1)) = (trF a b).take (msF i + k) ++ [(jtF i + (crU A B)[i].xs[k].x, lvF a b i)] ∧ (0 ≤ (crU A B)[i].xs[k].x ∧ (crU A B)[i].xs[k].x ≤ 10000) := by
  match i, hi with
  | 0, _ =>
    refine ⟨by simp [crU, jtF], by simp [crU, msF], fun k h => ?_⟩
    match k, h with
    | 0, _ => exact ⟨rfl, by simp [crU]⟩
    | 1, _ => exact ⟨rfl, by simp [crU]⟩
  | 1, _ =>
    refine ⟨by simp [crU, jtF], by simp [crU, msF], fun k h => ?_⟩
    match k, h with
    | 0, _ => exact ⟨rfl, by simp [crU]⟩
    | 1, _ => exact ⟨rfl, by simp [crU]⟩
    | 2, _ => exact ⟨rfl, by simp [crU]⟩
theorem tr_sr (a b : Int) : SrF (trF a b) := by
  intro k h
  match k, h with
  | 0, _ => simp [trF]
  | 1, _ => simp [trF]
  | 2, _ => simp [trF]
  | 3, _ => simp [trF]
set_option maxRecDepth 100000 in
set_option maxHeartbeats 16000000 in
theorem p_train (C A B D : Option Addr) (a b : Int) (cD : Nat) (w : World) (h : Unts w C (crU A B)) (hD : Ints w D [a, b]) :
    Calls Tryz.prog 66 #[veV crN C 2 2 1 1, .slice D 2 cD] w fun e w' => (∃ T c, e = .returned (.slice T 5 c) ∧ Frs w' T (trF a b)) ∧ Up w w' := by
  obtain ⟨bC, oC, rfl, hC⟩ := h.resolve_left (by simp [crU])
  obtain ⟨bD, oD, rfl, hD'⟩ := hD.resolve_left (by simp)
  have hd : ∀ i, i < 2 → w.cell? ⟨bD, oD + i, none⟩ = some (.int .i64 (lvF a b i)) := fun i hi => by
    match i, hi with
    | 0, _ => exact hD' 0 (by simp)
    | 1, _ => exact hD' 1 (by simp)
  have HC := hide hC
  have HD := hide hd
  have HT := hide (fun i (hi : i < (crU A B).length) => tr_unit A B a b hi)
  have HSt := hide (fun T c W (hF : Frs W T (trF a b)) => (show Calls Tryz.prog 103 #[.slice T 5 c, fnLess] W fun e w' => e = .returned (.tuple #[]) ∧ Up W w' from p_stabF T (trF a b) c W hF (tr_sr a b) (by simp [trF]) (by simp [trF])))
  have hlen : (crU A B).length = 2 := rfl
  obtain ⟨us, hus⟩ : ∃ us, crU A B = us := ⟨_, rfl⟩
  rw [hus] at HC HT hlen
  obtain ⟨F, hF⟩ : ∃ F, trF a b = F := ⟨_, rfl⟩
  rw [hF] at HT HSt ⊢
  have hF5 : F.length = 5 := by rw [← hF]; rfl
  have hF0 : ∃ y, F[0]? = some (0, y) := ⟨a, by subst hF; rfl⟩
  have hFb : ∀ k (h : k < F.length), 0 ≤ F[k].1 ∧ F[k].1 ≤ 10000 := by
    subst hF
    intro k h
    match k, h with
    | 0, _ => simp [trF]
    | 1, _ => simp [trF]
    | 2, _ => simp [trF]
    | 3, _ => simp [trF]
    | 4, _ => simp [trF]
  have HF5 := hide hF5
  have HF0 := hide hF0
  have HFb := hide hFb
  have HL := hide hlen
  obtain ⟨i0', hi, hz0, hz1, hz2⟩ := info_parts info_fo
  have HI := hide hi
  clear h hD hC hD' hd hus hF hF5 hF0 hFb hi hlen
  go_enter Tryz.func66, Tryz.ntmps66
  go_upto_region 1 with fail
  refine at_wpC (fun W0 hW0 => ?_)
  have U0 : Up w W0 := by rw [hW0]; exact (by repeat' (first | (with_reducible exact up_refl _) | (with_reducible assumption) | (with_reducible refine up_alloc ?_ _) | (with_reducible refine up_drewN ?_ _) | (with_reducible refine up_drew ?_) | (with_reducible refine up_set ?_ (by first | (simp; done) | (simp; omega) | omega) _) | (refine up_trans ?_ (by with_reducible assumption))))
  have bV : Bx W0 w.heap.size [.string crN, .slice (some ⟨bC, oC, none⟩) 2 2, .int .i64 1, .int .i64 1] := by rw [hW0]; exact bx_new w _ _
  clear hW0
  have c1 := (bV 1 _ rfl).1
  go_upto_region 4 with fail
  clear c1 bV
  go_loopw [5, 6, 16] (fun s5 s6 s16 wr => ∃ i : Nat, i ≤ 2 ∧ s16 = .int .i64 i ∧ s6 = .int .i64 (jtF i) ∧ wr.ownsRow W0.heap.size 144 2 s5 (msF i) (cellsFo (F.take (msF i))) ∧ Up W0 wr) (fun _ _ s16 _ => 2 - (intOf s16).toNat)
  case atStart => exact ⟨0, by omega, rfl, rfl, World.ownsRow_nil _ _ _ _, up_refl _⟩
  case round =>
    obtain ⟨i, hi2, rfl, rfl, ow, hu⟩ := hrel
    by_cases hlt : i < 2
    · have hl : i < us.length := by rw [unhide HL]; exact hlt
      obtain ⟨⟨j1, ⟨j2, j3⟩, ⟨j4, j5⟩, j6⟩, ⟨m1, m2, m3⟩, HX⟩ := unhide HT i hl
      have hx0 : Axls w us[i].A us[i].xs := (unhide HC i hl).2.2.2.2.2.2.2.2.2.2.2.1
      obtain ⟨x0, x1, x2, x3, x4, x5, x6, x7, x8, x9, x10, _, _⟩ := untAt_up (unhide HC i hl) (up_trans U0 hu)
      generalize us[i] = u at *
      obtain ⟨v0, v1, v2, v3, v4, v5, v6, v7, v8, v9, vA, xs, vc⟩ := u
      dsimp only at j1 j4 j5 j6 m1 m2 m3 HX x0 x1 x2 x3 x4 x5 x6 x7 x8 x9 x10 hx0
      subst j6
      have HX := hide HX
      have HXs := hide hx0
      have HJ := hide j1
      have HM := hide m1
      obtain ⟨nx, hnx⟩ : ∃ n, xs.length = n := ⟨_, rfl⟩
      rw [hnx] at HM m2 m3 x10
      have HNX := hide hnx
      have i1 : (i : Int) < 2 := by omega
      have i2 : (0 : Int) ≤ (i : Int) := by omega
      have i3 : (i : Int).toNat = i := by omega
      clear hx0 j1 m1 hnx hi2
      have OW := hide ow
      clear ow
      have HdI := hide (unhide HD i hlt)
      obtain ⟨J', hJ'⟩ : ∃ x, jtF (i + 1) = x := ⟨_, rfl⟩
      obtain ⟨M', hM'⟩ : ∃ x, msF (i + 1) = x := ⟨_, rfl⟩
      rw [hJ'] at HJ
      rw [hM'] at HM
      have HJ' := hide hJ'
      have HM' := hide hM'
      clear hJ' hM'
      generalize jtF i = J at *
      generalize lvF a b i = Lv at *
      generalize msF i = M at *
      go_upto_region 6 with fail
      refine at_wpC (fun W6 hW6 => ?_)
      have u6 : Up wr W6 := by rw [hW6]; exact (by repeat' (first | (with_reducible exact up_refl _) | (with_reducible assumption) | (with_reducible refine up_alloc ?_ _) | (with_reducible refine up_drewN ?_ _) | (with_reducible refine up_drew ?_) | (with_reducible refine up_set ?_ (by first | (simp; done) | (simp; omega) | omega) _) | (refine up_trans ?_ (by with_reducible assumption))))
      have b8 : Bx W6 wr.heap.size [.int .i64 v0, .int .i64 v1, .int .i64 0, .int .i64 v3, .int .i64 v4, .int .i64 v5, .int .i64 v6, .int .i64 v7, .int .i64 v8, .int .i64 v9, .slice vA nx vc] := by rw [hW6]; exact bx_new wr _ _
      obtain ⟨q8, hq8⟩ : ∃ q, wr.heap.size = q := ⟨_, rfl⟩
      rw [hq8] at b8 ⊢
      have U6 := up_trans hu u6
      have ow6 := own_upI (unhide OW) u6
      have n5 : ∀ g, u5.ownBlock = some g → g ≠ q8 := fun g e => by have := ((unhide OW).lt g e).2; omega
      have hq0 : W0.heap.size ≤ q8 := by have := hu.size; omega
      clear hW6 hq8 u6 OW x0 x1 x2 x3 x4 x5 x6 x7 x8 x9 x10 hu
      have d10 := (b8 10 _ rfl).1
      go_upto_region 7 with fail
      clear d10
      go_loopw [5, 24] (fun s5 s24 wx => ∃ k : Nat, k ≤ nx ∧ s24 = .int .i64 k ∧ wx.ownsRow W0.heap.size 144 2 s5 (M + k) (cellsFo (F.take (M + k))) ∧ Bx wx q8 [.int .i64 v0, .int .i64 v1, .int .i64 0, .int .i64 v3, .int .i64 v4, .int .i64 v5, .int .i64 v6, .int .i64 v7, .int .i64 v8, .int .i64 v9, .slice vA nx vc] ∧ (∀ g, s5.ownBlock = some g → g ≠ q8) ∧ Up W0 wx) (fun _ s24 _ => nx - (intOf s24).toNat)
      case atStart => exact ⟨0, by omega, rfl, ow6, b8, n5, U6⟩
      case round =>
        clear ow6 b8 n5 U6
        obtain ⟨k, hk, rfl, ow, b8, n5, hu⟩ := hrel
        by_cases hk2 : k < nx
        · have hkx : k < xs.length := by rw [unhide HNX]; exact hk2
          obtain ⟨bA, oA, rfl, hA⟩ := (unhide HXs).resolve_left (by intro e; rw [e] at hkx; simp at hkx)
          obtain ⟨y0, y1, y2⟩ := axlAt_up (hA k hkx) (up_trans U0 hu)
          obtain ⟨hst, hb1, hb2⟩ := unhide HX k hkx
          have HC2 := hide (show cellsFo (F.take (M + (k + 1))) = cellsFo (F.take (M + k)) ++ [.int .i64 (J + xs[k].x), .int .i64 Lv] by rw [hst, cellsFo_snoc])
          generalize xs[k].x = X at *
          generalize xs[k].lim = Z1 at *
          generalize xs[k].wh = Z2 at *
          have k0 : (0 : Int) ≤ (k : Int) := by omega
          have k1 : (k : Int) < (nx : Int) := by omega
          have k3 : (k : Int).toNat = k := by omega
          have hwk : IntKind.i64.wrap ((k : Int) + 1) = (k : Int) + 1 := IntWalk.i64_in _ ⟨by omega, by omega⟩
          have hwx : IntKind.i64.wrap (J + X) = J + X := IntWalk.i64_in _ ⟨by omega, by omega⟩
          have OW := hide ow
          have HB8 := hide b8
          have HN5 := hide n5
          clear hA hst ow b8 n5
          go_upto_region 9 with fail
          refine at_wpC (fun W9 hW9 => ?_)
          have u9 : Up wr W9 := by rw [hW9]; exact (by repeat' (first | (with_reducible exact up_refl _) | (with_reducible assumption) | (with_reducible refine up_alloc ?_ _) | (with_reducible refine up_drewN ?_ _) | (with_reducible refine up_drew ?_) | (with_reducible refine up_set ?_ (by first | (simp; done) | (simp; omega) | omega) _) | (refine up_trans ?_ (by with_reducible assumption))))
          have b10 : Bx W9 wr.heap.size [.int .i64 X, .int .i64 Z1, .int .i64 Z2] := by rw [hW9]; exact bx_new wr _ _
          obtain ⟨q10, hq⟩ : ∃ q, wr.heap.size = q := ⟨_, rfl⟩
          rw [hq] at b10 ⊢
          have ow9 := hide (own_upI (unhide OW) u9)
          have HB9 := hide (bx_up (unhide HB8) u9)
          have U9 := hide (up_trans hu u9)
          have hd9 := up_cell (up_trans U0 (unhide U9)) (unhide HdI)
          have z0 := (b10 0 _ rfl).1
          clear hW9 hq u9 y0 y1 y2 b10 OW HB8 hu
          go_region_law (refine step_append_atF _ rfl (.tmp 28) (.tmp 38) 49 rfl W0.heap.size 144 i0' _ 2 16 Tryz.underlying49 (unhide HI) hz0 hz1 hz2 rfl (Nat.zero_lt_succ _) _ (M + k) (cellsFo (F.take (M + k))) rfl ((unhide ow9).alloc _) ⟨W9.heap.size, 0, none⟩ 1 1 [.int .i64 (J + X), .int .i64 Lv] rfl rfl (news_sp _ _ _) (by intro u hu; simp at hu; rcases hu with rfl | rfl <;> rfl) (by unfold maxLen; omega) (by omega) (by have := (unhide U9).size; simp; omega) ?_; intro v' w7 hown' hgrow hat)
          all_goals
            have R1 : w7.ownsRow W0.heap.size 144 2 v' (M + (k + 1)) (cellsFo (F.take (M + (k + 1)))) := by rw [unhide HC2]; exact hown'
            have R2 : Up W0 w7 := (Below.drew (Below.alloc (unhide U9) (unhide U9).size _)).grown hgrow (by have := (unhide U9).size; simp; omega) fun g hg => (unhide ow9).lt g hg |>.1
            have R3 : Bx w7 q8 _ := bx_grownC (bx_up (unhide HB9) (up_drew (up_alloc (up_refl _) _))) hgrow (fun e => unhide HN5 q8 e rfl)
            have R4 : ∀ g, v'.ownBlock = some g → g ≠ q8 := fun g e => by
              rcases hat with x | x
              · exact unhide HN5 g (x.symm.trans e)
              · rw [x] at e
                have := bx_lt (unhide HB9) (by simp)
                simp at e
                omega
            have R1' := hide R1
            have R2' := hide R2
            have R3' := hide R3
            have R4' := hide R4
            clear R1 R2 R3 R4 hown' hgrow hat
            go_wp2_with fail
            go_roundw
            case rel => exact ⟨k + 1, by omega, by first | rfl | trivial | go_num, unhide R1', unhide R3', unhide R4', unhide R2'⟩
            case measure => first | (simp [intOf]; done) | (simp [intOf]; omega)
        · obtain rfl : k = nx := by omega
          have c1 := (b8 1 _ rfl).1
          have c2 := (b8 2 _ rfl).1
          have e1 : IntKind.i64.wrap v1 = v1 := IntWalk.i64_in _ ⟨by omega, by omega⟩
          have e1' : IntKind.i64.wrap (v1 + 0) = v1 := by rw [Int.add_zero]; exact e1
          have e2 : IntKind.i64.wrap (J + v1) = J + v1 := IntWalk.i64_in _ ⟨by omega, by omega⟩
          have e3 : IntKind.i64.wrap ((i : Int) + 1) = (i : Int) + 1 := IntWalk.i64_in _ ⟨by omega, by omega⟩
          have OW := hide ow
          have k1 : ¬ (k : Int) < (k : Int) := by omega
          clear ow b8 n5
          go_wp2_with fail
          go_roundw
          case rel => exact ⟨i + 1, by omega, by go_num, by rw [unhide HJ', unhide HJ, Int.add_zero], by rw [unhide HM', unhide HM]; exact unhide OW, hu⟩
          case measure => simp [intOf]; omega
    · obtain rfl : i = 2 := by omega
      have ow : wr.ownsRow W0.heap.size 144 2 u5 5 (cellsFo F) := by
        have q := ow
        rw [show msF 2 = 5 from rfl, List.take_of_length_le (by rw [unhide HF5]; exact Nat.le_refl _)] at q
        exact q
      rcases ow.2 with ⟨_, h00⟩ | ⟨g, cq, cur, rfl, hbg, _⟩
      · omega
      have bG := bx_ownF ow
      have hF := frs_bx bG
      have hgw : w.heap.size ≤ g := by have := U0.size; omega
      have U1 := hide (up_trans U0 hu)
      clear ow hu hi2 HD HC HT HI hz0 hz1 hz2
      have i1 : ¬ ((2 : Nat) : Int) < 2 := by omega
      go_upto_region 14 with (go_at_call 103; (with_reducible refine (unhide HSt _ _ _ hF).mono ?_); rintro e w3 ⟨rfl, u3⟩)
      have b3 := bx_up bG u3
      have U3 := up_trans (unhide U1) u3
      have z0 : w3.cell? ⟨g, 0, none⟩ = some (.int .i64 0) := by
        obtain ⟨y, hy⟩ := unhide HF0
        obtain ⟨l0, hl0⟩ := List.getElem?_eq_some_iff.1 hy
        have q := (cellsFo_at l0).1
        rw [hl0] at q
        exact (b3 0 _ q).1
      clear bG hF u3 U1 HSt
      go_upto_region 16 with fail
      clear z0
      go_loopw [57] (fun s57 wr => ∃ k : Nat, k ≤ 5 ∧ s57 = .int .i64 k ∧ Bx wr g (cellsFo F) ∧ Up w wr) (fun s57 _ => 5 - (intOf s57).toNat)
      case atStart => exact ⟨0, by omega, rfl, b3, U3⟩
      case round =>
        clear b3 U3
        obtain ⟨k, hk, rfl, bK, hu⟩ := hrel
        by_cases hk5 : k < 5
        · have hl : k < F.length := by rw [unhide HF5]; exact hk5
          have hv := (cellsFo_at hl).1
          obtain ⟨z0, f0⟩ := bK _ _ hv
          obtain ⟨q1, q2⟩ := unhide HFb k hl
          have bN := bx_put bK hv
          generalize F[k].1 = X at *
          have k0 : (0 : Int) ≤ (k : Int) := by omega
          have k1 : (k : Int) < 5 := by omega
          have k3 : (k : Int).toNat = k := by omega
          have hwk : IntKind.i64.wrap ((k : Int) + 1) = (k : Int) + 1 := IntWalk.i64_in _ ⟨by omega, by omega⟩
          have e1 : IntKind.i64.wrap X = X := IntWalk.i64_in _ ⟨by omega, by omega⟩
          have e2 : IntKind.i64.wrap (X - 0) = X := by rw [Int.sub_zero]; exact e1
          have BN := hide bN
          clear bK hv bN
          go_wp2_with fail
          go_roundw
          case rel => exact ⟨k + 1, by omega, by go_num, unhide BN, up_set hu (by simp only; omega) _⟩
          case measure => simp [intOf]; omega
        · obtain rfl : k = 5 := by omega
          have k1 : ¬ ((5 : Nat) : Int) < 5 := by omega
          go_wp2_with fail
          go_ret
          exact ⟨⟨some ⟨g, 0, none⟩, ⟨cq, rfl⟩, frs_bx bK⟩, hu⟩
end Go.Proofs.YthifcalemhpmoaaGreat
