/- The ways along the hull of what the example rubs. -/
import Derived.Test.YtdehnokcjnbjoaaGreatLdF
import Derived.Deep.RegionLaw
namespace Go.Proofs.YtdehnokcjnbjoaaGreat
open Go.RowKit Go.Proofs.Gn
attribute [local go_sem] Oper.semAt_some
set_option linter.unusedVariables false
section
variable {P : Program} (w : World)
theorem wp_append_atL {o : Oper} {a : Act} {K : Act → World → Prop} {Q : Exit → Act → World → Prop} (s x : Operand) (t : TypeId)
    (ho : o.op = .call { callee := .builtin .append, args := #[s, x], argTypes := #[t, t] })
    (base : Nat) (e : TypeId) (i : TypeInfo) (z : Value) (size bytes : Nat) (ht : P.underlying t = some (.slice e)) (hi : P.info? e = some i) (hz : i.zero = some z)
    (hsize : i.size = size) (hby : i.bytes = bytes) (hzs : z.cells.size = size) (hsz : 0 < size)
    (v : Value) (n : Nat) (xs : List Value) (hs : a.eval s = v) (hown : w.ownsRow base e size v n xs)
    (ad : Addr) (m c : Nat) (news : List Value) (hx : a.eval x = .slice (some ad) m c) (hl : news.length = m * size) (hnews : ∀ j u, news[j]? = some u → w.cell? (ad.add j) = some u) (h1 : ∀ u ∈ news, u.oneCell' = true)
    (h63 : n + m ≤ maxLen) (hbytes : (n + m) * bytes ≤ 140737488355328) (hbase : base ≤ w.heap.size)
    (h : ∀ v' w', w'.ownsRow base e size v' (n + m) (xs ++ news) → w.grownBy w' v.ownBlock → (v'.ownBlock = v.ownBlock ∨ v'.ownBlock = some w.heap.size) → K (a.put o.dst v') w') : o.wp P a w K Q := by
  obtain ⟨v', w', hrun, h2, h3, _, h5⟩ := run_append_own_at (P := P) w base t o.type e i z size bytes ht hi hz hsize hby hzs hsz v n xs hown ad m c news hl hnews h1 h63 hbytes hbase
  unfold Oper.wp execOp
  simp only [ho, resolve, invoke, builtin, Sem.run_bind, Sem.run_pure, Result.andThen_ok, List.map_toArray, List.map_cons, List.map_nil, hs, hx, hrun]
  exact h v' w' h2 h3 h5
theorem step_append_atL {ops : Array Oper} {o : Oper} {a : Act} {K : Act → World → Prop} {Q : Exit → Act → World → Prop} {E : Prop} (hgd : o.guard = none) (s x : Operand) (t : TypeId)
    (ho : o.op = .call { callee := .builtin .append, args := #[s, x], argTypes := #[t, t] })
    (base : Nat) (e : TypeId) (i : TypeInfo) (z : Value) (size bytes : Nat) (ht : P.underlying t = some (.slice e)) (hi : P.info? e = some i) (hz : i.zero = some z)
    (hsize : i.size = size) (hby : i.bytes = bytes) (hzs : z.cells.size = size) (hsz : 0 < size)
    (v : Value) (n : Nat) (xs : List Value) (hs : a.eval s = v) (hown : w.ownsRow base e size v n xs)
    (ad : Addr) (m c : Nat) (news : List Value) (hx : a.eval x = .slice (some ad) m c) (hl : news.length = m * size) (hnews : ∀ j u, news[j]? = some u → w.cell? (ad.add j) = some u) (h1 : ∀ u ∈ news, u.oneCell' = true)
    (h63 : n + m ≤ maxLen) (hbytes : (n + m) * bytes ≤ 140737488355328) (hbase : base ≤ w.heap.size)
    (h : ∀ v' w', w'.ownsRow base e size v' (n + m) (xs ++ news) → w.grownBy w' v.ownBlock → (v'.ownBlock = v.ownBlock ∨ v'.ownBlock = some w.heap.size) → K (a.put o.dst v') w') :
    if Region.wanted o (yielded ops a.tmps) = true then Oper.wp P o a w K Q else E := by
  have hw : Region.wanted o (yielded ops a.tmps) = true := by simp [Region.wanted, hgd]
  rw [if_pos hw]
  exact wp_append_atL w s x t ho base e i z size bytes ht hi hz hsize hby hzs hsz v n xs hs hown ad m c news hx hl hnews h1 h63 hbytes hbase h
theorem step_callL {ops : Array Oper} {o : Oper} {a : Act} {K : Act → World → Prop} {Q : Exit → Act → World → Prop} {E : Prop} (hgd : o.guard = none) (f : FuncId) (vals : Array Value)
    (he : (execOp a.eval o).run P w = .ok (.enter f vals) w) (h : Calls P f vals w fun e w' => ∃ v, e = .returned v ∧ K (a.put o.dst v) w') :
    if Region.wanted o (yielded ops a.tmps) = true then Oper.wp P o a w K Q else E := by
  have hw : Region.wanted o (yielded ops a.tmps) = true := by simp [Region.wanted, hgd]
  rw [if_pos hw]
  unfold Oper.wp
  rw [he, Oper.upon_enter]
  exact h.mono fun e w' ⟨v, hv, hk⟩ => by subst hv; exact hk
end
/-- The ways, one by one. -/
def waP (k : Nat) : Int × Int := waL.getD k (0, 0)
theorem waP_way : ∀ k, k < 8 → waP k = ((huP ((k + 1) % 8)).1 - (huP k).1, (huP ((k + 1) % 8)).2 - (huP k).2) := by decide
theorem waL_take : ∀ k, k < 8 → waL.take (k + 1) = waL.take k ++ [waP k] := by decide
theorem pts_huP {W : World} {b off : Nat} (h : ∀ k (hk : k < huL.length), W.cell? ⟨b, off + k * 2, none⟩ = some (.int .i64 huL[k].1) ∧ W.cell? ⟨b, off + k * 2 + 1, none⟩ = some (.int .i64 huL[k].2)) (k : Nat) (hk : k < 8) : W.cell? ⟨b, off + k * 2, none⟩ = some (.int .i64 (huP k).1) ∧ W.cell? ⟨b, off + k * 2 + 1, none⟩ = some (.int .i64 (huP k).2) := by
  have hl : k < huL.length := by simp [huL]; omega
  have e : huP k = huL[k] := by unfold huP; simp [hl]
  rw [e]
  exact h k hl
set_option maxRecDepth 100000 in
set_option maxHeartbeats 16000000 in
theorem p_sidesH (A : Option Addr) (cap : Nat) (w : World) (h : Pts w A huL) :
    Calls Tryz.prog 152 #[.slice A 8 cap] w fun e w' => (∃ g c, e = .returned (.slice (some ⟨g, 0, none⟩) 8 c) ∧ w'.ownsRow w.heap.size 55 2 (.slice (some ⟨g, 0, none⟩) 8 c) 8 (cellsLd waL)) ∧ Up w w' := by
  obtain ⟨b, off, rfl, hc0⟩ := h.resolve_left (by simp [huL])
  have HC := hide (fun k hk => pts_huP hc0 k hk)
  have HM := hide (fun x y p q W e1 e2 => p_minusL x y p q W e1 e2)
  obtain ⟨i0', hi, hz0, hz1, hz2⟩ := info_parts info_pt
  have HI := hide hi
  clear h hc0 hi
  go_enter Tryz.func152, Tryz.ntmps152
  go_upto_region 5 with fail
  go_loopw [3, 11] (fun s3 s11 wr => ∃ k : Nat, k ≤ 8 ∧ s11 = .int .i64 k ∧ wr.ownsRow w.heap.size 55 2 s3 k (cellsLd (waL.take k)) ∧ Up w wr) (fun _ s11 _ => 8 - (intOf s11).toNat)
  case atStart => exact ⟨0, by omega, rfl, World.ownsRow_nil _ _ _ _, up_refl _⟩
  case round =>
    obtain ⟨k, hk, rfl, ow, hu⟩ := hrel
    by_cases hlt : k < 8
    · obtain ⟨c0, c1⟩ := unhide HC k hlt
      obtain ⟨d0, d1⟩ := unhide HC ((k + 1) % 8) (Nat.mod_lt _ (by omega))
      have c0' := up_cell hu c0
      have c1' := up_cell hu c1
      have d0' := up_cell hu d0
      have d1' := up_cell hu d1
      have n1 := huP_nr k hlt
      have n2 := huP_nr ((k + 1) % 8) (Nat.mod_lt _ (by omega))
      have hw := waP_way k hlt
      have HCw := hide (show cellsLd (waL.take (k + 1)) = cellsLd (waL.take k) ++ [.int .i64 ((huP ((k + 1) % 8)).1 - (huP k).1), .int .i64 ((huP ((k + 1) % 8)).2 - (huP k).2)] by rw [waL_take k hlt, hw, cellsLd_snoc])
      have hm1 : ((k : Int) + 1).tmod 8 = (((k + 1) % 8 : Nat) : Int) := by rw [Int.tmod_eq_emod_of_nonneg (by omega)]; omega
      have hm2 : ((k : Int) + 1) % 8 = (((k + 1) % 8 : Nat) : Int) := by omega
      have hm8 : (k + 1) % 8 < 8 := Nat.mod_lt _ (by omega)
      obtain ⟨j, hj⟩ : ∃ j, (k + 1) % 8 = j := ⟨_, rfl⟩
      rw [hj] at d0' d1' n2 HCw hm1 hm2 hm8
      unfold Nr at n1 n2
      generalize (huP k).1 = x at *
      generalize (huP k).2 = y at *
      generalize (huP j).1 = p at *
      generalize (huP j).2 = q at *
      have HM1 := hide (fun W => unhide HM p q x y W (i64_small (by omega)) (i64_small (by omega)))
      have i0 : (0 : Int) ≤ (k : Int) := by omega
      have i1 : (k : Int) < 8 := by omega
      have i3 : (k : Int).toNat = k := by omega
      have hwk : IntKind.i64.wrap ((k : Int) + 1) = (k : Int) + 1 := IntWalk.i64_in _ ⟨by omega, by omega⟩
      have j0 : (0 : Int) ≤ (j : Int) := by omega
      have j1 : (j : Int) < 8 := by omega
      have j3 : (j : Int).toNat = j := by omega
      have hwj : IntKind.i64.wrap (j : Int) = (j : Int) := IntWalk.i64_in _ ⟨by omega, by omega⟩
      have OW := hide ow
      clear ow hw hj n1 n2 c0 c1 d0 d1
      generalize p - x = r1 at *
      generalize q - y = r2 at *
      go_upto_region 7 with fail
      refine at_wpC (fun W6 hW6 => ?_)
      have u6 : Up wr W6 := by rw [hW6]; exact (by repeat' (first | (with_reducible exact up_refl _) | (with_reducible assumption) | (with_reducible refine up_alloc ?_ _) | (with_reducible refine up_drewN ?_ _) | (with_reducible refine up_drew ?_) | (with_reducible refine up_set ?_ (by first | (simp; done) | (simp; omega) | omega) _) | (refine up_trans ?_ (by with_reducible assumption))))
      have b5 : Bx W6 wr.heap.size [.int .i64 x, .int .i64 y] := by rw [hW6]; exact bx_new wr _ _
      obtain ⟨g5, hg⟩ : ∃ g, wr.heap.size = g := ⟨_, rfl⟩
      rw [hg] at b5 ⊢
      have OW6 := hide (own_up (unhide OW) u6)
      have U6 := hide (up_trans hu u6)
      have e0 := up_cell u6 d0'
      have e1 := up_cell u6 d1'
      have y0 := (b5 0 _ rfl).1
      have y1 := (b5 1 _ rfl).1
      clear hW6 hg OW hu u6 c0' c1' d0' d1' b5
      go_region_law (first
        | (refine step_append_atL _ rfl (.tmp 16) (.tmp 27) 37 rfl w.heap.size 55 i0' _ 2 16 Tryz.underlying37 (unhide HI) hz0 hz1 hz2 rfl (Nat.zero_lt_succ _) _ k (cellsLd (waL.take k)) rfl ((own_up (unhide OW6) (by repeat' (first | (with_reducible exact up_refl _) | (with_reducible assumption) | (with_reducible refine up_alloc ?_ _) | (with_reducible refine up_drewN ?_ _) | (with_reducible refine up_drew ?_) | (with_reducible refine up_set ?_ (by first | (simp; done) | (simp; omega) | omega) _) | (refine up_trans ?_ (by with_reducible assumption))))).alloc _) ⟨w7.heap.size, 0, none⟩ 1 1 [.int .i64 r1, .int .i64 r2] rfl rfl (news_pt _ _ _) (by intro u hu; simp at hu; rcases hu with rfl | rfl <;> rfl) (by unfold maxLen; omega) (by omega) (by have := (unhide U6).size; have := u7.size; simp at *; omega) ?_; intro v' w8 hown' hgrow hat)
        | (refine step_callL _ rfl 144 #[pt p q, pt x y] (by first | (go_simp; done) | kernel_rfl) ?_; refine (unhide HM1 _).mono ?_; rintro e w7 ⟨rfl, u7⟩; refine ⟨_, rfl, ?_⟩))
      all_goals
        have U7 : Up w w7 := up_trans (unhide U6) (up_trans (by repeat' (first | (with_reducible exact up_refl _) | (with_reducible assumption) | (with_reducible refine up_alloc ?_ _) | (with_reducible refine up_drewN ?_ _) | (with_reducible refine up_drew ?_) | (with_reducible refine up_set ?_ (by first | (simp; done) | (simp; omega) | omega) _) | (refine up_trans ?_ (by with_reducible assumption)))) u7)
        have R1 := hide (show w8.ownsRow w.heap.size 55 2 v' (k + 1) (cellsLd (waL.take (k + 1))) by rw [unhide HCw]; exact hown')
        have R2 := hide (show Up w w8 from (up_alloc U7 _).grown hgrow (up_alloc U7 _).size fun g hg => (unhide OW6).lt g hg |>.1)
        clear hown' hgrow hat
        go_wp2_with fail
        go_roundw
        case rel => exact ⟨k + 1, by omega, by first | rfl | trivial | go_num, unhide R1, unhide R2⟩
        case measure => first | (simp [intOf]; done) | (simp [intOf]; omega)
    · obtain rfl : k = 8 := by omega
      rw [show waL.take 8 = waL from rfl] at ow
      obtain ⟨q4, c4, rfl⟩ : ∃ q c, u3 = .slice (some ⟨q, 0, none⟩) 8 c := by
        rcases ow.2 with ⟨_, h2⟩ | ⟨g', c', cur, h1, _⟩
        · omega
        · exact ⟨g', c', h1⟩
      have OW := hide ow
      clear ow
      have i1 : ¬ ((8 : Nat) : Int) < 8 := by omega
      go_wp2_with fail
      go_ret
      exact ⟨⟨q4, c4, rfl, unhide OW⟩, hu⟩
end Go.Proofs.YtdehnokcjnbjoaaGreat
