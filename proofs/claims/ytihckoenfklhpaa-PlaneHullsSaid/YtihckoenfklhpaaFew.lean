/- The first few points of a list of small points: a list of the call's own. -/
import Derived.Test.YtihckoenfklhpaaOpenPts
import Derived.Test.YtihckoenfklhpaaNum
import Derived.Test.YtihckoenfklhpaaBx
import Derived.Deep.RegionLaw
import Derived.OwnWalk
namespace Go.Proofs.Ytihckoenfklhpaa
open Go.RowKit Go.Proofs.Gn
section
variable {P : Program} (w : World)
theorem wp_append_mine {o : Oper} {a : Act} {K : Act → World → Prop} {Q : Exit → Act → World → Prop} (s x : Operand) (t : TypeId)
    (ho : o.op = .call { callee := .builtin .append, args := #[s, x], argTypes := #[t, t] })
    (base : Nat) (e : TypeId) (i : TypeInfo) (z : Value) (size bytes : Nat) (ht : P.underlying t = some (.slice e)) (hi : P.info? e = some i) (hz : i.zero = some z)
    (hsize : i.size = size) (hby : i.bytes = bytes) (hzs : z.cells.size = size) (hsz : 0 < size)
    (v : Value) (n : Nat) (xs : List Value) (hs : a.eval s = v) (hown : w.ownsRow base e size v n xs)
    (ad : Addr) (m c : Nat) (news : List Value) (hx : a.eval x = .slice (some ad) m c) (hl : news.length = m * size) (hnews : ∀ j u, news[j]? = some u → w.cell? (ad.add j) = some u) (h1 : ∀ u ∈ news, u.oneCell' = true)
    (h63 : n + m ≤ maxLen) (hbytes : (n + m) * bytes ≤ 140737488355328) (hbase : base ≤ w.heap.size)
    (h : ∀ v' w', w'.ownsRow base e size v' (n + m) (xs ++ news) → w.grownBy w' v.ownBlock → K (a.put o.dst v') w') : o.wp P a w K Q := by
  obtain ⟨v', w', hrun, h2, h3, _⟩ := run_append_own (P := P) w base t o.type e i z size bytes ht hi hz hsize hby hzs hsz v n xs hown ad m c news hl hnews h1 h63 hbytes hbase
  unfold Oper.wp execOp
  simp only [ho, resolve, invoke, builtin, Sem.run_bind, Sem.run_pure, Result.andThen_ok, List.map_toArray, List.map_cons, List.map_nil, hs, hx, hrun]
  exact h v' w' h2 h3
theorem step_append_mine {ops : Array Oper} {o : Oper} {a : Act} {K : Act → World → Prop} {Q : Exit → Act → World → Prop} {E : Prop} (hgd : o.guard = none) (s x : Operand) (t : TypeId)
    (ho : o.op = .call { callee := .builtin .append, args := #[s, x], argTypes := #[t, t] })
    (base : Nat) (e : TypeId) (i : TypeInfo) (z : Value) (size bytes : Nat) (ht : P.underlying t = some (.slice e)) (hi : P.info? e = some i) (hz : i.zero = some z)
    (hsize : i.size = size) (hby : i.bytes = bytes) (hzs : z.cells.size = size) (hsz : 0 < size)
    (v : Value) (n : Nat) (xs : List Value) (hs : a.eval s = v) (hown : w.ownsRow base e size v n xs)
    (ad : Addr) (m c : Nat) (news : List Value) (hx : a.eval x = .slice (some ad) m c) (hl : news.length = m * size) (hnews : ∀ j u, news[j]? = some u → w.cell? (ad.add j) = some u) (h1 : ∀ u ∈ news, u.oneCell' = true)
    (h63 : n + m ≤ maxLen) (hbytes : (n + m) * bytes ≤ 140737488355328) (hbase : base ≤ w.heap.size)
    (h : ∀ v' w', w'.ownsRow base e size v' (n + m) (xs ++ news) → w.grownBy w' v.ownBlock → K (a.put o.dst v') w') :
    if Region.wanted o (yielded ops a.tmps) = true then Oper.wp P o a w K Q else E := by
  have hw : Region.wanted o (yielded ops a.tmps) = true := by simp [Region.wanted, hgd]
  rw [if_pos hw]
  exact wp_append_mine w s x t ho base e i z size bytes ht hi hz hsize hby hzs hsz v n xs hs hown ad m c news hx hl hnews h1 h63 hbytes hbase h
end
/-- The slice at A holds these small points. -/
def Smalls (w : World) (A : Option Addr) (ps : Pl) : Prop :=
  ps = [] ∨ ∃ b off, A = some ⟨b, off, none⟩ ∧ ∀ k (h : k < ps.length), w.cell? ⟨b, off + k * 2, none⟩ = some (.int .i8 ps[k].1) ∧ w.cell? ⟨b, off + k * 2 + 1, none⟩ = some (.int .i8 ps[k].2) ∧ (-128 ≤ ps[k].1 ∧ ps[k].1 ≤ 127) ∧ (-128 ≤ ps[k].2 ∧ ps[k].2 ≤ 127)
/-- The cells of points that lie one after another. -/
def cellsPl (ps : Pl) : List Value := ps.flatMap fun p => [.int .i64 p.1, .int .i64 p.2]
theorem cellsPl_snoc (ps : Pl) (x y : Int) : cellsPl (ps ++ [(x, y)]) = cellsPl ps ++ [.int .i64 x, .int .i64 y] := by simp [cellsPl]
theorem info_pt : (Try.prog.info? 24).map (fun i => (i.zero, i.size, i.bytes)) = some (some (.agg #[.int .i64 0, .int .i64 0]), 2, 16) := by kernel_rfl
theorem two_new (W : World) (x y : Value) (t : TypeId) : ∀ j u, [x, y][j]? = some u → (W.alloc (.cells #[x, y] t)).cell? ((⟨W.heap.size, 0, none⟩ : Addr).add j) = some u := by
  intro j u hj
  have b := bx_new W [x, y] t
  match j, hj with
  | 0, hj => simp at hj; subst hj; exact (bx2 b).1
  | 1, hj => simp at hj; subst hj; exact (bx2 b).2
  | (j + 2), hj => simp at hj
theorem few_rel {w W W' w1 : World} {v v' : Value} {k : Nat} {ps : Pl} {x y : Int} (ht : ps.take (k + 1) = ps.take k ++ [(x, y)]) (ho : W'.ownsRow w.heap.size 24 2 v k (cellsPl (ps.take k))) (hb : Below w.heap.size w W)
    (hown : w1.ownsRow w.heap.size 24 2 v' (k + 1) (cellsPl (ps.take k) ++ [.int .i64 x, .int .i64 y])) (hg : W.grownBy w1 v.ownBlock) :
    w1.ownsRow w.heap.size 24 2 v' (k + 1) (cellsPl (ps.take (k + 1))) ∧ Below w.heap.size w w1 := by
  rw [ht, cellsPl_snoc]
  exact ⟨hown, hb.grown hg hb.size fun j hj => (ho.lt j hj).1⟩
set_option maxRecDepth 100000 in
set_option maxHeartbeats 2000000 in
theorem l_fewN (M : Nat) (hM : M ≤ 1000) (A : Option Addr) (ps : Pl) (cap : Nat) (w : World) (h : Smalls w A ps) (hn : ps.length ≤ 9223372036854775807) :
    Calls Try.prog 28 #[.slice A ps.length cap, .int .i64 (M : Int)] w fun e w' => ∃ v, e = .returned v ∧ w'.ownsRow w.heap.size 24 2 v (ps.take M).length (cellsPl (ps.take M)) ∧ Below w.heap.size w w' := by
  have HS := hide h
  clear h
  obtain ⟨n, hN⟩ : ∃ n, ps.length = n := ⟨_, rfl⟩
  rw [hN] at hn ⊢
  have HN := hide hN
  clear hN
  obtain ⟨i0, hi, hz0, hz1, hz2⟩ := info_parts info_pt
  have HI := hide hi
  clear hi
  go_enter Try.func28, Try.ntmps28
  go_wp2_with fail
  go_loopw [5, 6] (fun v i wr => ∃ k : Nat, k ≤ n ∧ k ≤ M ∧ i = .int .i64 k ∧ wr.ownsRow w.heap.size 24 2 v k (cellsPl (ps.take k)) ∧ Below w.heap.size w wr) (fun _ i _ => M - (intOf i).toNat)
  case atStart => exact ⟨0, Nat.zero_le _, Nat.zero_le _, rfl, World.ownsRow_nil _ _ _ _, Below.refl _ _⟩
  case round =>
    obtain ⟨k, hk, hk2, rfl, hown, hb⟩ := hrel
    by_cases hlt : k < n ∧ k < M
    · obtain ⟨h1, h2⟩ := hlt
      have h1' : (k : Int) < (n : Int) := by omega
      have h2' : (k : Int) < (M : Int) := by omega
      have hl : k < ps.length := by rw [unhide HN]; omega
      obtain ⟨b, off, rfl, hc⟩ := (unhide HS).resolve_left (by intro e; rw [e] at hl; simp at hl)
      obtain ⟨c0, c1, x0, y0⟩ := hc k hl
      have ht : ps.take (k + 1) = ps.take k ++ [(ps[k].1, ps[k].2)] := by rw [List.take_succ_eq_append_getElem hl]
      obtain ⟨x, hx⟩ : ∃ x, ps[k].1 = x := ⟨_, rfl⟩
      obtain ⟨y, hy⟩ : ∃ y, ps[k].2 = y := ⟨_, rfl⟩
      rw [hx] at c0 x0 ht
      rw [hy] at c1 y0 ht
      have d0 := up_cell hb c0
      have d1 := up_cell hb c1
      have HT := hide ht
      have HO := hide hown
      have HB := hide hb
      clear ht hown hb hc c0 c1 hx hy
      have W1 : IntKind.i64.wrap x = x := IntWalk.i64_in _ ⟨by omega, by omega⟩
      have W2 : IntKind.i64.wrap y = y := IntWalk.i64_in _ ⟨by omega, by omega⟩
      go_wp2_with fail
      go_region_law (refine step_append_mine _ rfl (.tmp 18) (.tmp 32) 22 rfl w.heap.size 24 i0 _ 2 16 Try.underlying22 (unhide HI) hz0 hz1 hz2 rfl (Nat.zero_lt_succ _) _ k (cellsPl (ps.take k)) rfl ((unhide HO).alloc _) ⟨wr.heap.size, 0, none⟩ 1 1 [.int .i64 x, .int .i64 y] rfl rfl (two_new _ _ _ _) (by intro u hu; simp at hu; rcases hu with rfl | rfl <;> rfl) (by unfold maxLen; omega) (by omega) (by have := (unhide HB).size; simp; omega) ?_; intro v' w1 hown' hgrow)
      all_goals
        have R := few_rel (unhide HT) (unhide HO) (Below.drew (Below.alloc (unhide HB) (unhide HB).size _)) hown' hgrow
        have R1 := hide R.1
        have R2 := hide R.2
        clear R hown' hgrow
        go_wp2_with fail
        go_roundw
        case rel => exact ⟨k + 1, by omega, by omega, by go_num, unhide R1, unhide R2⟩
        case measure => simp [intOf]; omega
    · have HO := hide hown
      have HB := hide hb
      clear hown hb
      have e : ps.take k = ps.take M := by
        by_cases h12 : k = M
        · rw [h12]
        · have hkn : k = n := by omega
          rw [List.take_of_length_le (by rw [unhide HN]; omega), List.take_of_length_le (by rw [unhide HN]; omega)]
      have e2 : (ps.take M).length = k := by rw [← e, List.length_take, unhide HN]; omega
      have hf := unhide HO
      rw [e, ← e2] at hf
      have HF := hide hf
      clear e e2 hf
      by_cases h1 : k < n
      · have h1' : (k : Int) < (n : Int) := by omega
        have h2' : (M : Int) ≤ (k : Int) := by omega
        clear hk2 hlt hk h1
        go_wp2_with fail
        exact bodyPost_ret (by simp [results, Try.results28, go_sem]) rfl ⟨_, rfl, unhide HF, unhide HB⟩
      · have h1' : (n : Int) ≤ (k : Int) := by omega
        go_wp2_with fail
        exact bodyPost_ret (by simp [results, Try.results28, go_sem]) rfl ⟨_, rfl, unhide HF, unhide HB⟩
theorem l_few (A : Option Addr) (ps : Pl) (cap : Nat) (w : World) (h : Smalls w A ps) (hn : ps.length ≤ 9223372036854775807) :
    Calls Try.prog 28 #[.slice A ps.length cap, .int .i64 12] w fun e w' => ∃ v, e = .returned v ∧ w'.ownsRow w.heap.size 24 2 v (ps.take 12).length (cellsPl (ps.take 12)) ∧ Below w.heap.size w w' := l_fewN 12 (by omega) A ps cap w h hn
end Go.Proofs.Ytihckoenfklhpaa
