/- The reference's sorted list: what it is, and that it is found. The reference's sorted list is found. The reference's corners on one side, and its hull. The reference's corners: they are those of the hull. The reference's Hull, IsHull and Has. -/
import Derived.Test.YtihckoenfklhpaaHullOwn
import Derived.Test.YtihckoenfklhpaaUpQ
import Derived.BigRegion
import Derived.Deep.RegionLaw
import Derived.Test.YtihckoenfklhpaaSame
import Derived.Test.YtihckoenfklhpaaWay
namespace Go.Proofs.Gx
/-- Where a point is put in. -/
theorem insU_at (p : P2) : ∀ (s : List P2) (k : Nat), k ≤ s.length → (∀ i, i < k → lt2 (g s i) p) → (k < s.length → ¬ lt2 (g s k) p) → insU p s = if k < s.length ∧ g s k = p then s else s.take k ++ p :: s.drop k := by
  intro s
  induction s with
  | nil =>
    intro k hk _ _
    obtain rfl : k = 0 := by simpa using hk
    simp [insU]
  | cons a l ih =>
    intro k hk h1 h2
    match k with
    | 0 =>
      have n := h2 (by simp)
      unfold insU
      rw [g_zero] at n ⊢
      rw [if_neg n]
      by_cases e : a = p
      · rw [if_pos e, if_pos ⟨by simp, e⟩]
      · rw [if_neg e, if_neg (fun h => e h.2)]
        simp
    | k + 1 =>
      have hl := h1 0 (by omega)
      rw [g_zero] at hl
      unfold insU
      rw [if_pos hl, ih k (by simpa using hk) (fun i hi => by have := h1 (i + 1) (by omega); rwa [g_succ] at this) (fun hk => by have := h2 (by simpa using hk); rwa [g_succ] at this), g_succ]
      by_cases c : k < l.length ∧ g l k = p
      · rw [if_pos c, if_pos ⟨by simpa using c.1, c.2⟩]
      · rw [if_neg c, if_neg (fun h => c ⟨by simpa using h.1, h.2⟩)]
        simp
end Go.Proofs.Gx
namespace Go.Proofs.Ytihckoenfklhpaa
open Go.RowKit Go.Proofs.Gn
def ltB (ax ay bx b_y : Int) : Bool := decide (ax < bx) || (decide (ax = bx) && decide (ay < b_y))
theorem ltB_iff {a b : Int × Int} : ltB a.1 a.2 b.1 b.2 = true ↔ Gx.lt2 a b := by
  unfold ltB Gx.lt2
  simp
theorem r_before (ax ay bx b_y : Int) (w : World) : Calls Try.prog 93 #[pt ax ay, pt bx b_y] w fun e w' => e = .returned (.bool (ltB ax ay bx b_y)) ∧ Up w w' := by
  unfold ltB
  by_cases h1 : ax < bx
  · have d1 : decide (ax < bx) = true := decide_eq_true h1
    rw [d1]
    go_enter Try.func93, Try.ntmps93
    go_wp2_with fail
    go_ret
    exact ⟨rfl, (by repeat' (first | (with_reducible exact up_refl _) | (with_reducible assumption) | (with_reducible refine up_alloc ?_ _) | (with_reducible refine up_drewN ?_ _) | (with_reducible refine up_drew ?_) | (with_reducible refine up_set ?_ (by first | (simp; done) | (simp; omega) | omega) _) | (refine up_trans ?_ (by with_reducible assumption))))⟩
  · have d1 : decide (ax < bx) = false := decide_eq_false h1
    rw [d1]
    by_cases h2 : ax = bx
    · subst h2
      have d2 : (ax == ax) = true := by simp
      simp only [decide_true, Bool.true_and, Bool.false_or]
      go_enter Try.func93, Try.ntmps93
      go_wp2_with fail
      go_ret
      exact ⟨rfl, (by repeat' (first | (with_reducible exact up_refl _) | (with_reducible assumption) | (with_reducible refine up_alloc ?_ _) | (with_reducible refine up_drewN ?_ _) | (with_reducible refine up_drew ?_) | (with_reducible refine up_set ?_ (by first | (simp; done) | (simp; omega) | omega) _) | (refine up_trans ?_ (by with_reducible assumption))))⟩
    · have d2 : (ax == bx) = false := beq_false_of_ne h2
      rw [decide_eq_false h2]
      go_enter Try.func93, Try.ntmps93
      go_wp2_with fail
      go_ret
      exact ⟨rfl, (by repeat' (first | (with_reducible exact up_refl _) | (with_reducible assumption) | (with_reducible refine up_alloc ?_ _) | (with_reducible refine up_drewN ?_ _) | (with_reducible refine up_drew ?_) | (with_reducible refine up_set ?_ (by first | (simp; done) | (simp; omega) | omega) _) | (refine up_trans ?_ (by with_reducible assumption))))⟩
section
variable {P : Program} (w : World)
/-- Nothing is appended. -/
theorem run_append_empty (t ty e : TypeId) (i : TypeInfo) (ht : P.underlying t = some (.slice e)) (hi : P.info? e = some i) (b : Option Addr) (n c : Nat) (h : n ≤ c) :
    (Builtin.append_ #[t, t] ty #[.slice b n c, .slice none 0 0]).run P w = .ok (.slice b n c) w := by
  cases b <;> simp [Builtin.append_, run_underlying ht, sizeOf, typeInfo, hi, Builtin.lenOf, Builtin.firstCells, h, storeCells]
end
end Go.Proofs.Ytihckoenfklhpaa
namespace Go.Proofs.Ytihckoenfklhpaa
open Go.RowKit Go.Proofs.Gn
/-- The sorted list of the first k points. -/
def so (ps : Pl) (k : Nat) : Pl := Gx.sortU (ps.take k)
theorem so_zero (ps : Pl) : so ps 0 = [] := rfl
theorem so_succ {ps : Pl} {k : Nat} (hk : k < ps.length) : so ps (k + 1) = Gx.insU (Gx.g ps k) (so ps k) := by
  unfold so
  rw [List.take_succ_eq_append_getElem hk, Gx.sortU_snoc, Gx.g_eq hk]
theorem so_len (ps : Pl) : ∀ k, k ≤ ps.length → (so ps k).length ≤ k := by
  intro k
  induction k with
  | zero => intro _; simp [so_zero]
  | succ k ih =>
    intro hk
    have h := ih (by omega)
    rw [so_succ (show k < ps.length by omega)]
    have key : ∀ (p : Int × Int) (l : Pl), (Gx.insU p l).length ≤ l.length + 1 := by
      intro p l
      induction l with
      | nil => simp [Gx.insU]
      | cons a l ih =>
        unfold Gx.insU
        split
        · simp only [List.length_cons]; omega
        · split
          · simp only [List.length_cons]; omega
          · simp only [List.length_cons]; omega
    have := key (Gx.g ps k) (so ps k)
    omega
theorem so_all (ps : Pl) : so ps ps.length = Gx.sortU ps := by unfold so; rw [List.take_length]
/-- A cell outside the grown row. -/
theorem cell_grown {W W' : World} {row : Option Nat} (hg : W.grownBy W' row) {p : Addr} {v : Value} (hc : W.cell? p = some v) (hne : some p.block ≠ row) : W'.cell? p = some v := by
  have hlt := World.block_lt_of_cell? _ _ hc
  have e := hg.block p.block hlt hne
  unfold World.cell? at hc ⊢
  rw [e]
  exact hc
theorem two_grown {W W' : World} {row : Option Nat} (hg : W.grownBy W' row) {b : Nat} {x y : Value} (h : ∀ j u, [x, y][j]? = some u → W.cell? ((⟨b, 0, none⟩ : Addr).add j) = some u) (hne : some b ≠ row) : ∀ j u, [x, y][j]? = some u → W'.cell? ((⟨b, 0, none⟩ : Addr).add j) = some u := fun j u hj => by
  have e : ((⟨b, 0, none⟩ : Addr).add j).block = b := by unfold Addr.add; split <;> rfl
  exact cell_grown hg (h j u hj) (by rw [e]; exact hne)
theorem two_alloc {W : World} {b : Nat} {x y : Value} (h : ∀ j u, [x, y][j]? = some u → W.cell? ((⟨b, 0, none⟩ : Addr).add j) = some u) (o : Obj) : ∀ j u, [x, y][j]? = some u → (W.alloc o).cell? ((⟨b, 0, none⟩ : Addr).add j) = some u := fun j u hj => alloc_cell o (h j u hj)
theorem ins_cells (s : Pl) (j : Nat) (p1 p2 : Int) : (([] ++ cellsPl (s.take j)) ++ [.int .i64 p1, .int .i64 p2]) ++ cellsPl (s.drop j) = cellsPl (s.take j ++ (p1, p2) :: s.drop j) := by simp [cellsPl]
theorem sz1' (w : World) (o : Obj) : (w.alloc o).heap.size = w.heap.size + 1 := by
  unfold World.alloc
  exact Array.size_push _
theorem own_empty2 (W : World) (o : Obj) (e B : Nat) (hB : B ≤ W.heap.size) : ((W.alloc o).alloc (.cells #[] e)).ownsRow B e 2 (.slice (some ⟨W.heap.size + 1, 0, none⟩) 0 0) 0 [] := by
  have q := own_empty (W.alloc o) e B (by rw [sz1']; omega)
  rw [sz1'] at q
  exact q
theorem own_empty2D (W : World) (o : Obj) (e B : Nat) (hB : B ≤ W.heap.size) : ((W.alloc o).alloc (.cells #[] e)).drew.ownsRow B e 2 (.slice (some ⟨W.heap.size + 1, 0, none⟩) 0 0) 0 [] := own_empty2 W o e B hB
theorem two_new2 (W : World) (o : Obj) (x y : Value) (t : TypeId) : ∀ j u, [x, y][j]? = some u → ((W.alloc o).alloc (.cells #[x, y] t)).cell? ((⟨W.heap.size + 1, 0, none⟩ : Addr).add j) = some u := by
  have q := two_new (W.alloc o) x y t
  rw [sz1'] at q
  exact q
theorem own_ins {W : World} {B B' e m j : Nat} {v : Value} {s : Pl} {p1 p2 : Int} {X : List Value} (hs : s.length = m) (hj : j ≤ m) (hB : B ≤ B') (h : W.ownsRow B' e 2 v (0 + j + 1 + (m - j)) X) (hX : X = cellsPl (s.take j ++ (p1, p2) :: s.drop j)) :
    W.ownsRow B e 2 v (s.take j ++ (p1, p2) :: s.drop j).length (cellsPl (s.take j ++ (p1, p2) :: s.drop j)) := by
  subst hX
  have e1 : (s.take j ++ (p1, p2) :: s.drop j).length = 0 + j + 1 + (m - j) := by rw [List.length_append, List.length_cons, List.length_take, List.length_drop, hs]; omega
  rw [e1]
  exact own_base h hB
theorem step_append_empty {P : Program} {w : World} {ops : Array Oper} {o : Oper} {a : Act} {K : Act → World → Prop} {Q : Exit → Act → World → Prop} {E : Prop} (hgd : o.guard = none) (s x : Operand) (t : TypeId)
    (ho : o.op = .call { callee := .builtin .append, args := #[s, x], argTypes := #[t, t] })
    (e : TypeId) (i : TypeInfo) (ht : P.underlying t = some (.slice e)) (hi : P.info? e = some i)
    (b : Option Addr) (n c : Nat) (hs : a.eval s = .slice b n c) (hx : a.eval x = .slice none 0 0) (hnc : n ≤ c) (h : K (a.put o.dst (.slice b n c)) w) :
    if Region.wanted o (yielded ops a.tmps) = true then Oper.wp P o a w K Q else E := by
  have hw : Region.wanted o (yielded ops a.tmps) = true := by simp [Region.wanted, hgd]
  rw [if_pos hw]
  have hrun := run_append_empty (P := P) w t o.type e i ht hi b n c hnc
  unfold Oper.wp execOp
  simp only [ho, resolve, invoke, builtin, Sem.run_bind, Sem.run_pure, Result.andThen_ok, List.map_toArray, List.map_cons, List.map_nil, hs, hx, hrun]
  exact h
theorem so_ne {ps : Pl} {k : Nat} (hk : k ≤ ps.length) (h0 : 0 < k) : so ps k ≠ [] := Gx.sortU_ne fun e => by
  have := congrArg List.length e
  rw [List.length_take, List.length_nil] at this
  omega
set_option maxRecDepth 100000 in
set_option maxHeartbeats 40000000 in
theorem r_sorted (A : Option Addr) (ps : Pl) (cap : Nat) (w : World) (h : Pts w A ps) (hn : ps.length ≤ 100000) :
    Calls Try.prog 69 #[.slice A ps.length cap] w fun e w' => ∃ v, e = .returned v ∧ w'.ownsRow w.heap.size 24 2 v (Gx.sortU ps).length (cellsPl (Gx.sortU ps)) ∧ Up w w' := by
  have HS := hide h
  have HL := hide (so_len ps)
  have HZ := hide (so_all ps)
  clear h
  obtain ⟨n, hN⟩ : ∃ n, ps.length = n := ⟨_, rfl⟩
  rw [hN] at hn HL HZ ⊢
  have HN := hide hN
  clear hN
  obtain ⟨i0', hi, hz0, hz1, hz2⟩ := info_parts info_pt
  have HI := hide hi
  clear hi
  go_enter Try.func69, Try.ntmps69
  go_wp2_with fail
  go_loopw [3, 4] (fun out i wr => ∃ k : Nat, k ≤ n ∧ i = .int .i64 k ∧ wr.ownsRow w.heap.size 24 2 out (so ps k).length (cellsPl (so ps k)) ∧ Up w wr ∧ Hid (k = 0 → out = .slice none 0 0)) (fun _ i _ => n - (intOf i).toNat)
  case atStart => exact ⟨0, Nat.zero_le _, rfl, World.ownsRow_nil _ _ _ _, up_refl _, hide (fun _ => rfl)⟩
  case round =>
    obtain ⟨wo, rfl⟩ : ∃ wo, wo = wr := ⟨_, rfl⟩
    obtain ⟨k, hk, rfl, hown, hu, HNIL⟩ := hrel
    by_cases hlt : k < n
    · have h1' : (k : Int) < (n : Int) := by omega
      have hl : k < ps.length := by rw [unhide HN]; exact hlt
      obtain ⟨pb, poff, rfl, hc⟩ := (unhide HS).resolve_left (by intro e; rw [e] at hl; simp at hl)
      obtain ⟨x0, x1⟩ := pts_g hc hl
      have hsu := so_succ hl
      obtain ⟨X, hX⟩ : ∃ X, Gx.g ps k = X := ⟨_, rfl⟩
      rw [hX] at x0 x1 hsu
      obtain ⟨p1, p2⟩ := X
      have hml := unhide HL k hk
      obtain ⟨s, hs⟩ : ∃ s, so ps k = s := ⟨_, rfl⟩
      have hk0 : s.length = 0 → k = 0 := fun e => Nat.eq_zero_of_not_pos fun c => so_ne (ps := ps) (by rw [unhide HN]; exact hk) c (by rw [hs]; exact List.eq_nil_of_length_eq_zero e)
      rw [hs] at hsu hown hml
      have HSU := hide hsu
      have c0 := up_cell hu x0
      have c1 := up_cell hu x1
      clear hc hl hX hs hsu x0 x1
      have HO := hide hown
      have HU := hide hu
      clear hown hu
      have PB : ∀ (i : Nat) (W : World), Calls Try.prog 93 #[pt (Gx.g s i).1 (Gx.g s i).2, pt p1 p2] W fun e w' => e = .returned (.bool (ltB (Gx.g s i).1 (Gx.g s i).2 p1 p2)) ∧ Up W w' := fun i W => r_before _ _ _ _ W
      have HPB := hide PB
      clear PB
      rcases Nat.eq_zero_or_pos s.length with m0 | m0
      · obtain rfl := unhide HNIL (hk0 m0)
        obtain rfl : s = [] := List.eq_nil_of_length_eq_zero m0
        have HE : Hid (so ps (k + 1) = [(p1, p2)]) := hide (by rw [unhide HSU]; rfl)
        clear HPB HSU HNIL hk0 hml
        go_wp2_with fail
        go_loopw [5] (fun s5 wx => s5 = .int .i64 0 ∧ Up wo wx) (fun _ _ => 0)
        case atStart => exact ⟨rfl, up_refl _⟩
        case round =>
          obtain ⟨wx, rfl⟩ : ∃ wx, wx = wr := ⟨_, rfl⟩
          obtain ⟨rfl, hv⟩ := hrel
          have f2 := up_cell hv c0
          have f3 := up_cell hv c1
          go_upto_region 6 with fail
          go_cut [26] (fun s wy => s = .bool false ∧ Up wx wy)
          case first => as_aux_lemma =>
            refine wp_upq (by kernel_rfl) (by kernel_rfl) ?_; (repeat (go_big_quiet_step (fail))); refine wpQuiet_nil ?_; intro _ hw'; obtain ⟨pq, hw''⟩ := hw'; subst hw''; have hpq := pq.up
            go_wp2_with fail
            go_meet
            exact ⟨rfl, hpq⟩
          case rest =>
          obtain ⟨rfl, hy⟩ := hcut
          have hv2 : Up wo wc := up_trans hv hy
          have x2 := up_cell hy f2
          have x3 := up_cell hy f3
          obtain ⟨wd, rfl⟩ : ∃ wd, wd = wc := ⟨_, rfl⟩
          clear f2 f3 hy hv c0 c1
          go_upto_region 8 with fail
          go_cut [43] (fun t wy => t = .bool true ∧ Up wd wy)
          case first => as_aux_lemma =>
            refine wp_upq (by kernel_rfl) (by kernel_rfl) ?_; (repeat (go_big_quiet_step (fail))); refine wpQuiet_nil ?_; intro _ hw'; obtain ⟨pq, hw''⟩ := hw'; subst hw''; have hpq := pq.up
            go_wp2_with fail
            go_meet
            exact ⟨rfl, hpq⟩
          case rest =>
          obtain ⟨rfl, hz⟩ := hcut
          have hv3 : Up wo wc := up_trans hv2 hz
          have y2 := up_cell hz x2
          have y3 := up_cell hz x3
          clear x2 x3 hz hv2
          go_upto_region 9 with fail
          have b2 := fun o => alloc_cell o y2
          have b3 := fun o => alloc_cell o y3
          go_region_law (first
            | (refine step_append_empty rfl (.tmp 44) (.tmp 47) 22 rfl 24 i0' Try.underlying22 (unhide HI) _ 0 0 rfl rfl (Nat.le_refl _) ?_)
            | (refine step_append_mine _ rfl (.tmp 48) (.tmp 53) 22 rfl wc.heap.size 24 i0' _ 2 16 Try.underlying22 (unhide HI) hz0 hz1 hz2 rfl (Nat.zero_lt_succ _) _ 0 [] rfl ((own_emptyD wc 24 wc.heap.size (Nat.le_refl _)).alloc (.cells #[.int .i64 p1, .int .i64 p2] 24)) _ 1 1 [.int .i64 p1, .int .i64 p2] rfl rfl (two_new2 wc (.cells #[] 24) (.int .i64 p1) (.int .i64 p2) 24) (by intro u hu; simp at hu; rcases hu with rfl | rfl <;> rfl) (by unfold maxLen; omega) (by omega) (by first | (simp; done) | (simp; omega) | omega) ?_; intro v'' w6 hown'' hgrow'; have hU6 : Up wc w6 := own_grow ((own_emptyD wc 24 wc.heap.size (Nat.le_refl _)).alloc (.cells #[.int .i64 p1, .int .i64 p2] 24)) (Nat.le_refl _) (show Up wc _ from (by repeat' (first | (with_reducible exact up_refl _) | (with_reducible assumption) | (with_reducible refine up_alloc ?_ _) | (with_reducible refine up_drewN ?_ _) | (with_reducible refine up_drew ?_) | (with_reducible refine up_set ?_ (by first | (simp; done) | (simp; omega) | omega) _) | (refine up_trans ?_ (by with_reducible assumption))))) hgrow'; obtain ⟨gg, cc, rfl, q1, q2, q3⟩ := own_some (ps := [(p1, p2)]) hown'' (by omega))
            | (refine step_append_mine _ rfl (.tmp 48) (.tmp 53) 22 rfl wc.heap.size 24 i0' _ 2 16 Try.underlying22 (unhide HI) hz0 hz1 hz2 rfl (Nat.zero_lt_succ _) _ 0 [] rfl (own_empty2D wc (.cells #[.int .i64 p1, .int .i64 p2] 24) 24 wc.heap.size (Nat.le_refl _)) _ 1 1 [.int .i64 p1, .int .i64 p2] rfl rfl (two_alloc (two_new wc (.int .i64 p1) (.int .i64 p2) 24) (.cells #[] 24)) (by intro u hu; simp at hu; rcases hu with rfl | rfl <;> rfl) (by unfold maxLen; omega) (by omega) (by first | (simp; done) | (simp; omega) | omega) ?_; intro v'' w6 hown'' hgrow'; have hU6 : Up wc w6 := own_grow (own_empty2D wc (.cells #[.int .i64 p1, .int .i64 p2] 24) 24 wc.heap.size (Nat.le_refl _)) (Nat.le_refl _) (show Up wc _ from (by repeat' (first | (with_reducible exact up_refl _) | (with_reducible assumption) | (with_reducible refine up_alloc ?_ _) | (with_reducible refine up_drewN ?_ _) | (with_reducible refine up_drew ?_) | (with_reducible refine up_set ?_ (by first | (simp; done) | (simp; omega) | omega) _) | (refine up_trans ?_ (by with_reducible assumption))))) hgrow'; obtain ⟨gg, cc, rfl, q1, q2, q3⟩ := own_some (ps := [(p1, p2)]) hown'' (by omega))
            | (refine step_append_empty rfl (.tmp 54) (.tmp 57) 22 rfl 24 i0' Try.underlying22 (unhide HI) _ _ _ rfl rfl q2 ?_))
          all_goals
            have HR := hide (own_base (b' := w.heap.size) hown'' (Nat.le_trans (unhide HU).size hv3.size))
            have HV7 := hide (up_trans hv3 hU6)
            clear hown'' hgrow' hU6 b2 b3 y2 y3
            go_wp2_with fail
            go_roundw
            case rel => exact ⟨k + 1, by omega, by go_num, by rw [unhide HE]; exact unhide HR, up_trans (unhide HU) (unhide HV7), hide (fun h => absurd h (Nat.succ_ne_zero k))⟩
            case measure => simp [intOf]; omega
      · obtain ⟨m, hM⟩ : ∃ m, s.length = m := ⟨_, rfl⟩
        rw [hM] at HO m0 hml
        obtain ⟨g, cp, rfl, g1, g2, g3⟩ := own_some (unhide HO) m0
        have HC := hide (own_cells (unhide HO))
        have HM := hide hM
        clear hM
        go_wp2_with fail
        go_loopw [5] (fun s5 wx => ∃ j : Nat, j ≤ m ∧ s5 = .int .i64 j ∧ Hid (∀ i, i < j → Gx.lt2 (Gx.g s i) (p1, p2)) ∧ Up wo wx) (fun s5 _ => m - (intOf s5).toNat)
        case atStart => exact ⟨0, Nat.zero_le _, rfl, hide (fun i hi => by omega), up_refl _⟩
        case round =>
          obtain ⟨wx, rfl⟩ : ∃ wx, wx = wr := ⟨_, rfl⟩
          obtain ⟨j, hj, rfl, HB, hv⟩ := hrel
          have d0 := up_cell hv c0
          have d1 := up_cell hv c1
          by_cases hjm : j < m
          · have lj : j < s.length := by rw [unhide HM]; exact hjm
            obtain ⟨y0, y1⟩ := pts_g (unhide HC) lj
            have hlt2 := @ltB_iff (Gx.g s j) (p1, p2)
            have PBj := unhide HPB j
            obtain ⟨Y, hY⟩ : ∃ Y, Gx.g s j = Y := ⟨_, rfl⟩
            rw [hY] at y0 y1 hlt2 PBj
            have HY := hide hY
            obtain ⟨q1, q2⟩ := Y
            simp only at y0 y1 hlt2 PBj
            obtain ⟨B, hB⟩ : ∃ B, ltB q1 q2 p1 p2 = B := ⟨_, rfl⟩
            rw [hB] at hlt2 PBj
            have HPj := hide PBj
            have HLT := hide hlt2
            have e0 := up_cell hv y0
            have e1 := up_cell hv y1
            have j1 : (j : Int) < (m : Int) := by omega
            have j2 : decide ((j : Int) < (m : Int)) = true := decide_eq_true j1
            clear y0 y1 hlt2 PBj hB hY lj
            go_upto_region 6 with fail
            go_cut [26] (fun s wy => s = .bool B ∧ Up wx wy)
            case first => as_aux_lemma =>
              have n0 : ∀ p : UpW wx, p.v.cell? ⟨g, 0 + j * 2, none⟩ = some (.int .i64 q1) := fun p => up_cell p.up e0
              have n1 : ∀ p : UpW wx, p.v.cell? ⟨g, 0 + j * 2 + 1, none⟩ = some (.int .i64 q2) := fun p => up_cell p.up e1
              have n2 : ∀ p : UpW wx, p.v.cell? ⟨pb, poff + k * 2, none⟩ = some (.int .i64 p1) := fun p => up_cell p.up d0
              have n3 : ∀ p : UpW wx, p.v.cell? ⟨pb, poff + k * 2 + 1, none⟩ = some (.int .i64 p2) := fun p => up_cell p.up d1
              simp only [Nat.zero_add] at n0 n1
              refine wp_upq (by kernel_rfl) (by kernel_rfl) ?_; (repeat (go_big_quiet_step ((go_at_call 93; exact upq (unhide HPj _))))); refine wpQuiet_nil ?_; intro _ hw'; obtain ⟨pq, hw''⟩ := hw'; subst hw''; have hpq := pq.up
              go_wp2_with fail
              go_meet
              exact ⟨rfl, hpq⟩
            case rest =>
            obtain ⟨rfl, hy⟩ := hcut
            have hv2 : Up wo wc := up_trans hv hy
            cases B
            · have HNL : Hid (¬ Gx.lt2 (q1, q2) (p1, p2)) := hide fun c => by have := (unhide HLT).2 c; cases this
              obtain ⟨wd, rfl⟩ : ∃ wd, wd = wc := ⟨_, rfl⟩
              have f0 := up_cell hy e0
              have f1 := up_cell hy e1
              have f2 := up_cell hy d0
              have f3 := up_cell hy d1
              have z1 : ((j : Int) == (m : Int)) = false := beq_false_of_ne (by omega)
              by_cases he : q1 = p1 ∧ q2 = p2
              · obtain ⟨rfl, rfl⟩ := he
                have HE : Hid (so ps (k + 1) = s) := hide (by
                  rw [unhide HSU, Gx.insU_at _ s j (by rw [unhide HM]; exact hj) (unhide HB) (fun _ => by rw [unhide HY]; exact unhide HNL), if_pos ⟨by rw [unhide HM]; exact hjm, unhide HY⟩])
                clear e0 e1 d0 d1 c0 c1 hy HPj HLT HPB HSU HY HNL HB
                go_upto_region 8 with fail
                go_cut [43] (fun t wy => t = .bool false ∧ Up wd wy)
                case first => as_aux_lemma =>
                  have n0 : ∀ p : UpW wd, p.v.cell? ⟨g, 0 + j * 2, none⟩ = some (.int .i64 q1) := fun p => up_cell p.up f0
                  have n1 : ∀ p : UpW wd, p.v.cell? ⟨g, 0 + j * 2 + 1, none⟩ = some (.int .i64 q2) := fun p => up_cell p.up f1
                  have n2 : ∀ p : UpW wd, p.v.cell? ⟨pb, poff + k * 2, none⟩ = some (.int .i64 q1) := fun p => up_cell p.up f2
                  have n3 : ∀ p : UpW wd, p.v.cell? ⟨pb, poff + k * 2 + 1, none⟩ = some (.int .i64 q2) := fun p => up_cell p.up f3
                  simp only [Nat.zero_add] at n0 n1
                  refine wp_upq (by kernel_rfl) (by kernel_rfl) ?_; (repeat (go_big_quiet_step (fail))); refine wpQuiet_nil ?_; intro _ hw'; obtain ⟨pq, hw''⟩ := hw'; subst hw''; have hpq := pq.up
                  go_wp2_with fail
                  go_meet
                  exact ⟨rfl, hpq⟩
                case rest =>
                obtain ⟨rfl, hz⟩ := hcut
                have hv3 : Up wo wc := up_trans hv2 hz
                go_wp2_with fail
                first
                  | exact ⟨⟨k + 1, by omega, by go_num, by rw [unhide HE, unhide HM]; exact own_up (unhide HO) hv3, up_trans (unhide HU) hv3, hide (fun h => absurd h (Nat.succ_ne_zero k))⟩, by simp [intOf]; omega⟩
                  | (go_roundw; (case rel => exact ⟨k + 1, by omega, by go_num, by rw [unhide HE, unhide HM]; exact own_up (unhide HO) hv3, up_trans (unhide HU) hv3, hide (fun h => absurd h (Nat.succ_ne_zero k))⟩); (case measure => simp [intOf]; omega))
              · have HE : Hid (so ps (k + 1) = s.take j ++ (p1, p2) :: s.drop j) := hide (by
                  rw [unhide HSU, Gx.insU_at _ s j (by rw [unhide HM]; exact hj) (unhide HB) (fun _ => by rw [unhide HY]; exact unhide HNL), if_neg (fun c => he (by have := c.2; rw [unhide HY] at this; cases this; exact ⟨rfl, rfl⟩))])
                have HNE := hide he
                clear e0 e1 d0 d1 c0 c1 hy HPj HLT HPB HSU HY HNL HB he
                go_upto_region 8 with fail
                go_cut [43] (fun t wy => t = .bool true ∧ Up wd wy)
                case first => as_aux_lemma =>
                  have n0 : ∀ p : UpW wd, p.v.cell? ⟨g, 0 + j * 2, none⟩ = some (.int .i64 q1) := fun p => up_cell p.up f0
                  have n1 : ∀ p : UpW wd, p.v.cell? ⟨g, 0 + j * 2 + 1, none⟩ = some (.int .i64 q2) := fun p => up_cell p.up f1
                  have n2 : ∀ p : UpW wd, p.v.cell? ⟨pb, poff + k * 2, none⟩ = some (.int .i64 p1) := fun p => up_cell p.up f2
                  have n3 : ∀ p : UpW wd, p.v.cell? ⟨pb, poff + k * 2 + 1, none⟩ = some (.int .i64 p2) := fun p => up_cell p.up f3
                  simp only [Nat.zero_add] at n0 n1
                  by_cases c : q1 = p1
                  · subst c
                    have t1 : (q2 == p2) = false := beq_false_of_ne fun d => unhide HNE ⟨rfl, d⟩
                    refine wp_upq (by kernel_rfl) (by kernel_rfl) ?_; (repeat (go_big_quiet_step (fail))); refine wpQuiet_nil ?_; intro _ hw'; obtain ⟨pq, hw''⟩ := hw'; subst hw''; have hpq := pq.up
                    go_wp2_with fail
                    go_meet
                    exact ⟨rfl, hpq⟩
                  · have t1 : (q1 == p1) = false := beq_false_of_ne c
                    refine wp_upq (by kernel_rfl) (by kernel_rfl) ?_; (repeat (go_big_quiet_step (fail))); refine wpQuiet_nil ?_; intro _ hw'; obtain ⟨pq, hw''⟩ := hw'; subst hw''; have hpq := pq.up
                    go_wp2_with fail
                    go_meet
                    exact ⟨rfl, hpq⟩
                case rest =>
                obtain ⟨rfl, hz⟩ := hcut
                have hv3 : Up wo wc := up_trans hv2 hz
                have y2 := up_cell hz f2
                have y3 := up_cell hz f3
                clear f0 f1 f2 f3 z1 hz hv2 HNE j2
                go_upto_region 9 with fail
                have S2 := own_p (own_up (unhide HO) hv3)
                have FT : ∀ W : World, Up wc W → ∀ i u, (cellsPl (s.take j))[i]? = some u → W.cell? ((⟨g, 0, none⟩ : Addr).add i) = some u := fun W h => pts_news (pts_take (pts_up S2 h) j)
                have FD : ∀ W : World, Up wc W → ∀ i u, (cellsPl (s.drop j))[i]? = some u → W.cell? ((⟨g, j * 2, none⟩ : Addr).add i) = some u := fun W h => by
                  have q := pts_drop (pts_up S2 h) j
                  rw [Nat.zero_add] at q
                  exact pts_news q
                have LT : (cellsPl (s.take j)).length = j * 2 := by rw [cellsPl_length, List.length_take, unhide HM]; omega
                have LD : (cellsPl (s.drop j)).length = (m - j) * 2 := by rw [cellsPl_length, List.length_drop, unhide HM]
                have O1 := one_cells (s.take j)
                have O2 := one_cells (s.drop j)
                have IC := ins_cells s j p1 p2
                have HFT := hide FT
                have HFD := hide FD
                have HO1 := hide O1
                have HO2 := hide O2
                have HLT := hide LT
                have HLD := hide LD
                obtain ⟨TK, hTK⟩ : ∃ x, cellsPl (s.take j) = x := ⟨_, rfl⟩
                obtain ⟨DR, hDR⟩ : ∃ x, cellsPl (s.drop j) = x := ⟨_, rfl⟩
                rw [hTK] at HFT HO1 HLT IC
                rw [hDR] at HFD HO2 HLD IC
                have HIC := hide IC
                have o3 : (j : Int) ≤ (cp : Int) := by omega
                have o4 : (j : Int) ≤ (m : Int) := by omega
                have o5 : (m : Int) ≤ (cp : Int) := by omega
                have o6 : j ≤ m := by omega
                have n60 : ¬ cp = j := by omega
                have n61 : ¬ j = cp := by omega
                have n62 : ¬ cp - j = 0 := by omega
                have n65 : ¬ cp ≤ j := by omega
                clear S2 FT FD LT LD O1 O2 IC hTK hDR
                have b2 := fun o => alloc_cell o y2
                have b3 := fun o => alloc_cell o y3
                go_region_law (first
                  | (refine step_append_mine _ rfl (.tmp 44) (.tmp 47) 22 rfl wc.heap.size 24 i0' _ 2 16 Try.underlying22 (unhide HI) hz0 hz1 hz2 rfl (Nat.zero_lt_succ _) _ 0 [] rfl (own_emptyD wc 24 wc.heap.size (Nat.le_refl _)) ⟨g, 0, none⟩ j cp TK rfl (unhide HLT) (unhide HFT _ (by repeat' (first | (with_reducible exact up_refl _) | (with_reducible assumption) | (with_reducible refine up_alloc ?_ _) | (with_reducible refine up_drewN ?_ _) | (with_reducible refine up_drew ?_) | (with_reducible refine up_set ?_ (by first | (simp; done) | (simp; omega) | omega) _) | (refine up_trans ?_ (by with_reducible assumption))))) (unhide HO1) (by unfold maxLen; omega) (by omega) (by first | (simp; done) | (simp; omega) | omega) ?_; intro v' w5 hown' hgrow; have hU5 : Up wc w5 := own_grow (own_emptyD wc 24 wc.heap.size (Nat.le_refl _)) (Nat.le_refl _) (show Up wc _ from (by repeat' (first | (with_reducible exact up_refl _) | (with_reducible assumption) | (with_reducible refine up_alloc ?_ _) | (with_reducible refine up_drewN ?_ _) | (with_reducible refine up_drew ?_) | (with_reducible refine up_set ?_ (by first | (simp; done) | (simp; omega) | omega) _) | (refine up_trans ?_ (by with_reducible assumption))))) hgrow; have a2 := up_cell hU5 y2; have a3 := up_cell hU5 y3)
                  | (refine step_append_mine _ rfl (.tmp 44) (.tmp 47) 22 rfl wc.heap.size 24 i0' _ 2 16 Try.underlying22 (unhide HI) hz0 hz1 hz2 rfl (Nat.zero_lt_succ _) _ 0 [] rfl ((own_emptyD wc 24 wc.heap.size (Nat.le_refl _)).alloc (.cells #[.int .i64 p1, .int .i64 p2] 24)) ⟨g, 0, none⟩ j cp TK rfl (unhide HLT) (unhide HFT _ (by repeat' (first | (with_reducible exact up_refl _) | (with_reducible assumption) | (with_reducible refine up_alloc ?_ _) | (with_reducible refine up_drewN ?_ _) | (with_reducible refine up_drew ?_) | (with_reducible refine up_set ?_ (by first | (simp; done) | (simp; omega) | omega) _) | (refine up_trans ?_ (by with_reducible assumption))))) (unhide HO1) (by unfold maxLen; omega) (by omega) (by first | (simp; done) | (simp; omega) | omega) ?_; intro v' w5 hown' hgrow; have hU5 : Up wc w5 := own_grow ((own_emptyD wc 24 wc.heap.size (Nat.le_refl _)).alloc (.cells #[.int .i64 p1, .int .i64 p2] 24)) (Nat.le_refl _) (show Up wc _ from (by repeat' (first | (with_reducible exact up_refl _) | (with_reducible assumption) | (with_reducible refine up_alloc ?_ _) | (with_reducible refine up_drewN ?_ _) | (with_reducible refine up_drew ?_) | (with_reducible refine up_set ?_ (by first | (simp; done) | (simp; omega) | omega) _) | (refine up_trans ?_ (by with_reducible assumption))))) hgrow; have a2 := up_cell hU5 y2; have a3 := up_cell hU5 y3)
                  | (refine step_append_mine _ rfl (.tmp 44) (.tmp 47) 22 rfl wc.heap.size 24 i0' _ 2 16 Try.underlying22 (unhide HI) hz0 hz1 hz2 rfl (Nat.zero_lt_succ _) _ 0 [] rfl (own_empty2D wc (.cells #[.int .i64 p1, .int .i64 p2] 24) 24 wc.heap.size (Nat.le_refl _)) ⟨g, 0, none⟩ j cp TK rfl (unhide HLT) (unhide HFT _ (by repeat' (first | (with_reducible exact up_refl _) | (with_reducible assumption) | (with_reducible refine up_alloc ?_ _) | (with_reducible refine up_drewN ?_ _) | (with_reducible refine up_drew ?_) | (with_reducible refine up_set ?_ (by first | (simp; done) | (simp; omega) | omega) _) | (refine up_trans ?_ (by with_reducible assumption))))) (unhide HO1) (by unfold maxLen; omega) (by omega) (by first | (simp; done) | (simp; omega) | omega) ?_; intro v' w5 hown' hgrow; have hU5 : Up wc w5 := own_grow (own_empty2D wc (.cells #[.int .i64 p1, .int .i64 p2] 24) 24 wc.heap.size (Nat.le_refl _)) (Nat.le_refl _) (show Up wc _ from (by repeat' (first | (with_reducible exact up_refl _) | (with_reducible assumption) | (with_reducible refine up_alloc ?_ _) | (with_reducible refine up_drewN ?_ _) | (with_reducible refine up_drew ?_) | (with_reducible refine up_set ?_ (by first | (simp; done) | (simp; omega) | omega) _) | (refine up_trans ?_ (by with_reducible assumption))))) hgrow; have a2 := up_cell hU5 y2; have a3 := up_cell hU5 y3)
                  | (refine step_append_mine _ rfl (.tmp 48) (.tmp 53) 22 rfl wc.heap.size 24 i0' _ 2 16 Try.underlying22 (unhide HI) hz0 hz1 hz2 rfl (Nat.zero_lt_succ _) _ (0 + j) ([] ++ TK) rfl (hown'.alloc _) _ 1 1 [.int .i64 p1, .int .i64 p2] rfl rfl (two_new _ _ _ _) (by intro u hu; simp at hu; rcases hu with rfl | rfl <;> rfl) (by unfold maxLen; omega) (by omega) (by first | exact hU5.size | exact Nat.le_trans hU5.size (by simp)) ?_; intro v'' w6 hown'' hgrow'; have hU6 : Up wc w6 := own_grow (hown'.alloc _) (Nat.le_refl _) (show Up wc _ from (by repeat' (first | (with_reducible exact up_refl _) | (with_reducible assumption) | (with_reducible refine up_alloc ?_ _) | (with_reducible refine up_drewN ?_ _) | (with_reducible refine up_drew ?_) | (with_reducible refine up_set ?_ (by first | (simp; done) | (simp; omega) | omega) _) | (refine up_trans ?_ (by with_reducible assumption))))) hgrow')
                  | (refine step_append_mine _ rfl (.tmp 48) (.tmp 53) 22 rfl wc.heap.size 24 i0' _ 2 16 Try.underlying22 (unhide HI) hz0 hz1 hz2 rfl (Nat.zero_lt_succ _) _ (0 + j) ([] ++ TK) rfl hown' _ 1 1 [.int .i64 p1, .int .i64 p2] rfl rfl (two_grown hgrow (two_new2 wc (.cells #[] 24) (.int .i64 p1) (.int .i64 p2) 24) (by intro e; have q : wc.heap.size + 1 = wc.heap.size := Option.some.inj e; omega)) (by intro u hu; simp at hu; rcases hu with rfl | rfl <;> rfl) (by unfold maxLen; omega) (by omega) (by first | exact hU5.size | exact Nat.le_trans hU5.size (by simp)) ?_; intro v'' w6 hown'' hgrow'; have hU6 : Up wc w6 := own_grow hown' (Nat.le_refl _) (show Up wc _ from (by repeat' (first | (with_reducible exact up_refl _) | (with_reducible assumption) | (with_reducible refine up_alloc ?_ _) | (with_reducible refine up_drewN ?_ _) | (with_reducible refine up_drew ?_) | (with_reducible refine up_set ?_ (by first | (simp; done) | (simp; omega) | omega) _) | (refine up_trans ?_ (by with_reducible assumption))))) hgrow')
                  | (refine step_append_mine _ rfl (.tmp 48) (.tmp 53) 22 rfl wc.heap.size 24 i0' _ 2 16 Try.underlying22 (unhide HI) hz0 hz1 hz2 rfl (Nat.zero_lt_succ _) _ (0 + j) ([] ++ TK) rfl hown' _ 1 1 [.int .i64 p1, .int .i64 p2] rfl rfl (two_grown hgrow (two_alloc (two_new wc (.int .i64 p1) (.int .i64 p2) 24) (.cells #[] 24)) (by intro e; have q : wc.heap.size = wc.heap.size + 1 := Option.some.inj e; omega)) (by intro u hu; simp at hu; rcases hu with rfl | rfl <;> rfl) (by unfold maxLen; omega) (by omega) (by first | exact hU5.size | exact Nat.le_trans hU5.size (by simp)) ?_; intro v'' w6 hown'' hgrow'; have hU6 : Up wc w6 := own_grow hown' (Nat.le_refl _) (show Up wc _ from (by repeat' (first | (with_reducible exact up_refl _) | (with_reducible assumption) | (with_reducible refine up_alloc ?_ _) | (with_reducible refine up_drewN ?_ _) | (with_reducible refine up_drew ?_) | (with_reducible refine up_set ?_ (by first | (simp; done) | (simp; omega) | omega) _) | (refine up_trans ?_ (by with_reducible assumption))))) hgrow')
                  | (refine step_append_mine _ rfl (.tmp 54) (.tmp 57) 22 rfl wc.heap.size 24 i0' _ 2 16 Try.underlying22 (unhide HI) hz0 hz1 hz2 rfl (Nat.zero_lt_succ _) _ (0 + j + 1) (([] ++ TK) ++ [Value.int IntKind.i64 p1, Value.int IntKind.i64 p2]) rfl hown'' _ _ _ DR rfl (unhide HLD) (unhide HFD _ hU6) (unhide HO2) (by unfold maxLen; omega) (by omega) hU6.size ?_; intro v3 w7 hown3 hgrow3; have hU7 : Up wc w7 := own_grow hown'' (Nat.le_refl _) hU6 hgrow3))
                all_goals
                  have HR := hide (own_ins (unhide HM) o6 (Nat.le_trans (unhide HU).size hv3.size) hown3 (unhide HIC))
                  have HV7 := hide (up_trans hv3 hU7)
                  clear hown' hgrow hown'' hgrow' hown3 hgrow3 hU5 hU6 hU7 a2 a3 b2 b3 y2 y3
                  go_wp2_with fail
                  go_roundw
                  case rel => exact ⟨k + 1, by omega, by go_num, by rw [unhide HE]; exact unhide HR, up_trans (unhide HU) (unhide HV7), hide (fun h => absurd h (Nat.succ_ne_zero k))⟩
                  case measure => simp [intOf]; omega
            · have HB2 : Hid (∀ i, i < j + 1 → Gx.lt2 (Gx.g s i) (p1, p2)) := hide fun i hi => by
                rcases Nat.lt_or_ge i j with c | c
                · exact unhide HB i c
                · obtain rfl : i = j := by omega
                  rw [unhide HY]
                  exact (unhide HLT).1 rfl
              go_wp2_with fail
              first
                | exact ⟨⟨j + 1, by omega, by go_num, HB2, hv2⟩, by simp [intOf]; omega⟩
                | (go_roundw; (case rel => exact ⟨j + 1, by omega, by go_num, HB2, hv2⟩); (case measure => simp [intOf]; omega))
          · have f2 := d0
            have f3 := d1
            obtain rfl : j = m := by omega
            have HE : Hid (so ps (k + 1) = s.take j ++ (p1, p2) :: s.drop j) := hide (by
              rw [unhide HSU, Gx.insU_at _ s j (by rw [unhide HM]; exact Nat.le_refl _) (unhide HB) (fun c => by rw [unhide HM] at c; omega), if_neg (fun c => by have := c.1; rw [unhide HM] at this; omega)])
            have j2 : decide ((j : Int) < (j : Int)) = false := decide_eq_false (by omega)
            have z1 : ((j : Int) == (j : Int)) = true := by simp
            clear d0 d1 c0 c1 HPB HSU HB
            go_upto_region 6 with fail
            go_cut [26] (fun s wy => s = .bool false ∧ Up wx wy)
            case first => as_aux_lemma =>
              refine wp_upq (by kernel_rfl) (by kernel_rfl) ?_; (repeat (go_big_quiet_step (fail))); refine wpQuiet_nil ?_; intro _ hw'; obtain ⟨pq, hw''⟩ := hw'; subst hw''; have hpq := pq.up
              go_wp2_with fail
              go_meet
              exact ⟨rfl, hpq⟩
            case rest =>
            obtain ⟨rfl, hy⟩ := hcut
            have hv2 : Up wo wc := up_trans hv hy
            have x2 := up_cell hy f2
            have x3 := up_cell hy f3
            obtain ⟨wd, rfl⟩ : ∃ wd, wd = wc := ⟨_, rfl⟩
            clear f2 f3 hy hv
            go_upto_region 8 with fail
            go_cut [43] (fun t wy => t = .bool true ∧ Up wd wy)
            case first => as_aux_lemma =>
              refine wp_upq (by kernel_rfl) (by kernel_rfl) ?_; (repeat (go_big_quiet_step (fail))); refine wpQuiet_nil ?_; intro _ hw'; obtain ⟨pq, hw''⟩ := hw'; subst hw''; have hpq := pq.up
              go_wp2_with fail
              go_meet
              exact ⟨rfl, hpq⟩
            case rest =>
            obtain ⟨rfl, hz⟩ := hcut
            have hv3 : Up wo wc := up_trans hv2 hz
            have y2 := up_cell hz x2
            have y3 := up_cell hz x3
            clear x2 x3 z1 hz hv2 j2
            go_upto_region 9 with fail
            by_cases hcj : cp = j
            · obtain rfl : j = cp := hcj.symm
              have S2 := own_p (own_up (unhide HO) hv3)
              have FT : ∀ W : World, Up wc W → ∀ i u, (cellsPl (s.take j))[i]? = some u → W.cell? ((⟨g, 0, none⟩ : Addr).add i) = some u := fun W h => pts_news (pts_take (pts_up S2 h) j)
              have FD : ∀ W : World, Up wc W → ∀ i u, (cellsPl (s.drop j))[i]? = some u → W.cell? ((⟨g, j * 2, none⟩ : Addr).add i) = some u := fun W h => by
                have q := pts_drop (pts_up S2 h) j
                rw [Nat.zero_add] at q
                exact pts_news q
              have LT : (cellsPl (s.take j)).length = j * 2 := by rw [cellsPl_length, List.length_take, unhide HM]; simp
              have LD : (cellsPl (s.drop j)).length = (j - j) * 2 := by rw [cellsPl_length, List.length_drop, unhide HM]
              have O1 := one_cells (s.take j)
              have O2 := one_cells (s.drop j)
              have IC := ins_cells s j p1 p2
              have HFT := hide FT
              have HFD := hide FD
              have HO1 := hide O1
              have HO2 := hide O2
              have HLT := hide LT
              have HLD := hide LD
              have HD0 := hide (List.eq_nil_of_length_eq_zero (by rw [LD, Nat.sub_self]))
              obtain ⟨TK, hTK⟩ : ∃ x, cellsPl (s.take j) = x := ⟨_, rfl⟩
              obtain ⟨DR, hDR⟩ : ∃ x, cellsPl (s.drop j) = x := ⟨_, rfl⟩
              rw [hTK] at HFT HO1 HLT IC
              rw [hDR] at HFD HO2 HLD IC HD0
              have HFE := hide (show ∀ W : World, ∀ i u, DR[i]? = some u → W.cell? ((⟨g, 0, none⟩ : Addr).add i) = some u from fun W i u h => by rw [unhide HD0] at h; simp at h)
              have HIC := hide IC
              have o3 : (j : Int) ≤ (j : Int) := by omega
              have o4 : (j : Int) ≤ (j : Int) := by omega
              have o5 : (j : Int) ≤ (j : Int) := by omega
              have o6 : j ≤ j := by omega
              clear S2 FT FD LT LD O1 O2 IC hTK hDR
              have b2 := fun o => alloc_cell o y2
              have b3 := fun o => alloc_cell o y3
              go_region_law (first
                | (refine step_append_mine _ rfl (.tmp 44) (.tmp 47) 22 rfl wc.heap.size 24 i0' _ 2 16 Try.underlying22 (unhide HI) hz0 hz1 hz2 rfl (Nat.zero_lt_succ _) _ 0 [] rfl (own_emptyD wc 24 wc.heap.size (Nat.le_refl _)) ⟨g, 0, none⟩ j j TK rfl (unhide HLT) (unhide HFT _ (by repeat' (first | (with_reducible exact up_refl _) | (with_reducible assumption) | (with_reducible refine up_alloc ?_ _) | (with_reducible refine up_drewN ?_ _) | (with_reducible refine up_drew ?_) | (with_reducible refine up_set ?_ (by first | (simp; done) | (simp; omega) | omega) _) | (refine up_trans ?_ (by with_reducible assumption))))) (unhide HO1) (by unfold maxLen; omega) (by omega) (by first | (simp; done) | (simp; omega) | omega) ?_; intro v' w5 hown' hgrow; have hU5 : Up wc w5 := own_grow (own_emptyD wc 24 wc.heap.size (Nat.le_refl _)) (Nat.le_refl _) (show Up wc _ from (by repeat' (first | (with_reducible exact up_refl _) | (with_reducible assumption) | (with_reducible refine up_alloc ?_ _) | (with_reducible refine up_drewN ?_ _) | (with_reducible refine up_drew ?_) | (with_reducible refine up_set ?_ (by first | (simp; done) | (simp; omega) | omega) _) | (refine up_trans ?_ (by with_reducible assumption))))) hgrow; have a2 := up_cell hU5 y2; have a3 := up_cell hU5 y3)
                | (refine step_append_mine _ rfl (.tmp 44) (.tmp 47) 22 rfl wc.heap.size 24 i0' _ 2 16 Try.underlying22 (unhide HI) hz0 hz1 hz2 rfl (Nat.zero_lt_succ _) _ 0 [] rfl ((own_emptyD wc 24 wc.heap.size (Nat.le_refl _)).alloc (.cells #[.int .i64 p1, .int .i64 p2] 24)) ⟨g, 0, none⟩ j j TK rfl (unhide HLT) (unhide HFT _ (by repeat' (first | (with_reducible exact up_refl _) | (with_reducible assumption) | (with_reducible refine up_alloc ?_ _) | (with_reducible refine up_drewN ?_ _) | (with_reducible refine up_drew ?_) | (with_reducible refine up_set ?_ (by first | (simp; done) | (simp; omega) | omega) _) | (refine up_trans ?_ (by with_reducible assumption))))) (unhide HO1) (by unfold maxLen; omega) (by omega) (by first | (simp; done) | (simp; omega) | omega) ?_; intro v' w5 hown' hgrow; have hU5 : Up wc w5 := own_grow ((own_emptyD wc 24 wc.heap.size (Nat.le_refl _)).alloc (.cells #[.int .i64 p1, .int .i64 p2] 24)) (Nat.le_refl _) (show Up wc _ from (by repeat' (first | (with_reducible exact up_refl _) | (with_reducible assumption) | (with_reducible refine up_alloc ?_ _) | (with_reducible refine up_drewN ?_ _) | (with_reducible refine up_drew ?_) | (with_reducible refine up_set ?_ (by first | (simp; done) | (simp; omega) | omega) _) | (refine up_trans ?_ (by with_reducible assumption))))) hgrow; have a2 := up_cell hU5 y2; have a3 := up_cell hU5 y3)
                | (refine step_append_mine _ rfl (.tmp 44) (.tmp 47) 22 rfl wc.heap.size 24 i0' _ 2 16 Try.underlying22 (unhide HI) hz0 hz1 hz2 rfl (Nat.zero_lt_succ _) _ 0 [] rfl (own_empty2D wc (.cells #[.int .i64 p1, .int .i64 p2] 24) 24 wc.heap.size (Nat.le_refl _)) ⟨g, 0, none⟩ j j TK rfl (unhide HLT) (unhide HFT _ (by repeat' (first | (with_reducible exact up_refl _) | (with_reducible assumption) | (with_reducible refine up_alloc ?_ _) | (with_reducible refine up_drewN ?_ _) | (with_reducible refine up_drew ?_) | (with_reducible refine up_set ?_ (by first | (simp; done) | (simp; omega) | omega) _) | (refine up_trans ?_ (by with_reducible assumption))))) (unhide HO1) (by unfold maxLen; omega) (by omega) (by first | (simp; done) | (simp; omega) | omega) ?_; intro v' w5 hown' hgrow; have hU5 : Up wc w5 := own_grow (own_empty2D wc (.cells #[.int .i64 p1, .int .i64 p2] 24) 24 wc.heap.size (Nat.le_refl _)) (Nat.le_refl _) (show Up wc _ from (by repeat' (first | (with_reducible exact up_refl _) | (with_reducible assumption) | (with_reducible refine up_alloc ?_ _) | (with_reducible refine up_drewN ?_ _) | (with_reducible refine up_drew ?_) | (with_reducible refine up_set ?_ (by first | (simp; done) | (simp; omega) | omega) _) | (refine up_trans ?_ (by with_reducible assumption))))) hgrow; have a2 := up_cell hU5 y2; have a3 := up_cell hU5 y3)
                | (refine step_append_mine _ rfl (.tmp 48) (.tmp 53) 22 rfl wc.heap.size 24 i0' _ 2 16 Try.underlying22 (unhide HI) hz0 hz1 hz2 rfl (Nat.zero_lt_succ _) _ (0 + j) ([] ++ TK) rfl (hown'.alloc _) _ 1 1 [.int .i64 p1, .int .i64 p2] rfl rfl (two_new _ _ _ _) (by intro u hu; simp at hu; rcases hu with rfl | rfl <;> rfl) (by unfold maxLen; omega) (by omega) (by first | exact hU5.size | exact Nat.le_trans hU5.size (by simp)) ?_; intro v'' w6 hown'' hgrow'; have hU6 : Up wc w6 := own_grow (hown'.alloc _) (Nat.le_refl _) (show Up wc _ from (by repeat' (first | (with_reducible exact up_refl _) | (with_reducible assumption) | (with_reducible refine up_alloc ?_ _) | (with_reducible refine up_drewN ?_ _) | (with_reducible refine up_drew ?_) | (with_reducible refine up_set ?_ (by first | (simp; done) | (simp; omega) | omega) _) | (refine up_trans ?_ (by with_reducible assumption))))) hgrow')
                | (refine step_append_mine _ rfl (.tmp 48) (.tmp 53) 22 rfl wc.heap.size 24 i0' _ 2 16 Try.underlying22 (unhide HI) hz0 hz1 hz2 rfl (Nat.zero_lt_succ _) _ (0 + j) ([] ++ TK) rfl hown' _ 1 1 [.int .i64 p1, .int .i64 p2] rfl rfl (two_grown hgrow (two_new2 wc (.cells #[] 24) (.int .i64 p1) (.int .i64 p2) 24) (by intro e; have q : wc.heap.size + 1 = wc.heap.size := Option.some.inj e; omega)) (by intro u hu; simp at hu; rcases hu with rfl | rfl <;> rfl) (by unfold maxLen; omega) (by omega) (by first | exact hU5.size | exact Nat.le_trans hU5.size (by simp)) ?_; intro v'' w6 hown'' hgrow'; have hU6 : Up wc w6 := own_grow hown' (Nat.le_refl _) (show Up wc _ from (by repeat' (first | (with_reducible exact up_refl _) | (with_reducible assumption) | (with_reducible refine up_alloc ?_ _) | (with_reducible refine up_drewN ?_ _) | (with_reducible refine up_drew ?_) | (with_reducible refine up_set ?_ (by first | (simp; done) | (simp; omega) | omega) _) | (refine up_trans ?_ (by with_reducible assumption))))) hgrow')
                | (refine step_append_mine _ rfl (.tmp 48) (.tmp 53) 22 rfl wc.heap.size 24 i0' _ 2 16 Try.underlying22 (unhide HI) hz0 hz1 hz2 rfl (Nat.zero_lt_succ _) _ (0 + j) ([] ++ TK) rfl hown' _ 1 1 [.int .i64 p1, .int .i64 p2] rfl rfl (two_grown hgrow (two_alloc (two_new wc (.int .i64 p1) (.int .i64 p2) 24) (.cells #[] 24)) (by intro e; have q : wc.heap.size = wc.heap.size + 1 := Option.some.inj e; omega)) (by intro u hu; simp at hu; rcases hu with rfl | rfl <;> rfl) (by unfold maxLen; omega) (by omega) (by first | exact hU5.size | exact Nat.le_trans hU5.size (by simp)) ?_; intro v'' w6 hown'' hgrow'; have hU6 : Up wc w6 := own_grow hown' (Nat.le_refl _) (show Up wc _ from (by repeat' (first | (with_reducible exact up_refl _) | (with_reducible assumption) | (with_reducible refine up_alloc ?_ _) | (with_reducible refine up_drewN ?_ _) | (with_reducible refine up_drew ?_) | (with_reducible refine up_set ?_ (by first | (simp; done) | (simp; omega) | omega) _) | (refine up_trans ?_ (by with_reducible assumption))))) hgrow')
                | (refine step_append_mine _ rfl (.tmp 54) (.tmp 57) 22 rfl wc.heap.size 24 i0' _ 2 16 Try.underlying22 (unhide HI) hz0 hz1 hz2 rfl (Nat.zero_lt_succ _) _ (0 + j + 1) (([] ++ TK) ++ [Value.int IntKind.i64 p1, Value.int IntKind.i64 p2]) rfl hown'' _ _ _ DR rfl (by rw [unhide HD0]; first | (simp; done) | (simp; omega) | omega) (unhide HFE _) (unhide HO2) (by unfold maxLen; omega) (by omega) hU6.size ?_; intro v3 w7 hown3 hgrow3; have hU7 : Up wc w7 := own_grow hown'' (Nat.le_refl _) hU6 hgrow3))
              all_goals
                have HR := hide (own_ins (unhide HM) o6 (Nat.le_trans (unhide HU).size hv3.size) (by rw [Nat.sub_self]; exact hown3) (unhide HIC))
                have HV7 := hide (up_trans hv3 hU7)
                clear hown' hgrow hown'' hgrow' hown3 hgrow3 hU5 hU6 hU7 a2 a3 b2 b3 y2 y3
                go_wp2_with fail
                go_roundw
                case rel => exact ⟨k + 1, by omega, by go_num, by rw [unhide HE]; exact unhide HR, up_trans (unhide HU) (unhide HV7), hide (fun h => absurd h (Nat.succ_ne_zero k))⟩
                case measure => simp [intOf]; omega
            · have hcj2 : j < cp := by omega
              have S2 := own_p (own_up (unhide HO) hv3)
              have FT : ∀ W : World, Up wc W → ∀ i u, (cellsPl (s.take j))[i]? = some u → W.cell? ((⟨g, 0, none⟩ : Addr).add i) = some u := fun W h => pts_news (pts_take (pts_up S2 h) j)
              have FD : ∀ W : World, Up wc W → ∀ i u, (cellsPl (s.drop j))[i]? = some u → W.cell? ((⟨g, j * 2, none⟩ : Addr).add i) = some u := fun W h => by
                have q := pts_drop (pts_up S2 h) j
                rw [Nat.zero_add] at q
                exact pts_news q
              have LT : (cellsPl (s.take j)).length = j * 2 := by rw [cellsPl_length, List.length_take, unhide HM]; omega
              have LD : (cellsPl (s.drop j)).length = (j - j) * 2 := by rw [cellsPl_length, List.length_drop, unhide HM]
              have O1 := one_cells (s.take j)
              have O2 := one_cells (s.drop j)
              have IC := ins_cells s j p1 p2
              have HFT := hide FT
              have HFD := hide FD
              have HO1 := hide O1
              have HO2 := hide O2
              have HLT := hide LT
              have HLD := hide LD
              obtain ⟨TK, hTK⟩ : ∃ x, cellsPl (s.take j) = x := ⟨_, rfl⟩
              obtain ⟨DR, hDR⟩ : ∃ x, cellsPl (s.drop j) = x := ⟨_, rfl⟩
              rw [hTK] at HFT HO1 HLT IC
              rw [hDR] at HFD HO2 HLD IC
              have HIC := hide IC
              have o3 : (j : Int) ≤ (cp : Int) := by omega
              have o4 : (j : Int) ≤ (j : Int) := by omega
              have o5 : (j : Int) ≤ (cp : Int) := by omega
              have o6 : j ≤ j := by omega
              have n60 : ¬ cp = j := by omega
              have n61 : ¬ j = cp := by omega
              have n62 : ¬ cp - j = 0 := by omega
              have n65 : ¬ cp ≤ j := by omega
              clear S2 FT FD LT LD O1 O2 IC hTK hDR
              have b2 := fun o => alloc_cell o y2
              have b3 := fun o => alloc_cell o y3
              go_region_law (first
                | (refine step_append_mine _ rfl (.tmp 44) (.tmp 47) 22 rfl wc.heap.size 24 i0' _ 2 16 Try.underlying22 (unhide HI) hz0 hz1 hz2 rfl (Nat.zero_lt_succ _) _ 0 [] rfl (own_emptyD wc 24 wc.heap.size (Nat.le_refl _)) ⟨g, 0, none⟩ j cp TK rfl (unhide HLT) (unhide HFT _ (by repeat' (first | (with_reducible exact up_refl _) | (with_reducible assumption) | (with_reducible refine up_alloc ?_ _) | (with_reducible refine up_drewN ?_ _) | (with_reducible refine up_drew ?_) | (with_reducible refine up_set ?_ (by first | (simp; done) | (simp; omega) | omega) _) | (refine up_trans ?_ (by with_reducible assumption))))) (unhide HO1) (by unfold maxLen; omega) (by omega) (by first | (simp; done) | (simp; omega) | omega) ?_; intro v' w5 hown' hgrow; have hU5 : Up wc w5 := own_grow (own_emptyD wc 24 wc.heap.size (Nat.le_refl _)) (Nat.le_refl _) (show Up wc _ from (by repeat' (first | (with_reducible exact up_refl _) | (with_reducible assumption) | (with_reducible refine up_alloc ?_ _) | (with_reducible refine up_drewN ?_ _) | (with_reducible refine up_drew ?_) | (with_reducible refine up_set ?_ (by first | (simp; done) | (simp; omega) | omega) _) | (refine up_trans ?_ (by with_reducible assumption))))) hgrow; have a2 := up_cell hU5 y2; have a3 := up_cell hU5 y3)
                | (refine step_append_mine _ rfl (.tmp 44) (.tmp 47) 22 rfl wc.heap.size 24 i0' _ 2 16 Try.underlying22 (unhide HI) hz0 hz1 hz2 rfl (Nat.zero_lt_succ _) _ 0 [] rfl ((own_emptyD wc 24 wc.heap.size (Nat.le_refl _)).alloc (.cells #[.int .i64 p1, .int .i64 p2] 24)) ⟨g, 0, none⟩ j cp TK rfl (unhide HLT) (unhide HFT _ (by repeat' (first | (with_reducible exact up_refl _) | (with_reducible assumption) | (with_reducible refine up_alloc ?_ _) | (with_reducible refine up_drewN ?_ _) | (with_reducible refine up_drew ?_) | (with_reducible refine up_set ?_ (by first | (simp; done) | (simp; omega) | omega) _) | (refine up_trans ?_ (by with_reducible assumption))))) (unhide HO1) (by unfold maxLen; omega) (by omega) (by first | (simp; done) | (simp; omega) | omega) ?_; intro v' w5 hown' hgrow; have hU5 : Up wc w5 := own_grow ((own_emptyD wc 24 wc.heap.size (Nat.le_refl _)).alloc (.cells #[.int .i64 p1, .int .i64 p2] 24)) (Nat.le_refl _) (show Up wc _ from (by repeat' (first | (with_reducible exact up_refl _) | (with_reducible assumption) | (with_reducible refine up_alloc ?_ _) | (with_reducible refine up_drewN ?_ _) | (with_reducible refine up_drew ?_) | (with_reducible refine up_set ?_ (by first | (simp; done) | (simp; omega) | omega) _) | (refine up_trans ?_ (by with_reducible assumption))))) hgrow; have a2 := up_cell hU5 y2; have a3 := up_cell hU5 y3)
                | (refine step_append_mine _ rfl (.tmp 44) (.tmp 47) 22 rfl wc.heap.size 24 i0' _ 2 16 Try.underlying22 (unhide HI) hz0 hz1 hz2 rfl (Nat.zero_lt_succ _) _ 0 [] rfl (own_empty2D wc (.cells #[.int .i64 p1, .int .i64 p2] 24) 24 wc.heap.size (Nat.le_refl _)) ⟨g, 0, none⟩ j cp TK rfl (unhide HLT) (unhide HFT _ (by repeat' (first | (with_reducible exact up_refl _) | (with_reducible assumption) | (with_reducible refine up_alloc ?_ _) | (with_reducible refine up_drewN ?_ _) | (with_reducible refine up_drew ?_) | (with_reducible refine up_set ?_ (by first | (simp; done) | (simp; omega) | omega) _) | (refine up_trans ?_ (by with_reducible assumption))))) (unhide HO1) (by unfold maxLen; omega) (by omega) (by first | (simp; done) | (simp; omega) | omega) ?_; intro v' w5 hown' hgrow; have hU5 : Up wc w5 := own_grow (own_empty2D wc (.cells #[.int .i64 p1, .int .i64 p2] 24) 24 wc.heap.size (Nat.le_refl _)) (Nat.le_refl _) (show Up wc _ from (by repeat' (first | (with_reducible exact up_refl _) | (with_reducible assumption) | (with_reducible refine up_alloc ?_ _) | (with_reducible refine up_drewN ?_ _) | (with_reducible refine up_drew ?_) | (with_reducible refine up_set ?_ (by first | (simp; done) | (simp; omega) | omega) _) | (refine up_trans ?_ (by with_reducible assumption))))) hgrow; have a2 := up_cell hU5 y2; have a3 := up_cell hU5 y3)
                | (refine step_append_mine _ rfl (.tmp 48) (.tmp 53) 22 rfl wc.heap.size 24 i0' _ 2 16 Try.underlying22 (unhide HI) hz0 hz1 hz2 rfl (Nat.zero_lt_succ _) _ (0 + j) ([] ++ TK) rfl (hown'.alloc _) _ 1 1 [.int .i64 p1, .int .i64 p2] rfl rfl (two_new _ _ _ _) (by intro u hu; simp at hu; rcases hu with rfl | rfl <;> rfl) (by unfold maxLen; omega) (by omega) (by first | exact hU5.size | exact Nat.le_trans hU5.size (by simp)) ?_; intro v'' w6 hown'' hgrow'; have hU6 : Up wc w6 := own_grow (hown'.alloc _) (Nat.le_refl _) (show Up wc _ from (by repeat' (first | (with_reducible exact up_refl _) | (with_reducible assumption) | (with_reducible refine up_alloc ?_ _) | (with_reducible refine up_drewN ?_ _) | (with_reducible refine up_drew ?_) | (with_reducible refine up_set ?_ (by first | (simp; done) | (simp; omega) | omega) _) | (refine up_trans ?_ (by with_reducible assumption))))) hgrow')
                | (refine step_append_mine _ rfl (.tmp 48) (.tmp 53) 22 rfl wc.heap.size 24 i0' _ 2 16 Try.underlying22 (unhide HI) hz0 hz1 hz2 rfl (Nat.zero_lt_succ _) _ (0 + j) ([] ++ TK) rfl hown' _ 1 1 [.int .i64 p1, .int .i64 p2] rfl rfl (two_grown hgrow (two_new2 wc (.cells #[] 24) (.int .i64 p1) (.int .i64 p2) 24) (by intro e; have q : wc.heap.size + 1 = wc.heap.size := Option.some.inj e; omega)) (by intro u hu; simp at hu; rcases hu with rfl | rfl <;> rfl) (by unfold maxLen; omega) (by omega) (by first | exact hU5.size | exact Nat.le_trans hU5.size (by simp)) ?_; intro v'' w6 hown'' hgrow'; have hU6 : Up wc w6 := own_grow hown' (Nat.le_refl _) (show Up wc _ from (by repeat' (first | (with_reducible exact up_refl _) | (with_reducible assumption) | (with_reducible refine up_alloc ?_ _) | (with_reducible refine up_drewN ?_ _) | (with_reducible refine up_drew ?_) | (with_reducible refine up_set ?_ (by first | (simp; done) | (simp; omega) | omega) _) | (refine up_trans ?_ (by with_reducible assumption))))) hgrow')
                | (refine step_append_mine _ rfl (.tmp 48) (.tmp 53) 22 rfl wc.heap.size 24 i0' _ 2 16 Try.underlying22 (unhide HI) hz0 hz1 hz2 rfl (Nat.zero_lt_succ _) _ (0 + j) ([] ++ TK) rfl hown' _ 1 1 [.int .i64 p1, .int .i64 p2] rfl rfl (two_grown hgrow (two_alloc (two_new wc (.int .i64 p1) (.int .i64 p2) 24) (.cells #[] 24)) (by intro e; have q : wc.heap.size = wc.heap.size + 1 := Option.some.inj e; omega)) (by intro u hu; simp at hu; rcases hu with rfl | rfl <;> rfl) (by unfold maxLen; omega) (by omega) (by first | exact hU5.size | exact Nat.le_trans hU5.size (by simp)) ?_; intro v'' w6 hown'' hgrow'; have hU6 : Up wc w6 := own_grow hown' (Nat.le_refl _) (show Up wc _ from (by repeat' (first | (with_reducible exact up_refl _) | (with_reducible assumption) | (with_reducible refine up_alloc ?_ _) | (with_reducible refine up_drewN ?_ _) | (with_reducible refine up_drew ?_) | (with_reducible refine up_set ?_ (by first | (simp; done) | (simp; omega) | omega) _) | (refine up_trans ?_ (by with_reducible assumption))))) hgrow')
                | (refine step_append_mine _ rfl (.tmp 54) (.tmp 57) 22 rfl wc.heap.size 24 i0' _ 2 16 Try.underlying22 (unhide HI) hz0 hz1 hz2 rfl (Nat.zero_lt_succ _) _ (0 + j + 1) (([] ++ TK) ++ [Value.int IntKind.i64 p1, Value.int IntKind.i64 p2]) rfl hown'' _ _ _ DR rfl (by have q := unhide HLD; rw [Nat.sub_self] at q; exact q) (unhide HFD _ hU6) (unhide HO2) (by unfold maxLen; omega) (by omega) hU6.size ?_; intro v3 w7 hown3 hgrow3; have hU7 : Up wc w7 := own_grow hown'' (Nat.le_refl _) hU6 hgrow3))
              all_goals
                have HR := hide (own_ins (unhide HM) o6 (Nat.le_trans (unhide HU).size hv3.size) (by rw [Nat.sub_self]; exact hown3) (unhide HIC))
                have HV7 := hide (up_trans hv3 hU7)
                clear hown' hgrow hown'' hgrow' hown3 hgrow3 hU5 hU6 hU7 a2 a3 b2 b3 y2 y3
                go_wp2_with fail
                go_roundw
                case rel => exact ⟨k + 1, by omega, by go_num, by rw [unhide HE]; exact unhide HR, up_trans (unhide HU) (unhide HV7), hide (fun h => absurd h (Nat.succ_ne_zero k))⟩
                case measure => simp [intOf]; omega
    · obtain rfl : k = n := by omega
      have h1' : ¬ (k : Int) < (k : Int) := by omega
      rw [unhide HZ] at hown
      go_wp2_with fail
      exact bodyPost_ret (by simp [results, Try.results69, go_sem]) rfl ⟨_, rfl, hown, hu⟩
end Go.Proofs.Ytihckoenfklhpaa
namespace Go.Proofs.Ytihckoenfklhpaa
open Go.RowKit Go.Proofs.Gn
set_option maxRecDepth 100000 in
set_option maxHeartbeats 40000000 in
theorem r_side (A : Option Addr) (ss : Pl) (cap : Nat) (w : World) (h : Pts w A ss) (hn : ss.length ≤ 70000) (hb : BdL ss) :
    Calls Try.prog 70 #[.slice A ss.length cap] w fun e w' => ∃ v, e = .returned v ∧ w'.ownsRow w.heap.size 24 2 v (turnsL ss).length (cellsPl (turnsL ss)) ∧ Up w w' := by
  have HS := hide h
  have HBD := hide hb
  clear h hb
  obtain ⟨n, hN⟩ : ∃ n, ss.length = n := ⟨_, rfl⟩
  rw [hN] at hn ⊢
  have HN := hide hN
  clear hN
  obtain ⟨i0', hi, hz0, hz1, hz2⟩ := info_parts info_pt
  have HI := hide hi
  clear hi
  go_enter Try.func70, Try.ntmps70
  go_wp2_with fail
  go_loopw [3, 4] (fun out i wr => ∃ k : Nat, k ≤ n ∧ i = .int .i64 k ∧ wr.ownsRow w.heap.size 24 2 out (turnsL (ss.take k)).length (cellsPl (turnsL (ss.take k))) ∧ Up w wr ∧ Hid (k = 0 → out = .slice none 0 0)) (fun _ i _ => n - (intOf i).toNat)
  case atStart => exact ⟨0, Nat.zero_le _, rfl, World.ownsRow_nil _ _ _ _, up_refl _, hide (fun _ => rfl)⟩
  case round =>
    obtain ⟨wo, rfl⟩ : ∃ wo, wo = wr := ⟨_, rfl⟩
    obtain ⟨k, hk, rfl, hown, hu, HNIL⟩ := hrel
    by_cases hlt : k < n
    · have h1' : (k : Int) < (n : Int) := by omega
      have hl : k < ss.length := by rw [unhide HN]; exact hlt
      obtain ⟨pb, poff, rfl, hc⟩ := (unhide HS).resolve_left (by intro e; rw [e] at hl; simp at hl)
      obtain ⟨x0, x1⟩ := pts_g hc hl
      have bd := bdL_get (unhide HBD) hl
      have ht : ss.take (k + 1) = ss.take k ++ [Gx.g ss k] := by rw [List.take_succ_eq_append_getElem hl, Gx.g_eq hl]
      obtain ⟨X, hX⟩ : ∃ X, Gx.g ss k = X := ⟨_, rfl⟩
      rw [hX] at x0 x1 bd ht
      obtain ⟨x, y⟩ := X
      simp only at x0 x1 bd
      have hts := turnsL_snoc (ss.take k) (x, y)
      rw [← ht] at hts
      have bps : BdL (turnsL (ss.take k)) := bdL_sub (unhide HBD) fun p hp => List.mem_of_mem_take (turnsL_sub _ p hp)
      have lps : (turnsL (ss.take k)).length ≤ k := by have := turnsL_len (ss.take k); rw [List.length_take, unhide HN] at this; omega
      have hk0 : (turnsL (ss.take k)).length = 0 → k = 0 := fun e => Nat.eq_zero_of_not_pos fun c => by
        have := turnsL_pos (ss := ss.take k) (by rw [List.length_take, unhide HN]; omega)
        omega
      obtain ⟨ps, hps⟩ : ∃ ps, turnsL (ss.take k) = ps := ⟨_, rfl⟩
      rw [hps] at hown hts bps lps hk0
      have HTS := hide hts
      have HO := hide hown
      have HBP := hide bps
      have c0 := up_cell hu x0
      have c1 := up_cell hu x1
      have HU := hide hu
      clear hc hl hX hts hown bps hu x0 x1 ht hps
      rcases Nat.eq_zero_or_pos ps.length with m0 | m0
      · obtain rfl := unhide HNIL (hk0 m0)
        obtain rfl : ps = [] := List.eq_nil_of_length_eq_zero m0
        clear HNIL hk0 lps HBP bd
        go_wp2_with fail
        go_loopw [3] (fun s3 wx => s3 = .slice none 0 0 ∧ Up wo wx) (fun _ _ => 0)
        case atStart => exact ⟨rfl, up_refl _⟩
        case round =>
          obtain ⟨wx, rfl⟩ : ∃ wx, wx = wr := ⟨_, rfl⟩
          obtain ⟨rfl, hv⟩ := hrel
          have f2 := up_cell hv c0
          have f3 := up_cell hv c1
          go_upto_region 5 with fail
          go_cut [33] (fun s wy => s = .bool false ∧ Up wx wy)
          case first => as_aux_lemma =>
            refine wp_upq (by kernel_rfl) (by kernel_rfl) ?_; (repeat (go_big_quiet_step (fail))); refine wpQuiet_nil ?_; intro _ hw'; obtain ⟨pq, hw''⟩ := hw'; subst hw''; have hpq := pq.up
            go_wp2_with fail
            go_meet
            exact ⟨rfl, hpq⟩
          case rest =>
          obtain ⟨rfl, hy⟩ := hcut
          have hv3 : Up wo wc := up_trans hv hy
          have y2 := up_cell hy f2
          have y3 := up_cell hy f3
          clear f2 f3 hy hv c0 c1
          go_upto_region 7 with fail
          have b2 := fun o => alloc_cell o y2
          have b3 := fun o => alloc_cell o y3
          go_region_law (first
            | (refine step_append_empty rfl (.tmp 39) (.tmp 40) 22 rfl 24 i0' Try.underlying22 (unhide HI) _ 0 0 rfl rfl (Nat.le_refl _) ?_)
            | (refine step_append_mine _ rfl (.tmp 41) (.tmp 46) 22 rfl wc.heap.size 24 i0' _ 2 16 Try.underlying22 (unhide HI) hz0 hz1 hz2 rfl (Nat.zero_lt_succ _) _ 0 [] rfl ((own_emptyD wc 24 wc.heap.size (Nat.le_refl _)).alloc (.cells #[.int .i64 x, .int .i64 y] 24)) _ 1 1 [.int .i64 x, .int .i64 y] rfl rfl (two_new2 wc (.cells #[] 24) (.int .i64 x) (.int .i64 y) 24) (by intro u hu; simp at hu; rcases hu with rfl | rfl <;> rfl) (by unfold maxLen; omega) (by omega) (by first | (simp; done) | (simp; omega) | omega) ?_; intro v'' w6 hown'' hgrow'; have hU6 : Up wc w6 := own_grow ((own_emptyD wc 24 wc.heap.size (Nat.le_refl _)).alloc (.cells #[.int .i64 x, .int .i64 y] 24)) (Nat.le_refl _) (show Up wc _ from (by repeat' (first | (with_reducible exact up_refl _) | (with_reducible assumption) | (with_reducible refine up_alloc ?_ _) | (with_reducible refine up_drewN ?_ _) | (with_reducible refine up_drew ?_) | (with_reducible refine up_set ?_ (by first | (simp; done) | (simp; omega) | omega) _) | (refine up_trans ?_ (by with_reducible assumption))))) hgrow')
            | (refine step_append_mine _ rfl (.tmp 41) (.tmp 46) 22 rfl wc.heap.size 24 i0' _ 2 16 Try.underlying22 (unhide HI) hz0 hz1 hz2 rfl (Nat.zero_lt_succ _) _ 0 [] rfl (own_empty2D wc (.cells #[.int .i64 x, .int .i64 y] 24) 24 wc.heap.size (Nat.le_refl _)) _ 1 1 [.int .i64 x, .int .i64 y] rfl rfl (two_alloc (two_new wc (.int .i64 x) (.int .i64 y) 24) (.cells #[] 24)) (by intro u hu; simp at hu; rcases hu with rfl | rfl <;> rfl) (by unfold maxLen; omega) (by omega) (by first | (simp; done) | (simp; omega) | omega) ?_; intro v'' w6 hown'' hgrow'; have hU6 : Up wc w6 := own_grow (own_empty2D wc (.cells #[.int .i64 x, .int .i64 y] 24) 24 wc.heap.size (Nat.le_refl _)) (Nat.le_refl _) (show Up wc _ from (by repeat' (first | (with_reducible exact up_refl _) | (with_reducible assumption) | (with_reducible refine up_alloc ?_ _) | (with_reducible refine up_drewN ?_ _) | (with_reducible refine up_drew ?_) | (with_reducible refine up_set ?_ (by first | (simp; done) | (simp; omega) | omega) _) | (refine up_trans ?_ (by with_reducible assumption))))) hgrow'))
          all_goals
            have HR := hide (turns_own (ps := []) (m := 0) (unhide HTS) rfl rfl (own_base (b' := w.heap.size) hown'' (Nat.le_trans (unhide HU).size hv3.size)))
            have HV7 := hide (up_trans hv3 hU6)
            clear hown'' hgrow' hU6 b2 b3 y2 y3
            go_wp2_with fail
            go_roundw
            case rel => exact ⟨k + 1, by omega, by go_num, unhide HR, up_trans (unhide HU) (unhide HV7), hide (fun h => absurd h (Nat.succ_ne_zero k))⟩
            case measure => simp [intOf]; omega
      · obtain ⟨N, hM⟩ : ∃ m, ps.length = m := ⟨_, rfl⟩
        rw [hM] at HO m0 lps
        obtain ⟨g, cp, rfl, g1, g2, g3⟩ := own_some (unhide HO) m0
        have HC := hide (own_cells (unhide HO))
        have HN2 := hide hM
        clear hM hk0
        go_wp2_with fail
        go_loopw [3] (fun v wx => ∃ q : Nat, q ≤ N ∧ v = .slice (some ⟨g, 0, none⟩) q cp ∧ Up wo wx ∧ Hid (leftS (x, y) (ps.take q) = leftS (x, y) ps)) (fun v _ => match v with | .slice _ n _ => n | _ => 0)
        case atStart => exact ⟨N, Nat.le_refl _, rfl, up_refl _, hide (by rw [List.take_of_length_le (by rw [unhide HN2]; exact Nat.le_refl _)])⟩
        case round =>
          obtain ⟨wx, rfl⟩ : ∃ wx, wx = wr := ⟨_, rfl⟩
          obtain ⟨q, hq, rfl, hv, HL⟩ := hrel
          have hlen : (ps.take q).length = q := by rw [List.length_take, unhide HN2]; omega
          have d0 := up_cell hv c0
          have d1 := up_cell hv c1
          by_cases h2 : q < 2
          · have HQ : Hid (leftS (x, y) ps = ps.take q) := hide (by rw [← unhide HL, leftS_short (by omega)])
            have HM : Hid ((leftS (x, y) ps).length = q) := hide (by rw [unhide HQ, hlen])
            have h2' : decide ((2 : Int) ≤ (q : Int)) = false := decide_eq_false (by omega)
            have h3' : (q : Int) < 2 := by omega
            clear hlen HL HBP bd HC c0 c1
            go_upto_region 5 with fail
            go_cut [33] (fun s wy => s = .bool false ∧ Up wx wy)
            case first => as_aux_lemma =>
              refine wp_upq (by kernel_rfl) (by kernel_rfl) ?_; (repeat (go_big_quiet_step (fail))); refine wpQuiet_nil ?_; intro _ hw'; obtain ⟨pq, hw''⟩ := hw'; subst hw''; have hpq := pq.up
              go_wp2_with fail
              go_meet
              exact ⟨rfl, hpq⟩
            case rest =>
            obtain ⟨rfl, hy⟩ := hcut
            have hv3 : Up wo wc := up_trans hv hy
            have y2 := up_cell hy d0
            have y3 := up_cell hy d1
            clear d0 d1 hy hv h2' h3'
            go_upto_region 7 with fail
            have S2 := own_p (own_up (unhide HO) hv3)
            have FT : ∀ W : World, Up wc W → ∀ i u, (cellsPl (ps.take q))[i]? = some u → W.cell? ((⟨g, 0, none⟩ : Addr).add i) = some u := fun W h => pts_news (pts_take (pts_up S2 h) q)
            have LT : (cellsPl (ps.take q)).length = q * 2 := by rw [cellsPl_length, List.length_take, unhide HN2]; omega
            have O1 := one_cells (ps.take q)
            have HFT := hide FT
            have HO1 := hide O1
            have HLT := hide LT
            obtain ⟨TK, hTK⟩ : ∃ x, cellsPl (ps.take q) = x := ⟨_, rfl⟩
            rw [hTK] at HFT HO1 HLT
            have HTK := hide hTK
            have b2 := fun o => alloc_cell o y2
            have b3 := fun o => alloc_cell o y3
            clear S2 FT LT O1 hTK
            go_region_law (first
              | (refine step_append_mine _ rfl (.tmp 39) (.tmp 40) 22 rfl wc.heap.size 24 i0' _ 2 16 Try.underlying22 (unhide HI) hz0 hz1 hz2 rfl (Nat.zero_lt_succ _) _ 0 [] rfl (own_emptyD wc 24 wc.heap.size (Nat.le_refl _)) ⟨g, 0, none⟩ q cp TK rfl (unhide HLT) (unhide HFT _ (by repeat' (first | (with_reducible exact up_refl _) | (with_reducible assumption) | (with_reducible refine up_alloc ?_ _) | (with_reducible refine up_drewN ?_ _) | (with_reducible refine up_drew ?_) | (with_reducible refine up_set ?_ (by first | (simp; done) | (simp; omega) | omega) _) | (refine up_trans ?_ (by with_reducible assumption))))) (unhide HO1) (by unfold maxLen; omega) (by omega) (by first | (simp; done) | (simp; omega) | omega) ?_; intro v' w5 hown' hgrow; have hU5 : Up wc w5 := own_grow (own_emptyD wc 24 wc.heap.size (Nat.le_refl _)) (Nat.le_refl _) (show Up wc _ from (by repeat' (first | (with_reducible exact up_refl _) | (with_reducible assumption) | (with_reducible refine up_alloc ?_ _) | (with_reducible refine up_drewN ?_ _) | (with_reducible refine up_drew ?_) | (with_reducible refine up_set ?_ (by first | (simp; done) | (simp; omega) | omega) _) | (refine up_trans ?_ (by with_reducible assumption))))) hgrow; have a2 := up_cell hU5 y2; have a3 := up_cell hU5 y3)
              | (refine step_append_mine _ rfl (.tmp 39) (.tmp 40) 22 rfl wc.heap.size 24 i0' _ 2 16 Try.underlying22 (unhide HI) hz0 hz1 hz2 rfl (Nat.zero_lt_succ _) _ 0 [] rfl ((own_emptyD wc 24 wc.heap.size (Nat.le_refl _)).alloc (.cells #[.int .i64 x, .int .i64 y] 24)) ⟨g, 0, none⟩ q cp TK rfl (unhide HLT) (unhide HFT _ (by repeat' (first | (with_reducible exact up_refl _) | (with_reducible assumption) | (with_reducible refine up_alloc ?_ _) | (with_reducible refine up_drewN ?_ _) | (with_reducible refine up_drew ?_) | (with_reducible refine up_set ?_ (by first | (simp; done) | (simp; omega) | omega) _) | (refine up_trans ?_ (by with_reducible assumption))))) (unhide HO1) (by unfold maxLen; omega) (by omega) (by first | (simp; done) | (simp; omega) | omega) ?_; intro v' w5 hown' hgrow; have hU5 : Up wc w5 := own_grow ((own_emptyD wc 24 wc.heap.size (Nat.le_refl _)).alloc (.cells #[.int .i64 x, .int .i64 y] 24)) (Nat.le_refl _) (show Up wc _ from (by repeat' (first | (with_reducible exact up_refl _) | (with_reducible assumption) | (with_reducible refine up_alloc ?_ _) | (with_reducible refine up_drewN ?_ _) | (with_reducible refine up_drew ?_) | (with_reducible refine up_set ?_ (by first | (simp; done) | (simp; omega) | omega) _) | (refine up_trans ?_ (by with_reducible assumption))))) hgrow; have a2 := up_cell hU5 y2; have a3 := up_cell hU5 y3)
              | (refine step_append_mine _ rfl (.tmp 39) (.tmp 40) 22 rfl wc.heap.size 24 i0' _ 2 16 Try.underlying22 (unhide HI) hz0 hz1 hz2 rfl (Nat.zero_lt_succ _) _ 0 [] rfl (own_empty2D wc (.cells #[.int .i64 x, .int .i64 y] 24) 24 wc.heap.size (Nat.le_refl _)) ⟨g, 0, none⟩ q cp TK rfl (unhide HLT) (unhide HFT _ (by repeat' (first | (with_reducible exact up_refl _) | (with_reducible assumption) | (with_reducible refine up_alloc ?_ _) | (with_reducible refine up_drewN ?_ _) | (with_reducible refine up_drew ?_) | (with_reducible refine up_set ?_ (by first | (simp; done) | (simp; omega) | omega) _) | (refine up_trans ?_ (by with_reducible assumption))))) (unhide HO1) (by unfold maxLen; omega) (by omega) (by first | (simp; done) | (simp; omega) | omega) ?_; intro v' w5 hown' hgrow; have hU5 : Up wc w5 := own_grow (own_empty2D wc (.cells #[.int .i64 x, .int .i64 y] 24) 24 wc.heap.size (Nat.le_refl _)) (Nat.le_refl _) (show Up wc _ from (by repeat' (first | (with_reducible exact up_refl _) | (with_reducible assumption) | (with_reducible refine up_alloc ?_ _) | (with_reducible refine up_drewN ?_ _) | (with_reducible refine up_drew ?_) | (with_reducible refine up_set ?_ (by first | (simp; done) | (simp; omega) | omega) _) | (refine up_trans ?_ (by with_reducible assumption))))) hgrow; have a2 := up_cell hU5 y2; have a3 := up_cell hU5 y3)
              | (refine step_append_mine _ rfl (.tmp 41) (.tmp 46) 22 rfl wc.heap.size 24 i0' _ 2 16 Try.underlying22 (unhide HI) hz0 hz1 hz2 rfl (Nat.zero_lt_succ _) _ (0 + q) ([] ++ TK) rfl (hown'.alloc _) _ 1 1 [.int .i64 x, .int .i64 y] rfl rfl (two_new _ _ _ _) (by intro u hu; simp at hu; rcases hu with rfl | rfl <;> rfl) (by unfold maxLen; omega) (by omega) (by first | exact hU5.size | exact Nat.le_trans hU5.size (by simp)) ?_; intro v'' w6 hown'' hgrow'; have hU6 : Up wc w6 := own_grow (hown'.alloc _) (Nat.le_refl _) (show Up wc _ from (by repeat' (first | (with_reducible exact up_refl _) | (with_reducible assumption) | (with_reducible refine up_alloc ?_ _) | (with_reducible refine up_drewN ?_ _) | (with_reducible refine up_drew ?_) | (with_reducible refine up_set ?_ (by first | (simp; done) | (simp; omega) | omega) _) | (refine up_trans ?_ (by with_reducible assumption))))) hgrow')
              | (refine step_append_mine _ rfl (.tmp 41) (.tmp 46) 22 rfl wc.heap.size 24 i0' _ 2 16 Try.underlying22 (unhide HI) hz0 hz1 hz2 rfl (Nat.zero_lt_succ _) _ (0 + q) ([] ++ TK) rfl hown' _ 1 1 [.int .i64 x, .int .i64 y] rfl rfl (two_grown hgrow (two_new2 wc (.cells #[] 24) (.int .i64 x) (.int .i64 y) 24) (by intro e; have q : wc.heap.size + 1 = wc.heap.size := Option.some.inj e; omega)) (by intro u hu; simp at hu; rcases hu with rfl | rfl <;> rfl) (by unfold maxLen; omega) (by omega) (by first | exact hU5.size | exact Nat.le_trans hU5.size (by simp)) ?_; intro v'' w6 hown'' hgrow'; have hU6 : Up wc w6 := own_grow hown' (Nat.le_refl _) (show Up wc _ from (by repeat' (first | (with_reducible exact up_refl _) | (with_reducible assumption) | (with_reducible refine up_alloc ?_ _) | (with_reducible refine up_drewN ?_ _) | (with_reducible refine up_drew ?_) | (with_reducible refine up_set ?_ (by first | (simp; done) | (simp; omega) | omega) _) | (refine up_trans ?_ (by with_reducible assumption))))) hgrow')
              | (refine step_append_mine _ rfl (.tmp 41) (.tmp 46) 22 rfl wc.heap.size 24 i0' _ 2 16 Try.underlying22 (unhide HI) hz0 hz1 hz2 rfl (Nat.zero_lt_succ _) _ (0 + q) ([] ++ TK) rfl hown' _ 1 1 [.int .i64 x, .int .i64 y] rfl rfl (two_grown hgrow (two_alloc (two_new wc (.int .i64 x) (.int .i64 y) 24) (.cells #[] 24)) (by intro e; have q : wc.heap.size = wc.heap.size + 1 := Option.some.inj e; omega)) (by intro u hu; simp at hu; rcases hu with rfl | rfl <;> rfl) (by unfold maxLen; omega) (by omega) (by first | exact hU5.size | exact Nat.le_trans hU5.size (by simp)) ?_; intro v'' w6 hown'' hgrow'; have hU6 : Up wc w6 := own_grow hown' (Nat.le_refl _) (show Up wc _ from (by repeat' (first | (with_reducible exact up_refl _) | (with_reducible assumption) | (with_reducible refine up_alloc ?_ _) | (with_reducible refine up_drewN ?_ _) | (with_reducible refine up_drew ?_) | (with_reducible refine up_set ?_ (by first | (simp; done) | (simp; omega) | omega) _) | (refine up_trans ?_ (by with_reducible assumption))))) hgrow'))
            all_goals
              rw [Nat.zero_add, List.nil_append, ← unhide HTK] at hown''
              have HR := hide (turns_own (unhide HTS) (unhide HQ) (unhide HM) (own_base (b' := w.heap.size) hown'' (Nat.le_trans (unhide HU).size hv3.size)))
              have HV7 := hide (up_trans hv3 hU6)
              clear hown' hgrow hown'' hgrow' hU5 hU6 a2 a3 b2 b3 y2 y3
              go_wp2_with fail
              go_roundw
              case rel => exact ⟨k + 1, by omega, by go_num, unhide HR, up_trans (unhide HU) (unhide HV7), hide (fun h => absurd h (Nat.succ_ne_zero k))⟩
              case measure => simp [intOf]; omega
          · obtain ⟨m, hm⟩ : ∃ m, q = m + 2 := ⟨q - 2, by omega⟩
            have hstep := leftS_step (p := (x, y)) (ps := ps.take q) (n := m) (by rw [hlen]; exact hm)
            have et : (ps.take q).take (m + 1) = ps.take (m + 1) := by rw [List.take_take, Nat.min_eq_left (by omega)]
            have ea : Gx.g (ps.take q) m = Gx.g ps m := by rw [Gx.g_eq (by rw [hlen]; omega), Gx.g_eq (by rw [unhide HN2]; omega), List.getElem_take]
            have eb : Gx.g (ps.take q) (m + 1) = Gx.g ps (m + 1) := by rw [Gx.g_eq (by rw [hlen]; omega), Gx.g_eq (by rw [unhide HN2]; omega), List.getElem_take]
            rw [et, ea, eb] at hstep
            obtain ⟨a0, a1⟩ := pts_g (unhide HC) (k := m) (by rw [unhide HN2]; omega)
            obtain ⟨b0, b1⟩ := pts_g (unhide HC) (k := m + 1) (by rw [unhide HN2]; omega)
            have ba := bdL_get (unhide HBP) (k := m) (by rw [unhide HN2]; omega)
            have bb := bdL_get (unhide HBP) (k := m + 1) (by rw [unhide HN2]; omega)
            obtain ⟨P, hP⟩ : ∃ P, Gx.g ps m = P := ⟨_, rfl⟩
            obtain ⟨Q, hQ⟩ : ∃ P, Gx.g ps (m + 1) = P := ⟨_, rfl⟩
            rw [hP] at a0 a1 ba hstep
            rw [hQ] at b0 b1 bb hstep
            obtain ⟨p1, p2⟩ := P
            obtain ⟨q1, q2⟩ := Q
            simp only at a0 a1 b0 b1 ba bb
            have PT : ∀ W : World, Calls Try.prog 94 #[pt p1 p2, pt q1 q2, pt x y] W fun e w' => e = .returned (.int .i64 (cmpV (det p1 p2 q1 q2 x y) 0)) ∧ Up W w' := fun W => r_Sign p1 p2 q1 q2 x y W ba.1 ba.2 bb.1 bb.2 bd.1 bd.2
            have hd : decide (cmpV (det p1 p2 q1 q2 x y) 0 ≤ 0) = decide (Gx.dt (p1, p2) (q1, q2) (x, y) ≤ 0) := cmp_le _
            obtain ⟨T, hT⟩ : ∃ T, cmpV (det p1 p2 q1 q2 x y) 0 = T := ⟨_, rfl⟩
            rw [hT] at hd PT
            obtain ⟨D, hD⟩ : ∃ D, decide (Gx.dt (p1, p2) (q1, q2) (x, y) ≤ 0) = D := ⟨_, rfl⟩
            rw [hD] at hd
            have HPT := hide PT
            have HD := hide hD
            have HST := hide hstep
            have HLEN := hide hlen
            have r0 := up_cell hv a0
            have r1 := up_cell hv a1
            have s0 := up_cell hv b0
            have s1 := up_cell hv b1
            rw [Nat.zero_add] at r0 r1 s0 s1
            clear PT hP hQ hT hD hstep a0 a1 b0 b1 ba bb et ea eb hlen bd
            have k1 : (2 : Int) ≤ (q : Int) := by omega
            have k2 : decide ((2 : Int) ≤ (q : Int)) = true := decide_eq_true k1
            have k3 : IntKind.i64.wrap ((q : Int) - 2) = (m : Int) := by rw [IntWalk.i64_in _ ⟨by omega, by omega⟩]; omega
            have k4 : IntKind.i64.wrap ((q : Int) - 1) = ((m + 1 : Nat) : Int) := by rw [IntWalk.i64_in _ ⟨by omega, by omega⟩]; omega
            have k5 : (m : Int) < (q : Int) := by omega
            have k6 : ((m + 1 : Nat) : Int) < (q : Int) := by omega
            have k7 : ((m + 1 : Nat) : Int) ≤ (cp : Int) := by omega
            have k8 : m + 1 ≤ cp := by omega
            have k9 : m + 1 < q := by omega
            have k10 : m + 1 ≤ N := by omega
            obtain ⟨M, hM⟩ : ∃ M : Nat, M = m + 1 := ⟨_, rfl⟩
            rw [← hM] at k4 k6 k7 k8 k9 k10 s0 s1 HST
            clear hm hM h2
            go_upto_region 5 with fail
            go_cut [33] (fun s wy => s = .bool D ∧ Up wx wy)
            case first => as_aux_lemma =>
              have n0 : ∀ p : UpW wx, p.v.cell? ⟨g, m * 2, none⟩ = some (.int .i64 p1) := fun p => up_cell p.up r0
              have n1 : ∀ p : UpW wx, p.v.cell? ⟨g, m * 2 + 1, none⟩ = some (.int .i64 p2) := fun p => up_cell p.up r1
              have n2 : ∀ p : UpW wx, p.v.cell? ⟨g, M * 2, none⟩ = some (.int .i64 q1) := fun p => up_cell p.up s0
              have n3 : ∀ p : UpW wx, p.v.cell? ⟨g, M * 2 + 1, none⟩ = some (.int .i64 q2) := fun p => up_cell p.up s1
              have n4 : ∀ p : UpW wx, p.v.cell? ⟨pb, poff + k * 2, none⟩ = some (.int .i64 x) := fun p => up_cell p.up d0
              have n5 : ∀ p : UpW wx, p.v.cell? ⟨pb, poff + k * 2 + 1, none⟩ = some (.int .i64 y) := fun p => up_cell p.up d1
              refine wp_upq (by kernel_rfl) (by kernel_rfl) ?_; (repeat (go_big_quiet_step ((go_at_call 94; exact upq (unhide HPT _))))); refine wpQuiet_nil ?_; intro _ hw'; obtain ⟨pq, hw''⟩ := hw'; subst hw''; have hpq := pq.up
              go_wp2_with fail
              go_meet
              exact ⟨rfl, hpq⟩
            case rest =>
            obtain ⟨rfl, hy⟩ := hcut
            have hv3 : Up wo wc := up_trans hv hy
            cases D
            · have hnd : ¬ Gx.dt (p1, p2) (q1, q2) (x, y) ≤ 0 := of_decide_eq_false (unhide HD)
              have HQ : Hid (leftS (x, y) ps = ps.take q) := hide (by rw [← unhide HL, unhide HST, if_neg hnd])
              have HM : Hid ((leftS (x, y) ps).length = q) := hide (by rw [unhide HQ, unhide HLEN])
              have y2 := up_cell hy d0
              have y3 := up_cell hy d1
              clear hnd HST HL HLEN HD HPT d0 d1 c0 c1 r0 r1 s0 s1 hd k1 k2 k3 k4 k5 k6 k7 k8 k9 k10 hy hv HC HBP
              go_upto_region 7 with fail
              have S2 := own_p (own_up (unhide HO) hv3)
              have FT : ∀ W : World, Up wc W → ∀ i u, (cellsPl (ps.take q))[i]? = some u → W.cell? ((⟨g, 0, none⟩ : Addr).add i) = some u := fun W h => pts_news (pts_take (pts_up S2 h) q)
              have LT : (cellsPl (ps.take q)).length = q * 2 := by rw [cellsPl_length, List.length_take, unhide HN2]; omega
              have O1 := one_cells (ps.take q)
              have HFT := hide FT
              have HO1 := hide O1
              have HLT := hide LT
              obtain ⟨TK, hTK⟩ : ∃ x, cellsPl (ps.take q) = x := ⟨_, rfl⟩
              rw [hTK] at HFT HO1 HLT
              have HTK := hide hTK
              have b2 := fun o => alloc_cell o y2
              have b3 := fun o => alloc_cell o y3
              clear S2 FT LT O1 hTK
              go_region_law (first
                | (refine step_append_mine _ rfl (.tmp 39) (.tmp 40) 22 rfl wc.heap.size 24 i0' _ 2 16 Try.underlying22 (unhide HI) hz0 hz1 hz2 rfl (Nat.zero_lt_succ _) _ 0 [] rfl (own_emptyD wc 24 wc.heap.size (Nat.le_refl _)) ⟨g, 0, none⟩ q cp TK rfl (unhide HLT) (unhide HFT _ (by repeat' (first | (with_reducible exact up_refl _) | (with_reducible assumption) | (with_reducible refine up_alloc ?_ _) | (with_reducible refine up_drewN ?_ _) | (with_reducible refine up_drew ?_) | (with_reducible refine up_set ?_ (by first | (simp; done) | (simp; omega) | omega) _) | (refine up_trans ?_ (by with_reducible assumption))))) (unhide HO1) (by unfold maxLen; omega) (by omega) (by first | (simp; done) | (simp; omega) | omega) ?_; intro v' w5 hown' hgrow; have hU5 : Up wc w5 := own_grow (own_emptyD wc 24 wc.heap.size (Nat.le_refl _)) (Nat.le_refl _) (show Up wc _ from (by repeat' (first | (with_reducible exact up_refl _) | (with_reducible assumption) | (with_reducible refine up_alloc ?_ _) | (with_reducible refine up_drewN ?_ _) | (with_reducible refine up_drew ?_) | (with_reducible refine up_set ?_ (by first | (simp; done) | (simp; omega) | omega) _) | (refine up_trans ?_ (by with_reducible assumption))))) hgrow; have a2 := up_cell hU5 y2; have a3 := up_cell hU5 y3)
                | (refine step_append_mine _ rfl (.tmp 39) (.tmp 40) 22 rfl wc.heap.size 24 i0' _ 2 16 Try.underlying22 (unhide HI) hz0 hz1 hz2 rfl (Nat.zero_lt_succ _) _ 0 [] rfl ((own_emptyD wc 24 wc.heap.size (Nat.le_refl _)).alloc (.cells #[.int .i64 x, .int .i64 y] 24)) ⟨g, 0, none⟩ q cp TK rfl (unhide HLT) (unhide HFT _ (by repeat' (first | (with_reducible exact up_refl _) | (with_reducible assumption) | (with_reducible refine up_alloc ?_ _) | (with_reducible refine up_drewN ?_ _) | (with_reducible refine up_drew ?_) | (with_reducible refine up_set ?_ (by first | (simp; done) | (simp; omega) | omega) _) | (refine up_trans ?_ (by with_reducible assumption))))) (unhide HO1) (by unfold maxLen; omega) (by omega) (by first | (simp; done) | (simp; omega) | omega) ?_; intro v' w5 hown' hgrow; have hU5 : Up wc w5 := own_grow ((own_emptyD wc 24 wc.heap.size (Nat.le_refl _)).alloc (.cells #[.int .i64 x, .int .i64 y] 24)) (Nat.le_refl _) (show Up wc _ from (by repeat' (first | (with_reducible exact up_refl _) | (with_reducible assumption) | (with_reducible refine up_alloc ?_ _) | (with_reducible refine up_drewN ?_ _) | (with_reducible refine up_drew ?_) | (with_reducible refine up_set ?_ (by first | (simp; done) | (simp; omega) | omega) _) | (refine up_trans ?_ (by with_reducible assumption))))) hgrow; have a2 := up_cell hU5 y2; have a3 := up_cell hU5 y3)
                | (refine step_append_mine _ rfl (.tmp 39) (.tmp 40) 22 rfl wc.heap.size 24 i0' _ 2 16 Try.underlying22 (unhide HI) hz0 hz1 hz2 rfl (Nat.zero_lt_succ _) _ 0 [] rfl (own_empty2D wc (.cells #[.int .i64 x, .int .i64 y] 24) 24 wc.heap.size (Nat.le_refl _)) ⟨g, 0, none⟩ q cp TK rfl (unhide HLT) (unhide HFT _ (by repeat' (first | (with_reducible exact up_refl _) | (with_reducible assumption) | (with_reducible refine up_alloc ?_ _) | (with_reducible refine up_drewN ?_ _) | (with_reducible refine up_drew ?_) | (with_reducible refine up_set ?_ (by first | (simp; done) | (simp; omega) | omega) _) | (refine up_trans ?_ (by with_reducible assumption))))) (unhide HO1) (by unfold maxLen; omega) (by omega) (by first | (simp; done) | (simp; omega) | omega) ?_; intro v' w5 hown' hgrow; have hU5 : Up wc w5 := own_grow (own_empty2D wc (.cells #[.int .i64 x, .int .i64 y] 24) 24 wc.heap.size (Nat.le_refl _)) (Nat.le_refl _) (show Up wc _ from (by repeat' (first | (with_reducible exact up_refl _) | (with_reducible assumption) | (with_reducible refine up_alloc ?_ _) | (with_reducible refine up_drewN ?_ _) | (with_reducible refine up_drew ?_) | (with_reducible refine up_set ?_ (by first | (simp; done) | (simp; omega) | omega) _) | (refine up_trans ?_ (by with_reducible assumption))))) hgrow; have a2 := up_cell hU5 y2; have a3 := up_cell hU5 y3)
                | (refine step_append_mine _ rfl (.tmp 41) (.tmp 46) 22 rfl wc.heap.size 24 i0' _ 2 16 Try.underlying22 (unhide HI) hz0 hz1 hz2 rfl (Nat.zero_lt_succ _) _ (0 + q) ([] ++ TK) rfl (hown'.alloc _) _ 1 1 [.int .i64 x, .int .i64 y] rfl rfl (two_new _ _ _ _) (by intro u hu; simp at hu; rcases hu with rfl | rfl <;> rfl) (by unfold maxLen; omega) (by omega) (by first | exact hU5.size | exact Nat.le_trans hU5.size (by simp)) ?_; intro v'' w6 hown'' hgrow'; have hU6 : Up wc w6 := own_grow (hown'.alloc _) (Nat.le_refl _) (show Up wc _ from (by repeat' (first | (with_reducible exact up_refl _) | (with_reducible assumption) | (with_reducible refine up_alloc ?_ _) | (with_reducible refine up_drewN ?_ _) | (with_reducible refine up_drew ?_) | (with_reducible refine up_set ?_ (by first | (simp; done) | (simp; omega) | omega) _) | (refine up_trans ?_ (by with_reducible assumption))))) hgrow')
                | (refine step_append_mine _ rfl (.tmp 41) (.tmp 46) 22 rfl wc.heap.size 24 i0' _ 2 16 Try.underlying22 (unhide HI) hz0 hz1 hz2 rfl (Nat.zero_lt_succ _) _ (0 + q) ([] ++ TK) rfl hown' _ 1 1 [.int .i64 x, .int .i64 y] rfl rfl (two_grown hgrow (two_new2 wc (.cells #[] 24) (.int .i64 x) (.int .i64 y) 24) (by intro e; have q : wc.heap.size + 1 = wc.heap.size := Option.some.inj e; omega)) (by intro u hu; simp at hu; rcases hu with rfl | rfl <;> rfl) (by unfold maxLen; omega) (by omega) (by first | exact hU5.size | exact Nat.le_trans hU5.size (by simp)) ?_; intro v'' w6 hown'' hgrow'; have hU6 : Up wc w6 := own_grow hown' (Nat.le_refl _) (show Up wc _ from (by repeat' (first | (with_reducible exact up_refl _) | (with_reducible assumption) | (with_reducible refine up_alloc ?_ _) | (with_reducible refine up_drewN ?_ _) | (with_reducible refine up_drew ?_) | (with_reducible refine up_set ?_ (by first | (simp; done) | (simp; omega) | omega) _) | (refine up_trans ?_ (by with_reducible assumption))))) hgrow')
                | (refine step_append_mine _ rfl (.tmp 41) (.tmp 46) 22 rfl wc.heap.size 24 i0' _ 2 16 Try.underlying22 (unhide HI) hz0 hz1 hz2 rfl (Nat.zero_lt_succ _) _ (0 + q) ([] ++ TK) rfl hown' _ 1 1 [.int .i64 x, .int .i64 y] rfl rfl (two_grown hgrow (two_alloc (two_new wc (.int .i64 x) (.int .i64 y) 24) (.cells #[] 24)) (by intro e; have q : wc.heap.size = wc.heap.size + 1 := Option.some.inj e; omega)) (by intro u hu; simp at hu; rcases hu with rfl | rfl <;> rfl) (by unfold maxLen; omega) (by omega) (by first | exact hU5.size | exact Nat.le_trans hU5.size (by simp)) ?_; intro v'' w6 hown'' hgrow'; have hU6 : Up wc w6 := own_grow hown' (Nat.le_refl _) (show Up wc _ from (by repeat' (first | (with_reducible exact up_refl _) | (with_reducible assumption) | (with_reducible refine up_alloc ?_ _) | (with_reducible refine up_drewN ?_ _) | (with_reducible refine up_drew ?_) | (with_reducible refine up_set ?_ (by first | (simp; done) | (simp; omega) | omega) _) | (refine up_trans ?_ (by with_reducible assumption))))) hgrow'))
              all_goals
                rw [Nat.zero_add, List.nil_append, ← unhide HTK] at hown''
                have HR := hide (turns_own (unhide HTS) (unhide HQ) (unhide HM) (own_base (b' := w.heap.size) hown'' (Nat.le_trans (unhide HU).size hv3.size)))
                have HV7 := hide (up_trans hv3 hU6)
                clear hown' hgrow hown'' hgrow' hU5 hU6 a2 a3 b2 b3 y2 y3
                go_wp2_with fail
                go_roundw
                case rel => exact ⟨k + 1, by omega, by go_num, unhide HR, up_trans (unhide HU) (unhide HV7), hide (fun h => absurd h (Nat.succ_ne_zero k))⟩
                case measure => simp [intOf]; omega
            · have hnd : Gx.dt (p1, p2) (q1, q2) (x, y) ≤ 0 := of_decide_eq_true (unhide HD)
              have HL2 : Hid (leftS (x, y) (ps.take M) = leftS (x, y) ps) := hide (by rw [← unhide HL, unhide HST, if_pos hnd])
              clear hnd HST HL HLEN HD HPT d0 d1 c0 c1 r0 r1 s0 s1 hd k1 k2 k3 k5 HC HBP
              go_wp2_with fail
              first
                | exact ⟨⟨M, k10, rfl, hv3, HL2⟩, k9⟩
                | (go_roundw; (case rel => exact ⟨M, k10, rfl, hv3, HL2⟩); (case measure => exact k9))
    · obtain rfl : k = n := by omega
      have h1' : ¬ (k : Int) < (k : Int) := by omega
      rw [List.take_of_length_le (by rw [unhide HN]; exact Nat.le_refl _)] at hown
      go_wp2_with fail
      exact bodyPost_ret (by simp [results, Try.results70, go_sem]) rfl ⟨_, rfl, hown, hu⟩
end Go.Proofs.Ytihckoenfklhpaa
namespace Go.Proofs.Ytihckoenfklhpaa
open Go.RowKit Go.Proofs.Gn
theorem hullF_few {ps : Pl} (h : (Gx.sortU ps).length < 2) : Gx.hullF ps = Gx.sortU ps := by
  rcases Nat.eq_zero_or_pos (Gx.sortU ps).length with c | c
  · have e := List.eq_nil_of_length_eq_zero c
    unfold Gx.hullF Gx.hullS
    rw [e]
    rfl
  · exact (hullF_eq rfl).1 (by omega)
/-- The last k points, from the end on. -/
def bk (s : Pl) (t : Nat) : Pl := s.reverse.take t
theorem bk_succ {s : Pl} {t : Nat} (h : t < s.length) : bk s (t + 1) = bk s t ++ [Gx.g s (s.length - 1 - t)] := by
  unfold bk
  have hl : t < s.reverse.length := by simpa using h
  rw [List.take_succ_eq_append_getElem hl, List.getElem_reverse, ← Gx.g_eq]
theorem bk_all (s : Pl) : bk s s.length = s.reverse := by unfold bk; rw [List.take_of_length_le (by simp)]
set_option maxRecDepth 100000 in
set_option maxHeartbeats 40000000 in
theorem r_Corners (A : Option Addr) (ps : Pl) (cap : Nat) (w : World) (h : Pts w A ps) (hn : ps.length ≤ 70000) (hb : BdL ps) :
    Calls Try.prog 36 #[.slice A ps.length cap] w fun e w' => ∃ v, e = .returned v ∧ w'.ownsRow w.heap.size 24 2 v (Gx.hullF ps).length (cellsPl (Gx.hullF ps)) ∧ Up w w' := by
  have PS : ∀ W : World, Up w W → Calls Try.prog 69 #[.slice A ps.length cap] W fun e w' => ∃ v, e = .returned v ∧ w'.ownsRow w.heap.size 24 2 v (Gx.sortU ps).length (cellsPl (Gx.sortU ps)) ∧ Up W w' := fun W hu =>
    (r_sorted A ps cap W (pts_up h hu) (by omega)).mono fun e w' ⟨v, he, ho, hup⟩ => ⟨v, he, own_base ho hu.size, hup⟩
  have hsl := sort_len ps
  have hbs : BdL (Gx.sortU ps) := fun p hp => hb p (((Gx.sortU_ok ps).2 p).1 hp)
  have hF1 := @hullF_few ps
  have hF2 := (hullF_eq (ps := ps) rfl).2
  obtain ⟨s, hs⟩ : ∃ s, Gx.sortU ps = s := ⟨_, rfl⟩
  obtain ⟨F, hF⟩ : ∃ s, Gx.hullF ps = s := ⟨_, rfl⟩
  rw [hs] at PS hsl hbs hF1 hF2
  rw [hF] at hF1 hF2 ⊢
  have HPS := hide PS
  have HBS := hide hbs
  obtain ⟨N0, hN0⟩ : ∃ n, ps.length = n := ⟨_, rfl⟩
  rw [hN0] at HPS hsl hn ⊢
  clear PS h hb hs hF hbs hN0
  obtain ⟨m, hM⟩ : ∃ n, s.length = n := ⟨_, rfl⟩
  rw [hM] at HPS hsl hF1 hF2
  have HM := hide hM
  clear hM
  by_cases c : m < 2
  · obtain rfl : F = s := hF1 c
    have k1 : (m : Int) < 2 := by omega
    clear hF1 hF2
    go_enter Try.func36, Try.ntmps36
    go_wp2_with (go_at_call 69; (with_reducible refine (unhide HPS _ (by repeat' (first | (with_reducible exact up_refl _) | (with_reducible assumption) | (with_reducible refine up_alloc ?_ _) | (with_reducible refine up_drewN ?_ _) | (with_reducible refine up_drew ?_) | (with_reducible refine up_set ?_ (by first | (simp; done) | (simp; omega) | omega) _) | (refine up_trans ?_ (by with_reducible assumption))))).mono ?_); rintro e w1 ⟨v, rfl, hown, hb1⟩; obtain ⟨A1, c1, he, _⟩ := own_pts hown; rw [unhide HM] at he; have HO := hide hown; clear hown; subst he)
    exact bodyPost_ret (v := .slice A1 m c1) (by simp [results, Try.results36, go_sem]) rfl ⟨_, rfl, by rw [unhide HM]; exact unhide HO, (by repeat' (first | (with_reducible exact up_refl _) | (with_reducible assumption) | (with_reducible refine up_alloc ?_ _) | (with_reducible refine up_drewN ?_ _) | (with_reducible refine up_drew ?_) | (with_reducible refine up_set ?_ (by first | (simp; done) | (simp; omega) | omega) _) | (refine up_trans ?_ (by with_reducible assumption))))⟩
  · have HF := hide (hF2 (by omega))
    have k1 : ¬ (m : Int) < 2 := by omega
    have k2 : IntKind.i64.wrap ((m : Int) - 1) = (m : Int) - 1 := IntWalk.i64_in _ ⟨by omega, by omega⟩
    clear hF1 hF2
    have bl : BdL s.reverse := bdL_sub (unhide HBS) fun p hp => List.mem_reverse.1 hp
    have PA : ∀ (A1 : Option Addr) (c1 : Nat) (W : World), Pts W A1 s → Calls Try.prog 70 #[.slice A1 m c1] W fun e w' => ∃ v, e = .returned v ∧ w'.ownsRow W.heap.size 24 2 v (turnsL s).length (cellsPl (turnsL s)) ∧ Up W w' := fun A1 c1 W hp => by
      have q := r_side A1 s c1 W hp (by rw [unhide HM]; omega) (unhide HBS)
      rw [unhide HM] at q
      exact q
    have PB : ∀ (A1 : Option Addr) (c1 : Nat) (W : World), Pts W A1 s.reverse → Calls Try.prog 70 #[.slice A1 m c1] W fun e w' => ∃ v, e = .returned v ∧ w'.ownsRow W.heap.size 24 2 v (turnsL s.reverse).length (cellsPl (turnsL s.reverse)) ∧ Up W w' := fun A1 c1 W hp => by
      have q := r_side A1 s.reverse c1 W hp (by rw [List.length_reverse, unhide HM]; omega) bl
      rw [List.length_reverse, unhide HM] at q
      exact q
    have ha0 := turnsL_pos (ss := s) (by rw [unhide HM]; omega)
    have hb0 := turnsL_pos (ss := s.reverse) (by rw [List.length_reverse, unhide HM]; omega)
    have hal := turnsL_len s
    have hbl := turnsL_len s.reverse
    rw [List.length_reverse] at hbl
    rw [unhide HM] at hal hbl
    obtain ⟨a, ha⟩ : ∃ a, turnsL s = a := ⟨_, rfl⟩
    obtain ⟨b, hb⟩ : ∃ a, turnsL s.reverse = a := ⟨_, rfl⟩
    rw [ha] at PA ha0 hal HF
    rw [hb] at PB hb0 hbl HF
    obtain ⟨la, hla⟩ : ∃ n, a.length = n := ⟨_, rfl⟩
    obtain ⟨lb, hlb⟩ : ∃ n, b.length = n := ⟨_, rfl⟩
    rw [hla] at PA ha0 hal HF
    rw [hlb] at PB hb0 hbl HF
    have HPA := hide PA
    have HPB := hide PB
    have HLA := hide hla
    have HLB := hide hlb
    obtain ⟨i0', hi, hz0, hz1, hz2⟩ := info_parts info_pt
    have HI := hide hi
    clear PA PB ha hb hla hlb hi bl
    go_enter Try.func36, Try.ntmps36
    go_wp2_with (go_at_call 69; (with_reducible refine (unhide HPS _ (by repeat' (first | (with_reducible exact up_refl _) | (with_reducible assumption) | (with_reducible refine up_alloc ?_ _) | (with_reducible refine up_drewN ?_ _) | (with_reducible refine up_drew ?_) | (with_reducible refine up_set ?_ (by first | (simp; done) | (simp; omega) | omega) _) | (refine up_trans ?_ (by with_reducible assumption))))).mono ?_); rintro e w1 ⟨v, rfl, hown, hb1⟩; obtain ⟨g, cp, rfl, g1, g2, g3⟩ := own_some hown (by omega); have HO := hide hown; clear hown)
    have HC := hide (own_cells (unhide HO))
    go_loopw [4, 5] (fun s4 s5 wr => ∃ t : Nat, t ≤ m ∧ s5 = .int .i64 ((m : Int) - 1 - t) ∧ wr.ownsRow w1.heap.size 24 2 s4 t (cellsPl (bk s t)) ∧ Up w1 wr) (fun _ s5 _ => (intOf s5 + 1).toNat)
    case atStart => exact ⟨0, Nat.zero_le _, by go_num, World.ownsRow_nil _ _ _ _, up_refl _⟩
    case round =>
      obtain ⟨t, ht, rfl, hown, hu⟩ := hrel
      by_cases hlt : t < m
      · have lt : m - 1 - t < s.length := by rw [unhide HM]; omega
        obtain ⟨x0, x1⟩ := pts_g (unhide HC) lt
        have hsu := bk_succ (s := s) (t := t) (by rw [unhide HM]; exact hlt)
        rw [unhide HM] at hsu
        obtain ⟨X, hX⟩ : ∃ X, Gx.g s (m - 1 - t) = X := ⟨_, rfl⟩
        rw [hX] at x0 x1 hsu
        obtain ⟨x, y⟩ := X
        obtain ⟨J, hJ⟩ : ∃ J, m - 1 - t = J := ⟨_, rfl⟩
        rw [hJ] at x0 x1
        have eJ : (m : Int) - 1 - t = (J : Int) := by omega
        rw [eJ]
        have d0 := up_cell hu x0
        have d1 := up_cell hu x1
        rw [Nat.zero_add] at d0 d1
        have HSU := hide hsu
        have HO2 := hide hown
        have HU := hide hu
        have j1 : (J : Int) < (m : Int) := by omega
        have j2 : (0 : Int) ≤ (J : Int) := by omega
        have j3 : IntKind.i64.wrap ((J : Int) - 1) = (J : Int) - 1 := IntWalk.i64_in _ ⟨by omega, by omega⟩
        have HJ := hide (show (J : Int) - 1 = (m : Int) - 1 - ((t + 1 : Nat) : Int) by omega)
        have HJ2 := hide (show ((J : Int) - 1 + 1).toNat < ((J : Int) + 1).toNat by omega)
        clear x0 x1 hsu hown hu hX hJ lt eJ
        go_wp2_with (at_builtin; refine wpList_append_own _ rfl _ _ 22 rfl w1.heap.size 24 i0' _ 2 16 Try.underlying22 (unhide HI) hz0 hz1 hz2 rfl (by decide) _ t (cellsPl (bk s t)) rfl ((unhide HO2).alloc _) ⟨wr.heap.size, 0, none⟩ 1 1 [.int .i64 x, .int .i64 y] rfl rfl (two_new _ _ _ _) (by intro u hu; simp at hu; rcases hu with rfl | rfl <;> rfl) (by unfold maxLen; omega) (by omega) (by have := (unhide HU).size; simp; omega) ?_; intro v' w3 hown' hgrow _)
        have R1 : w3.ownsRow w1.heap.size 24 2 v' (t + 1) (cellsPl (bk s (t + 1))) := by rw [unhide HSU, cellsPl_snoc]; exact hown'
        have R2 : Up w1 w3 := own_grow ((unhide HO2).alloc _) (Nat.le_refl _) (up_alloc (unhide HU) _) hgrow
        first
          | exact ⟨⟨t + 1, by omega, by rw [unhide HJ], R1, R2⟩, by simp only [intOf]; exact unhide HJ2⟩
          | (go_roundw; (case rel => exact ⟨t + 1, by omega, by rw [unhide HJ], R1, R2⟩); (case measure => simp only [intOf]; exact unhide HJ2))
      · obtain rfl : t = m := by omega
        have j1 : ¬ (0 : Int) ≤ (t : Int) - 1 - (t : Int) := by omega
        have ba := bk_all s
        rw [unhide HM] at ba
        rw [ba] at hown
        obtain ⟨g', cp', rfl, e1, e2, e3⟩ := own_some hown (by omega)
        have HQ1 := hide (pts_up (own_p (unhide HO)) hu)
        have HQ2 := hide (own_p hown)
        have HU := hide (up_trans hb1 hu)
        clear ba hown hlt hu hb1
        go_upto_region 11 with (first
          | (go_at_call 70; (with_reducible refine (unhide HPA _ _ _ (unhide HQ1)).mono ?_); rintro e w7 ⟨v7, rfl, hown, hb7⟩; obtain ⟨ga, ka, rfl, a1, a2, a3⟩ := own_some hown ha0; have HOA := hide hown; clear hown)
          | (go_at_call 70; (with_reducible refine (unhide HPB _ _ _ (pts_up (unhide HQ2) hb7)).mono ?_); rintro e w9 ⟨v9, rfl, hown, hb9⟩; obtain ⟨gb, kb, rfl, b1, b2, b3⟩ := own_some hown hb0; have HOB := hide hown; clear hown))
        have P1 := own_p (own_up (unhide HOA) hb9)
        have P2 := own_p (unhide HOB)
        have FA : ∀ W : World, Up w9 W → ∀ i u, (cellsPl (a.take (la - 1)))[i]? = some u → W.cell? ((⟨ga, 0, none⟩ : Addr).add i) = some u := fun W h => pts_news (pts_take (pts_up P1 h) _)
        have FB : ∀ W : World, Up w9 W → ∀ i u, (cellsPl (b.take (lb - 1)))[i]? = some u → W.cell? ((⟨gb, 0, none⟩ : Addr).add i) = some u := fun W h => pts_news (pts_take (pts_up P2 h) _)
        have LA : (cellsPl (a.take (la - 1))).length = (la - 1) * 2 := by rw [cellsPl_length, List.length_take, unhide HLA]; omega
        have LB : (cellsPl (b.take (lb - 1))).length = (lb - 1) * 2 := by rw [cellsPl_length, List.length_take, unhide HLB]; omega
        have O1 := one_cells (a.take (la - 1))
        have O2 := one_cells (b.take (lb - 1))
        have FE : cellsPl F = ([] ++ cellsPl (a.take (la - 1))) ++ cellsPl (b.take (lb - 1)) := by rw [unhide HF, cellsPl_append, List.nil_append]
        have FL : F.length = 0 + (la - 1) + (lb - 1) := by rw [unhide HF, List.length_append, List.length_take, List.length_take, unhide HLA, unhide HLB]; omega
        have HFA := hide FA
        have HFB := hide FB
        have HL1 := hide LA
        have HL2 := hide LB
        have HO1 := hide O1
        have HO2 := hide O2
        have HFL := hide FL
        obtain ⟨TA, hTA⟩ : ∃ x, cellsPl (a.take (la - 1)) = x := ⟨_, rfl⟩
        obtain ⟨TB, hTB⟩ : ∃ x, cellsPl (b.take (lb - 1)) = x := ⟨_, rfl⟩
        rw [hTA] at HFA HL1 HO1 FE
        rw [hTB] at HFB HL2 HO2 FE
        have HFE := hide FE
        obtain ⟨qa, hqa⟩ : ∃ q, la - 1 = q := ⟨_, rfl⟩
        obtain ⟨qb, hqb⟩ : ∃ q, lb - 1 = q := ⟨_, rfl⟩
        rw [hqa] at HL1 HFL
        rw [hqb] at HL2 HFL
        have w1' : IntKind.i64.wrap ((la : Int) - 1) = (qa : Int) := by rw [IntWalk.i64_in _ ⟨by omega, by omega⟩]; omega
        have w2' : IntKind.i64.wrap ((lb : Int) - 1) = (qb : Int) := by rw [IntWalk.i64_in _ ⟨by omega, by omega⟩]; omega
        have o1 : (qa : Int) ≤ (ka : Int) := by omega
        have o2 : (qb : Int) ≤ (kb : Int) := by omega
        have o3 : qa ≤ 70000 := by omega
        have o4 : qb ≤ 70000 := by omega
        have HV := hide (up_trans (unhide HU) (up_trans hb7 hb9))
        clear P1 P2 FA FB LA LB O1 O2 FE FL hTA hTB hqa hqb HPA HPB HQ1 HQ2 hb7 hb9
        go_region_law (first
          | (refine step_append_mine _ rfl (.tmp 32) (.tmp 37) 22 rfl w9.heap.size 24 i0' _ 2 16 Try.underlying22 (unhide HI) hz0 hz1 hz2 rfl (Nat.zero_lt_succ _) _ 0 [] rfl (own_emptyD w9 24 w9.heap.size (Nat.le_refl _)) ⟨ga, 0, none⟩ qa ka TA rfl (unhide HL1) (unhide HFA _ (by repeat' (first | (with_reducible exact up_refl _) | (with_reducible assumption) | (with_reducible refine up_alloc ?_ _) | (with_reducible refine up_drewN ?_ _) | (with_reducible refine up_drew ?_) | (with_reducible refine up_set ?_ (by first | (simp; done) | (simp; omega) | omega) _) | (refine up_trans ?_ (by with_reducible assumption))))) (unhide HO1) (by unfold maxLen; omega) (by omega) (by first | (simp; done) | (simp; omega) | omega) ?_; intro v' w5 hown' hgrow; have hU5 : Up w9 w5 := own_grow (own_emptyD w9 24 w9.heap.size (Nat.le_refl _)) (Nat.le_refl _) (show Up w9 _ from (by repeat' (first | (with_reducible exact up_refl _) | (with_reducible assumption) | (with_reducible refine up_alloc ?_ _) | (with_reducible refine up_drewN ?_ _) | (with_reducible refine up_drew ?_) | (with_reducible refine up_set ?_ (by first | (simp; done) | (simp; omega) | omega) _) | (refine up_trans ?_ (by with_reducible assumption))))) hgrow)
          | (refine step_append_mine _ rfl (.tmp 38) (.tmp 43) 22 rfl w9.heap.size 24 i0' _ 2 16 Try.underlying22 (unhide HI) hz0 hz1 hz2 rfl (Nat.zero_lt_succ _) _ (0 + qa) ([] ++ TA) rfl hown' ⟨gb, 0, none⟩ qb kb TB rfl (unhide HL2) (unhide HFB _ hU5) (unhide HO2) (by unfold maxLen; omega) (by omega) hU5.size ?_; intro v'' w6 hown'' hgrow'; have hU6 : Up w9 w6 := own_grow hown' (Nat.le_refl _) hU5 hgrow'))
        all_goals
          have HR : Hid (w6.ownsRow w.heap.size 24 2 v'' F.length (cellsPl F)) := hide (by rw [unhide HFE, unhide HFL]; exact own_base hown'' (unhide HV).size)
          have HV7 := hide (up_trans (unhide HV) hU6)
          clear hown' hgrow hown'' hgrow' hU5 hU6
          go_wp2_with fail
          exact bodyPost_ret (by simp [results, Try.results36, go_sem]) rfl ⟨_, rfl, unhide HR, unhide HV7⟩
end Go.Proofs.Ytihckoenfklhpaa
namespace Go.Proofs.Ytihckoenfklhpaa
open Go.RowKit Go.Proofs.Gn
/-- The error of Hull. -/
def hulLE (ps : Pl) : Int := if ptsE ps = 0 then if ps.length = 0 then 5 else 0 else ptsE ps
theorem ptsE_zero {ps : Pl} (h : ptsE ps = 0) : ps.length ≤ 256 ∧ okL ps = true := by
  unfold ptsE at h
  split at h
  · rename_i c
    split at h
    · rename_i d; exact ⟨c, d⟩
    · cases h
  · cases h
/-- What a Hull returns. -/
def HullR (base : Nat) (ps : Pl) (e : Ending) (W : World) : Prop := (hulLE ps ≠ 0 ∧ e = .returned (.tuple #[.slice none 0 0, .int .i64 (hulLE ps)])) ∨ (hulLE ps = 0 ∧ ∃ v, e = .returned (.tuple #[v, .int .i64 0]) ∧ W.ownsRow base 24 2 v (Gx.hullF ps).length (cellsPl (Gx.hullF ps)))
theorem r_Hull (A : Option Addr) (ps : Pl) (cap : Nat) (w : World) (h : Pts w A ps) (hn : ps.length ≤ 70000) :
    Calls Try.prog 10 #[.slice A ps.length cap] w fun e w' => HullR w.heap.size ps e w' ∧ Up w w' := by
  have PP : ∀ W : World, Up w W → Calls Try.prog 35 #[.slice A ps.length cap] W fun e w' => e = .returned (.int .i64 (ptsE ps)) ∧ Up W w' := fun W hu => r_points A ps cap W (pts_up h hu) (by omega)
  have PC : okL ps = true → ∀ W : World, Up w W → Calls Try.prog 36 #[.slice A ps.length cap] W fun e w' => ∃ v, e = .returned v ∧ w'.ownsRow w.heap.size 24 2 v (Gx.hullF ps).length (cellsPl (Gx.hullF ps)) ∧ Up W w' := fun ho W hu =>
    (r_Corners A ps cap W (pts_up h hu) hn (okL_bdL ho)).mono fun e w' ⟨v, he, hown, hup⟩ => ⟨v, he, own_base hown hu.size, hup⟩
  by_cases c : ptsE ps = 0
  · by_cases c0 : ps.length = 0
    · have HE : hulLE ps = 5 := by unfold hulLE; rw [if_pos c, if_pos c0]
      rw [c] at PP
      rw [c0] at PP ⊢
      have HPP := hide PP
      have HEE := hide HE
      clear PP PC h HE
      go_enter Try.func10, Try.ntmps10
      go_wp2_with (go_at_call 35; (with_reducible refine (unhide HPP _ (by repeat' (first | (with_reducible exact up_refl _) | (with_reducible assumption) | (with_reducible refine up_alloc ?_ _) | (with_reducible refine up_drewN ?_ _) | (with_reducible refine up_drew ?_) | (with_reducible refine up_set ?_ (by first | (simp; done) | (simp; omega) | omega) _) | (refine up_trans ?_ (by with_reducible assumption))))).mono ?_); rintro e w1 ⟨rfl, hb1⟩)
      exact bodyPost_ret (v := .tuple #[.slice none 0 0, .int .i64 5]) (by simp [results, Try.results10, go_sem]) rfl ⟨.inl ⟨by rw [unhide HEE]; decide, by rw [unhide HEE]⟩, (by repeat' (first | (with_reducible exact up_refl _) | (with_reducible assumption) | (with_reducible refine up_alloc ?_ _) | (with_reducible refine up_drewN ?_ _) | (with_reducible refine up_drew ?_) | (with_reducible refine up_set ?_ (by first | (simp; done) | (simp; omega) | omega) _) | (refine up_trans ?_ (by with_reducible assumption))))⟩
    · have HE : hulLE ps = 0 := by unfold hulLE; rw [if_pos c, if_neg c0]
      have PC' := PC (ptsE_zero c).2
      rw [c] at PP
      have HPP := hide PP
      have HPC := hide PC'
      have HEE := hide HE
      have z1 : ((ps.length : Int) == 0) = false := beq_false_of_ne (by omega)
      obtain ⟨n, hN⟩ : ∃ n, ps.length = n := ⟨_, rfl⟩
      rw [hN] at HPP HPC z1 ⊢
      clear PP PC PC' h HE hN c0 hn
      go_enter Try.func10, Try.ntmps10
      go_wp2_with (first
        | (go_at_call 35; (with_reducible refine (unhide HPP _ (by repeat' (first | (with_reducible exact up_refl _) | (with_reducible assumption) | (with_reducible refine up_alloc ?_ _) | (with_reducible refine up_drewN ?_ _) | (with_reducible refine up_drew ?_) | (with_reducible refine up_set ?_ (by first | (simp; done) | (simp; omega) | omega) _) | (refine up_trans ?_ (by with_reducible assumption))))).mono ?_); rintro e w1 ⟨rfl, hb1⟩)
        | (go_at_call 36; (with_reducible refine (unhide HPC _ (by repeat' (first | (with_reducible exact up_refl _) | (with_reducible assumption) | (with_reducible refine up_alloc ?_ _) | (with_reducible refine up_drewN ?_ _) | (with_reducible refine up_drew ?_) | (with_reducible refine up_set ?_ (by first | (simp; done) | (simp; omega) | omega) _) | (refine up_trans ?_ (by with_reducible assumption))))).mono ?_); rintro e w2 ⟨v, rfl, hown, hb2⟩))
      exact bodyPost_ret (v := .tuple #[v, .int .i64 0]) (by simp [results, Try.results10, go_sem]) rfl ⟨.inr ⟨unhide HEE, v, rfl, hown⟩, (by repeat' (first | (with_reducible exact up_refl _) | (with_reducible assumption) | (with_reducible refine up_alloc ?_ _) | (with_reducible refine up_drewN ?_ _) | (with_reducible refine up_drew ?_) | (with_reducible refine up_set ?_ (by first | (simp; done) | (simp; omega) | omega) _) | (refine up_trans ?_ (by with_reducible assumption))))⟩
  · have HE : hulLE ps = ptsE ps := by unfold hulLE; rw [if_neg c]
    obtain ⟨z, hZ⟩ : ∃ z, ptsE ps = z := ⟨_, rfl⟩
    rw [hZ] at PP c HE
    have HPP := hide PP
    have HEE := hide HE
    have z1 : (z == 0) = false := beq_false_of_ne c
    clear PP PC h HE hZ
    go_enter Try.func10, Try.ntmps10
    go_wp2_with (go_at_call 35; (with_reducible refine (unhide HPP _ (by repeat' (first | (with_reducible exact up_refl _) | (with_reducible assumption) | (with_reducible refine up_alloc ?_ _) | (with_reducible refine up_drewN ?_ _) | (with_reducible refine up_drew ?_) | (with_reducible refine up_set ?_ (by first | (simp; done) | (simp; omega) | omega) _) | (refine up_trans ?_ (by with_reducible assumption))))).mono ?_); rintro e w1 ⟨rfl, hb1⟩)
    exact bodyPost_ret (v := .tuple #[.slice none 0 0, .int .i64 z]) (by simp [results, Try.results10, go_sem]) rfl ⟨.inl ⟨by rw [unhide HEE]; exact c, by rw [unhide HEE]⟩, (by repeat' (first | (with_reducible exact up_refl _) | (with_reducible assumption) | (with_reducible refine up_alloc ?_ _) | (with_reducible refine up_drewN ?_ _) | (with_reducible refine up_drew ?_) | (with_reducible refine up_set ?_ (by first | (simp; done) | (simp; omega) | omega) _) | (refine up_trans ?_ (by with_reducible assumption))))⟩
/-- Whether the reference takes it for a hull. -/
def isRB (ps : Pl) : Bool := decide (ptsE ps = 0) && (decide (0 < ps.length) && decide (Gx.hullF ps = ps))
theorem r_IsHull (A : Option Addr) (ps : Pl) (cap : Nat) (w : World) (h : Pts w A ps) (hn : ps.length ≤ 70000) :
    Calls Try.prog 13 #[.slice A ps.length cap] w fun e w' => e = .returned (.bool (isRB ps)) ∧ Up w w' := by
  have PP : ∀ W : World, Up w W → Calls Try.prog 35 #[.slice A ps.length cap] W fun e w' => e = .returned (.int .i64 (ptsE ps)) ∧ Up W w' := fun W hu => r_points A ps cap W (pts_up h hu) (by omega)
  have PC : okL ps = true → ∀ W : World, Up w W → Calls Try.prog 36 #[.slice A ps.length cap] W fun e w' => ∃ A1 c1, e = .returned (.slice A1 (Gx.hullF ps).length c1) ∧ Pts w' A1 (Gx.hullF ps) ∧ Up W w' := fun ho W hu =>
    (r_Corners A ps cap W (pts_up h hu) hn (okL_bdL ho)).mono fun e w' ⟨v, he, hown, hup⟩ => by
      obtain ⟨A1, c1, rfl, hp⟩ := own_pts hown
      exact ⟨A1, c1, he, hp, hup⟩
  have PS : ∀ (A1 : Option Addr) (c1 : Nat) (W : World), Up w W → Pts W A1 (Gx.hullF ps) → Calls Try.prog 11 #[.slice A1 (Gx.hullF ps).length c1, .slice A ps.length cap] W fun e w' => e = .returned (.bool (decide (Gx.hullF ps = ps))) ∧ Up W w' := fun A1 c1 W hu hp =>
    r_Same A1 A (Gx.hullF ps) ps c1 cap W hp (pts_up h hu) (by have := hullF_len ps; omega)
  unfold isRB
  by_cases c : ptsE ps = 0
  · rw [decide_eq_true c]
    by_cases c0 : ps.length = 0
    · rw [show decide (0 < ps.length) = false from decide_eq_false (by omega)]
      rw [c] at PP
      rw [c0] at PP ⊢
      have HPP := hide PP
      clear PP PC PS h
      go_enter Try.func13, Try.ntmps13
      go_wp2_with (go_at_call 35; (with_reducible refine (unhide HPP _ (by repeat' (first | (with_reducible exact up_refl _) | (with_reducible assumption) | (with_reducible refine up_alloc ?_ _) | (with_reducible refine up_drewN ?_ _) | (with_reducible refine up_drew ?_) | (with_reducible refine up_set ?_ (by first | (simp; done) | (simp; omega) | omega) _) | (refine up_trans ?_ (by with_reducible assumption))))).mono ?_); rintro e w1 ⟨rfl, hb1⟩)
      go_ret
      exact ⟨rfl, (by repeat' (first | (with_reducible exact up_refl _) | (with_reducible assumption) | (with_reducible refine up_alloc ?_ _) | (with_reducible refine up_drewN ?_ _) | (with_reducible refine up_drew ?_) | (with_reducible refine up_set ?_ (by first | (simp; done) | (simp; omega) | omega) _) | (refine up_trans ?_ (by with_reducible assumption))))⟩
    · rw [show decide (0 < ps.length) = true from decide_eq_true (by omega)]
      have PC' := PC (ptsE_zero c).2
      rw [c] at PP
      have z1 : (0 : Int) < (ps.length : Int) := by omega
      have z2 : decide ((0 : Int) < (ps.length : Int)) = true := decide_eq_true z1
      obtain ⟨F, hF⟩ : ∃ F, Gx.hullF ps = F := ⟨_, rfl⟩
      rw [hF] at PS PC' ⊢
      obtain ⟨R, hR⟩ : ∃ R, decide (F = ps) = R := ⟨_, rfl⟩
      rw [hR] at PS ⊢
      have HPP := hide PP
      have HPC := hide PC'
      have HPS := hide PS
      obtain ⟨n, hN⟩ : ∃ n, ps.length = n := ⟨_, rfl⟩
      obtain ⟨m, hM⟩ : ∃ n, F.length = n := ⟨_, rfl⟩
      rw [hN] at HPP HPC HPS z1 z2 ⊢
      rw [hM] at HPC HPS
      clear PP PC PC' PS h hN hM hF hR c0 hn
      go_enter Try.func13, Try.ntmps13
      go_wp2_with (first
        | (go_at_call 35; (with_reducible refine (unhide HPP _ (by repeat' (first | (with_reducible exact up_refl _) | (with_reducible assumption) | (with_reducible refine up_alloc ?_ _) | (with_reducible refine up_drewN ?_ _) | (with_reducible refine up_drew ?_) | (with_reducible refine up_set ?_ (by first | (simp; done) | (simp; omega) | omega) _) | (refine up_trans ?_ (by with_reducible assumption))))).mono ?_); rintro e w1 ⟨rfl, hb1⟩)
        | (go_at_call 36; (with_reducible refine (unhide HPC _ (by repeat' (first | (with_reducible exact up_refl _) | (with_reducible assumption) | (with_reducible refine up_alloc ?_ _) | (with_reducible refine up_drewN ?_ _) | (with_reducible refine up_drew ?_) | (with_reducible refine up_set ?_ (by first | (simp; done) | (simp; omega) | omega) _) | (refine up_trans ?_ (by with_reducible assumption))))).mono ?_); rintro e w2 ⟨A1, c1, rfl, hp, hb2⟩; have HP := hide hp; clear hp)
        | (go_at_call 11; (with_reducible refine (unhide HPS _ _ _ (by repeat' (first | (with_reducible exact up_refl _) | (with_reducible assumption) | (with_reducible refine up_alloc ?_ _) | (with_reducible refine up_drewN ?_ _) | (with_reducible refine up_drew ?_) | (with_reducible refine up_set ?_ (by first | (simp; done) | (simp; omega) | omega) _) | (refine up_trans ?_ (by with_reducible assumption)))) (unhide HP)).mono ?_); rintro e w3 ⟨rfl, hb3⟩))
      go_ret
      exact ⟨rfl, (by repeat' (first | (with_reducible exact up_refl _) | (with_reducible assumption) | (with_reducible refine up_alloc ?_ _) | (with_reducible refine up_drewN ?_ _) | (with_reducible refine up_drew ?_) | (with_reducible refine up_set ?_ (by first | (simp; done) | (simp; omega) | omega) _) | (refine up_trans ?_ (by with_reducible assumption))))⟩
  · rw [decide_eq_false c]
    obtain ⟨z, hZ⟩ : ∃ z, ptsE ps = z := ⟨_, rfl⟩
    rw [hZ] at PP c
    have HPP := hide PP
    have z1 : (z == 0) = false := beq_false_of_ne c
    clear PP PC PS h hZ
    go_enter Try.func13, Try.ntmps13
    go_wp2_with (go_at_call 35; (with_reducible refine (unhide HPP _ (by repeat' (first | (with_reducible exact up_refl _) | (with_reducible assumption) | (with_reducible refine up_alloc ?_ _) | (with_reducible refine up_drewN ?_ _) | (with_reducible refine up_drew ?_) | (with_reducible refine up_set ?_ (by first | (simp; done) | (simp; omega) | omega) _) | (refine up_trans ?_ (by with_reducible assumption))))).mono ?_); rintro e w1 ⟨rfl, hb1⟩)
    go_ret
    exact ⟨rfl, (by repeat' (first | (with_reducible exact up_refl _) | (with_reducible assumption) | (with_reducible refine up_alloc ?_ _) | (with_reducible refine up_drewN ?_ _) | (with_reducible refine up_drew ?_) | (with_reducible refine up_set ?_ (by first | (simp; done) | (simp; omega) | omega) _) | (refine up_trans ?_ (by with_reducible assumption))))⟩
set_option maxRecDepth 100000 in
set_option maxHeartbeats 40000000 in
theorem r_Has (b off : Nat) (ps : Pl) (cap : Nat) (x y : Int) (w : World) (h : Pts w (some ⟨b, off, none⟩) ps) (hn : ps.length ≤ 60000) (hb : BdL ps) (bx : Bd x) (b_y : Bd y) :
    Calls Try.prog 42 #[.slice (some ⟨b, off, none⟩) ps.length cap, pt x y] w fun e w' => e = .returned (.bool (decide (Gx.hullF (ps ++ [(x, y)]) = ps))) ∧ Up w w' := by
  have hlen : (ps ++ [(x, y)]).length = ps.length + 1 := by simp
  have hbd : BdL (ps ++ [(x, y)]) := fun p hp => by
    rcases List.mem_append.1 hp with q | q
    · exact hb p q
    · rw [List.mem_singleton.1 q]; exact ⟨bx, b_y⟩
  have PC : ∀ (B n : Nat) (v : Value) (W : World), W.ownsRow B 24 2 v n (([] ++ cellsPl ps) ++ [.int .i64 x, .int .i64 y]) → Calls Try.prog 36 #[v] W fun e w' => ∃ A1 c1, e = .returned (.slice A1 (Gx.hullF (ps ++ [(x, y)])).length c1) ∧ Pts w' A1 (Gx.hullF (ps ++ [(x, y)])) ∧ Up W w' := fun B n v W ho => by
    rw [List.nil_append, ← cellsPl_snoc] at ho
    obtain ⟨A0, c0, rfl, hp⟩ := own_pts ho
    exact (r_Corners A0 _ c0 W hp (by rw [hlen]; omega) hbd).mono fun e w' ⟨v, he, hown, hup⟩ => by
      obtain ⟨A1, c1, rfl, hp⟩ := own_pts hown
      exact ⟨A1, c1, he, hp, hup⟩
  have hfl := hullF_len (ps ++ [(x, y)])
  obtain ⟨F, hF⟩ : ∃ F, Gx.hullF (ps ++ [(x, y)]) = F := ⟨_, rfl⟩
  rw [hF] at PC hfl ⊢
  obtain ⟨wc, hwc⟩ : ∃ wc, wc = w.alloc (.cells #[.int .i64 x, .int .i64 y] 24) := ⟨_, rfl⟩
  have hU : Up w wc := by rw [hwc]; exact up_alloc (up_refl _) _
  have PS : ∀ (A1 : Option Addr) (c1 : Nat) (W : World), Pts W A1 F → Up wc W → Calls Try.prog 11 #[.slice A1 F.length c1, .slice (some ⟨b, off, none⟩) ps.length cap] W fun e w' => e = .returned (.bool (decide (F = ps))) ∧ Up W w' := fun A1 c1 W hp hu =>
    r_Same A1 _ F ps c1 cap W hp (pts_up h (up_trans hU hu)) (by omega)
  obtain ⟨R, hR⟩ : ∃ R, decide (F = ps) = R := ⟨_, rfl⟩
  rw [hR] at PS ⊢
  have BN := bx_new w [.int .i64 x, .int .i64 y] 24
  have y2 : wc.cell? ⟨w.heap.size, 0, none⟩ = some (.int .i64 x) := by rw [hwc]; exact (bx2 BN).1
  have y3 : wc.cell? ⟨w.heap.size, 1, none⟩ = some (.int .i64 y) := by rw [hwc]; exact (bx2 BN).2
  have S2 := pts_up h hU
  have FT : ∀ W : World, Up wc W → ∀ i u, (cellsPl ps)[i]? = some u → W.cell? ((⟨b, off, none⟩ : Addr).add i) = some u := fun W hu => pts_news (pts_up S2 hu)
  have LT : (cellsPl ps).length = ps.length * 2 := cellsPl_length ps
  have O1 := one_cells ps
  have HFT := hide FT
  have HO1 := hide O1
  have HLT := hide LT
  have HPC := hide PC
  have HPS := hide PS
  obtain ⟨TK, hTK⟩ : ∃ x, cellsPl ps = x := ⟨_, rfl⟩
  rw [hTK] at HFT HO1 HLT HPC
  obtain ⟨n, hN⟩ : ∃ n, ps.length = n := ⟨_, rfl⟩
  obtain ⟨m, hM⟩ : ∃ n, F.length = n := ⟨_, rfl⟩
  rw [hN] at HLT HPS hn ⊢
  rw [hM] at HPC HPS
  have b2 := fun o => alloc_cell o y2
  have b3 := fun o => alloc_cell o y3
  obtain ⟨i0', hi, hz0, hz1, hz2⟩ := info_parts info_pt
  have HI := hide hi
  clear hlen hbd PC hfl hF PS hR BN S2 FT LT O1 hTK hN hM hi h hb bx b_y
  go_enter Try.func42, Try.ntmps42
  go_upto_region 1 with fail
  rw [← hwc]
  clear hwc
  go_region_law (first
    | (refine step_append_mine _ rfl (.tmp 5) (.tmp 6) 22 rfl wc.heap.size 24 i0' _ 2 16 Try.underlying22 (unhide HI) hz0 hz1 hz2 rfl (Nat.zero_lt_succ _) _ 0 [] rfl (own_emptyD wc 24 wc.heap.size (Nat.le_refl _)) ⟨b, off, none⟩ n cap TK rfl (unhide HLT) (unhide HFT _ (by repeat' (first | (with_reducible exact up_refl _) | (with_reducible assumption) | (with_reducible refine up_alloc ?_ _) | (with_reducible refine up_drewN ?_ _) | (with_reducible refine up_drew ?_) | (with_reducible refine up_set ?_ (by first | (simp; done) | (simp; omega) | omega) _) | (refine up_trans ?_ (by with_reducible assumption))))) (unhide HO1) (by unfold maxLen; omega) (by omega) (by first | (simp; done) | (simp; omega) | omega) ?_; intro v' w5 hown' hgrow; have hU5 : Up wc w5 := own_grow (own_emptyD wc 24 wc.heap.size (Nat.le_refl _)) (Nat.le_refl _) (show Up wc _ from (by repeat' (first | (with_reducible exact up_refl _) | (with_reducible assumption) | (with_reducible refine up_alloc ?_ _) | (with_reducible refine up_drewN ?_ _) | (with_reducible refine up_drew ?_) | (with_reducible refine up_set ?_ (by first | (simp; done) | (simp; omega) | omega) _) | (refine up_trans ?_ (by with_reducible assumption))))) hgrow; have a2 := up_cell hU5 y2; have a3 := up_cell hU5 y3)
    | (refine step_append_mine _ rfl (.tmp 5) (.tmp 6) 22 rfl wc.heap.size 24 i0' _ 2 16 Try.underlying22 (unhide HI) hz0 hz1 hz2 rfl (Nat.zero_lt_succ _) _ 0 [] rfl ((own_emptyD wc 24 wc.heap.size (Nat.le_refl _)).alloc (.cells #[.int .i64 x, .int .i64 y] 24)) ⟨b, off, none⟩ n cap TK rfl (unhide HLT) (unhide HFT _ (by repeat' (first | (with_reducible exact up_refl _) | (with_reducible assumption) | (with_reducible refine up_alloc ?_ _) | (with_reducible refine up_drewN ?_ _) | (with_reducible refine up_drew ?_) | (with_reducible refine up_set ?_ (by first | (simp; done) | (simp; omega) | omega) _) | (refine up_trans ?_ (by with_reducible assumption))))) (unhide HO1) (by unfold maxLen; omega) (by omega) (by first | (simp; done) | (simp; omega) | omega) ?_; intro v' w5 hown' hgrow; have hU5 : Up wc w5 := own_grow ((own_emptyD wc 24 wc.heap.size (Nat.le_refl _)).alloc (.cells #[.int .i64 x, .int .i64 y] 24)) (Nat.le_refl _) (show Up wc _ from (by repeat' (first | (with_reducible exact up_refl _) | (with_reducible assumption) | (with_reducible refine up_alloc ?_ _) | (with_reducible refine up_drewN ?_ _) | (with_reducible refine up_drew ?_) | (with_reducible refine up_set ?_ (by first | (simp; done) | (simp; omega) | omega) _) | (refine up_trans ?_ (by with_reducible assumption))))) hgrow; have a2 := up_cell hU5 y2; have a3 := up_cell hU5 y3)
    | (refine step_append_mine _ rfl (.tmp 5) (.tmp 6) 22 rfl wc.heap.size 24 i0' _ 2 16 Try.underlying22 (unhide HI) hz0 hz1 hz2 rfl (Nat.zero_lt_succ _) _ 0 [] rfl (own_empty2D wc (.cells #[.int .i64 x, .int .i64 y] 24) 24 wc.heap.size (Nat.le_refl _)) ⟨b, off, none⟩ n cap TK rfl (unhide HLT) (unhide HFT _ (by repeat' (first | (with_reducible exact up_refl _) | (with_reducible assumption) | (with_reducible refine up_alloc ?_ _) | (with_reducible refine up_drewN ?_ _) | (with_reducible refine up_drew ?_) | (with_reducible refine up_set ?_ (by first | (simp; done) | (simp; omega) | omega) _) | (refine up_trans ?_ (by with_reducible assumption))))) (unhide HO1) (by unfold maxLen; omega) (by omega) (by first | (simp; done) | (simp; omega) | omega) ?_; intro v' w5 hown' hgrow; have hU5 : Up wc w5 := own_grow (own_empty2D wc (.cells #[.int .i64 x, .int .i64 y] 24) 24 wc.heap.size (Nat.le_refl _)) (Nat.le_refl _) (show Up wc _ from (by repeat' (first | (with_reducible exact up_refl _) | (with_reducible assumption) | (with_reducible refine up_alloc ?_ _) | (with_reducible refine up_drewN ?_ _) | (with_reducible refine up_drew ?_) | (with_reducible refine up_set ?_ (by first | (simp; done) | (simp; omega) | omega) _) | (refine up_trans ?_ (by with_reducible assumption))))) hgrow; have a2 := up_cell hU5 y2; have a3 := up_cell hU5 y3)
    | (refine step_append_mine _ rfl (.tmp 7) (.tmp 9) 22 rfl wc.heap.size 24 i0' _ 2 16 Try.underlying22 (unhide HI) hz0 hz1 hz2 rfl (Nat.zero_lt_succ _) _ (0 + n) ([] ++ TK) rfl (hown'.alloc _) _ 1 1 [.int .i64 x, .int .i64 y] rfl rfl (two_new _ _ _ _) (by intro u hu; simp at hu; rcases hu with rfl | rfl <;> rfl) (by unfold maxLen; omega) (by omega) (by first | exact hU5.size | exact Nat.le_trans hU5.size (by simp)) ?_; intro v'' w6 hown'' hgrow'; have hU6 : Up wc w6 := own_grow (hown'.alloc _) (Nat.le_refl _) (show Up wc _ from (by repeat' (first | (with_reducible exact up_refl _) | (with_reducible assumption) | (with_reducible refine up_alloc ?_ _) | (with_reducible refine up_drewN ?_ _) | (with_reducible refine up_drew ?_) | (with_reducible refine up_set ?_ (by first | (simp; done) | (simp; omega) | omega) _) | (refine up_trans ?_ (by with_reducible assumption))))) hgrow')
    | (refine step_append_mine _ rfl (.tmp 7) (.tmp 9) 22 rfl wc.heap.size 24 i0' _ 2 16 Try.underlying22 (unhide HI) hz0 hz1 hz2 rfl (Nat.zero_lt_succ _) _ (0 + n) ([] ++ TK) rfl hown' _ 1 1 [.int .i64 x, .int .i64 y] rfl rfl (two_grown hgrow (two_new2 wc (.cells #[] 24) (.int .i64 x) (.int .i64 y) 24) (by intro e; have q : wc.heap.size + 1 = wc.heap.size := Option.some.inj e; omega)) (by intro u hu; simp at hu; rcases hu with rfl | rfl <;> rfl) (by unfold maxLen; omega) (by omega) (by first | exact hU5.size | exact Nat.le_trans hU5.size (by simp)) ?_; intro v'' w6 hown'' hgrow'; have hU6 : Up wc w6 := own_grow hown' (Nat.le_refl _) (show Up wc _ from (by repeat' (first | (with_reducible exact up_refl _) | (with_reducible assumption) | (with_reducible refine up_alloc ?_ _) | (with_reducible refine up_drewN ?_ _) | (with_reducible refine up_drew ?_) | (with_reducible refine up_set ?_ (by first | (simp; done) | (simp; omega) | omega) _) | (refine up_trans ?_ (by with_reducible assumption))))) hgrow')
    | (refine step_append_mine _ rfl (.tmp 7) (.tmp 9) 22 rfl wc.heap.size 24 i0' _ 2 16 Try.underlying22 (unhide HI) hz0 hz1 hz2 rfl (Nat.zero_lt_succ _) _ (0 + n) ([] ++ TK) rfl hown' _ 1 1 [.int .i64 x, .int .i64 y] rfl rfl (two_grown hgrow (two_alloc (two_new wc (.int .i64 x) (.int .i64 y) 24) (.cells #[] 24)) (by intro e; have q : wc.heap.size = wc.heap.size + 1 := Option.some.inj e; omega)) (by intro u hu; simp at hu; rcases hu with rfl | rfl <;> rfl) (by unfold maxLen; omega) (by omega) (by first | exact hU5.size | exact Nat.le_trans hU5.size (by simp)) ?_; intro v'' w6 hown'' hgrow'; have hU6 : Up wc w6 := own_grow hown' (Nat.le_refl _) (show Up wc _ from (by repeat' (first | (with_reducible exact up_refl _) | (with_reducible assumption) | (with_reducible refine up_alloc ?_ _) | (with_reducible refine up_drewN ?_ _) | (with_reducible refine up_drew ?_) | (with_reducible refine up_set ?_ (by first | (simp; done) | (simp; omega) | omega) _) | (refine up_trans ?_ (by with_reducible assumption))))) hgrow')
    | (go_simp; go_at_call 36; refine (unhide HPC _ _ _ _ hown'').mono ?_; rintro e w7 ⟨A1, c1, rfl, hp7, hb7⟩; have HP7 := hide hp7; clear hp7; dsimp only)
    | (go_simp; go_at_call 11; refine (unhide HPS _ _ _ (unhide HP7) (up_trans hU6 hb7)).mono ?_; rintro e w8 ⟨rfl, hb8⟩; dsimp only))
  all_goals
    have HV := hide (up_trans hU (up_trans hU6 (up_trans hb7 hb8)))
    clear hown' hgrow hown'' hgrow' hU5 hU6 hb7 hb8 a2 a3 b2 b3 y2 y3
    go_wp2_with fail
    go_ret
    exact ⟨rfl, unhide HV⟩
end Go.Proofs.Ytihckoenfklhpaa
