/- The order of the supports: what the document's order returns. -/
import Derived.Test.YtepblnnebeglbaaAppO
import Derived.Test.YtepblnnebeglbaaInOrd
import Derived.Test.YtepblnnebeglbaaUpQ
import Derived.BigRegion
namespace Go.Proofs.Ytepblnnebeglbaa
open Go.RowKit Go.Proofs.Gn
theorem one_cellsI (l : List Int) : ∀ u ∈ cellsI l, u.oneCell' = true := by
  intro u hu
  unfold cellsI at hu
  obtain ⟨x, _, rfl⟩ := List.mem_map.1 hu
  rfl
theorem cells_insO (s : List Nat) (j k : Nat) : (([] ++ cellsI (ixs (s.take j))) ++ [.int .i64 (k : Int)]) ++ cellsI (ixs (s.drop j)) = cellsI (ixs (s.take j ++ k :: s.drop j)) := by simp [cellsI, ixs]
theorem ixs_news {W : World} {g c m B e : Nat} {s : List Nat} (h : W.ownsRow B e 1 (.slice (some ⟨g, 0, none⟩) m c) m (cellsI (ixs s))) : ∀ i (h : i < s.length), W.cell? ⟨g, i, none⟩ = some (.int .i64 (s[i] : Int)) := by
  intro i hi
  have hl : (cellsI (ixs s)).length = m * 1 := h.1
  rw [cellsI_length, ixs_len] at hl
  rw [h.cellAt i (by omega)]
  simp [cellsI, ixs, hi]
theorem add_plainO (g o i : Nat) : (⟨g, o, none⟩ : Addr).add i = ⟨g, o + i, none⟩ := Go.WideShapes.add_plain _ _ _
theorem take_news {W : World} {g : Nat} {s : List Nat} (h : ∀ i (h : i < s.length), W.cell? ⟨g, i, none⟩ = some (.int .i64 (s[i] : Int))) (j : Nat) : ∀ i u, (cellsI (ixs (s.take j)))[i]? = some u → W.cell? ((⟨g, 0, none⟩ : Addr).add i) = some u := by
  intro i u hu
  have hi : i < (cellsI (ixs (s.take j))).length := (List.getElem?_eq_some_iff.1 hu).1
  rw [cellsI_length, ixs_len, List.length_take] at hi
  have h1 : i < j := by omega
  have h2 : i < s.length := by omega
  rw [add_plainO, Nat.zero_add, h i h2, ← hu]
  simp [cellsI, ixs, h1, h2]
theorem drop_news {W : World} {g : Nat} {s : List Nat} (h : ∀ i (h : i < s.length), W.cell? ⟨g, i, none⟩ = some (.int .i64 (s[i] : Int))) (j : Nat) : ∀ i u, (cellsI (ixs (s.drop j)))[i]? = some u → W.cell? ((⟨g, j, none⟩ : Addr).add i) = some u := by
  intro i u hu
  have hi : i < (cellsI (ixs (s.drop j))).length := (List.getElem?_eq_some_iff.1 hu).1
  rw [cellsI_length, ixs_len, List.length_drop] at hi
  rw [add_plainO, h (j + i) (by omega), ← hu]
  simp [cellsI, ixs, show j + i < s.length by omega]
theorem ordB_yes {ps : List Gs.Sup} {k q : Nat} (h : xA ps k < xA ps q ∨ (xA ps k = xA ps q ∧ yA ps k < yA ps q)) : ltS ps k q := by unfold ltS; omega
theorem ordB_no {ps : List Gs.Sup} {k q : Nat} (hq : q < k) (h : ¬ (xA ps k < xA ps q ∨ (xA ps k = xA ps q ∧ yA ps k < yA ps q))) : ltS ps q k := by unfold ltS; omega
theorem dec_exO (p : Prop) : ∃ T : Bool, T = true ↔ p := by
  classical
  by_cases h : p
  · exact ⟨true, fun _ => h, fun _ => rfl⟩
  · exact ⟨false, fun x => (by cases x), fun x => absurd x h⟩
theorem xA_at {ps : List Gs.Sup} {i : Nat} (h : i < ps.length) : xA ps i = ps[i].x := by unfold xA; rw [List.getElem?_eq_getElem h]; rfl
theorem own_someO2 {W : World} {base e n : Nat} {v : Value} {xs : List Value} (h : W.ownsRow base e 1 v n xs) (h0 : 0 < n) : ∃ g c, v = .slice (some ⟨g, 0, none⟩) n c ∧ base ≤ g ∧ n ≤ c ∧ c ≤ 9223372036854775807 := by
  rcases h.2 with ⟨_, h1⟩ | ⟨g, c, cur, h1, hb, _, h2, h3, _⟩
  · have hl : xs.length = n * 1 := h.1
    rw [h1] at hl; simp at hl; omega
  · exact ⟨g, c, h1, hb, h2, by simp [maxLen] at h3; omega⟩
theorem own_insO {W : World} {B B' e k j : Nat} {v : Value} {l : List Nat} {X : List Value} (hj : j ≤ k) (hB : B ≤ B') (h : W.ownsRow B' e 1 v (0 + j + 1 + (k - j)) X) (hX : X = cellsI (ixs (l.take j ++ k :: l.drop j))) :
    W.ownsRow B e 1 v (k + 1) (cellsI (ixs (l.take j ++ k :: l.drop j))) := by
  subst hX
  have e1 : k + 1 = 0 + j + 1 + (k - j) := by omega
  rw [e1]
  exact own_baseO h hB
set_option maxRecDepth 100000 in
set_option maxHeartbeats 40000000 in
theorem r_order (b off cap : Nat) (ps : List Gs.Sup) (w : World) (hc : SupsO w b off ps) (hn : ps.length ≤ 48) :
    Calls Try.prog 25 #[.slice (some ⟨b, off, none⟩) ps.length cap] w fun e w' => ∃ (v : Value) (l : List Nat), e = .returned v ∧ l.Perm (List.range ps.length) ∧ l.Pairwise (ltS ps) ∧ w'.ownsRow w.heap.size 3 1 v ps.length (cellsI (ixs l)) ∧ Up w w' := by
  have HC := hide hc
  clear hc
  obtain ⟨i0', hi, hz0, hz1, hz2⟩ := info_parts info_intD
  have HI := hide hi
  clear hi
  obtain ⟨n, hN⟩ : ∃ n, ps.length = n := ⟨_, rfl⟩
  have HN := hide hN
  rw [hN] at hn ⊢
  clear hN
  go_enter Try.func25, Try.ntmps25
  go_wp2_with fail
  go_loopw [3, 4] (fun out i wr => ∃ (k : Nat) (l : List Nat), k ≤ n ∧ i = .int .i64 k ∧ l.Perm (List.range k) ∧ l.Pairwise (ltS ps) ∧ wr.ownsRow w.heap.size 3 1 out k (cellsI (ixs l)) ∧ Up w wr ∧ Hid (k = 0 → out = .slice none 0 0)) (fun _ i _ => n - (intOf i).toNat)
  case atStart => exact ⟨0, [], Nat.zero_le _, rfl, .refl _, .nil, World.ownsRow_nil _ _ _ _, up_refl _, hide (fun _ => rfl)⟩
  case round =>
    obtain ⟨wo, rfl⟩ : ∃ wo, wo = wr := ⟨_, rfl⟩
    obtain ⟨k, l, hk, rfl, hp, hs, hown, hu, HNIL⟩ := hrel
    have hwk : IntKind.i64.wrap ((k : Int) + 1) = (k : Int) + 1 := IntWalk.i64_in _ ⟨by omega, by omega⟩
    by_cases hlt : k < n
    · have h1' : (k : Int) < (n : Int) := by omega
      have i0 : (0 : Int) ≤ (k : Int) := by omega
      have hl : k < ps.length := by rw [unhide HN]; exact hlt
      have hll : l.length = k := by have := hp.length_eq; rwa [List.length_range] at this
      have HP := hide hp
      have HS := hide hs
      have HO := hide hown
      have HU := hide hu
      have HLL := hide hll
      rcases Nat.eq_zero_or_pos k with m0 | m0
      · subst m0
        obtain rfl := unhide HNIL rfl
        obtain rfl : l = [] := List.eq_nil_of_length_eq_zero hll
        clear HNIL hp hs hown hu hll
        go_wp2_with fail
        go_loopw [5] (fun s5 wx => s5 = .int .i64 0 ∧ Up wo wx) (fun _ _ => 0)
        case atStart => exact ⟨rfl, up_refl _⟩
        case round =>
          obtain ⟨wx, rfl⟩ : ∃ wx, wx = wr := ⟨_, rfl⟩
          obtain ⟨rfl, hv⟩ := hrel
          go_upto_region 6 with fail
          go_cut [66] (fun s wy => s = .bool false ∧ Up wx wy)
          case first => as_aux_lemma =>
            refine wp_upq (by kernel_rfl) (by kernel_rfl) ?_; (repeat (go_big_quiet_step (fail))); refine wpQuiet_nil ?_; intro _ hw'; obtain ⟨pq, hw''⟩ := hw'; subst hw''; have hpq := pq.up
            go_wp2_with fail
            go_meet
            exact ⟨rfl, hpq⟩
          case rest =>
          obtain ⟨rfl, hy⟩ := hcut
          have hv2 : Up wo wc := up_trans hv hy
          clear hv hy
          go_upto_region 8 with fail
          go_region_law (first
            | (refine step_append_emptyO rfl (.tmp 69) (.tmp 72) 26 rfl 3 i0' Try.underlying26 (unhide HI) _ 0 0 rfl rfl (Nat.le_refl _) ?_)
            | (refine step_append_mineO _ rfl (.tmp 73) (.tmp 75) 26 rfl wc.heap.size 3 i0' _ 1 8 Try.underlying26 (unhide HI) hz0 hz1 hz2 rfl (Nat.zero_lt_succ _) _ 0 [] rfl (own_emptyOD wc 3 wc.heap.size (Nat.le_refl _)) _ 1 1 [.int .i64 0] rfl rfl (one_newI _ _ _) (by intro u hu; simp at hu; rcases hu with rfl; rfl) (by unfold maxLen; omega) (by omega) (by first | (simp; done) | (simp; omega) | omega) ?_; intro v'' w6 hown'' hgrow'; have hU6 : Up wc w6 := own_growO (own_emptyOD wc 3 wc.heap.size (Nat.le_refl _)) (Nat.le_refl _) (show Up wc _ from (by repeat' (first | (with_reducible exact up_refl _) | (with_reducible assumption) | (with_reducible refine up_alloc ?_ _) | (with_reducible refine up_drewN ?_ _) | (with_reducible refine up_drew ?_) | (with_reducible refine up_set ?_ (by first | (simp; done) | (simp; omega) | omega) _) | (refine up_trans ?_ (by with_reducible assumption))))) hgrow'; obtain ⟨gg, cc, rfl, q1, q2, q3⟩ := own_someO2 hown'' (by omega))
            | (refine step_append_mineO _ rfl (.tmp 73) (.tmp 75) 26 rfl wc.heap.size 3 i0' _ 1 8 Try.underlying26 (unhide HI) hz0 hz1 hz2 rfl (Nat.zero_lt_succ _) _ 0 [] rfl ((own_emptyOD wc 3 wc.heap.size (Nat.le_refl _)).alloc (.cells #[.int .i64 0] 3)) _ 1 1 [.int .i64 0] rfl rfl (one_new2O wc (.cells #[] 3) (.int .i64 0) 3) (by intro u hu; simp at hu; rcases hu with rfl; rfl) (by unfold maxLen; omega) (by omega) (by first | (simp; done) | (simp; omega) | omega) ?_; intro v'' w6 hown'' hgrow'; have hU6 : Up wc w6 := own_growO ((own_emptyOD wc 3 wc.heap.size (Nat.le_refl _)).alloc (.cells #[.int .i64 0] 3)) (Nat.le_refl _) (show Up wc _ from (by repeat' (first | (with_reducible exact up_refl _) | (with_reducible assumption) | (with_reducible refine up_alloc ?_ _) | (with_reducible refine up_drewN ?_ _) | (with_reducible refine up_drew ?_) | (with_reducible refine up_set ?_ (by first | (simp; done) | (simp; omega) | omega) _) | (refine up_trans ?_ (by with_reducible assumption))))) hgrow'; obtain ⟨gg, cc, rfl, q1, q2, q3⟩ := own_someO2 hown'' (by omega))
            | (refine step_append_mineO _ rfl (.tmp 73) (.tmp 75) 26 rfl wc.heap.size 3 i0' _ 1 8 Try.underlying26 (unhide HI) hz0 hz1 hz2 rfl (Nat.zero_lt_succ _) _ 0 [] rfl (own_empty2OD wc (.cells #[.int .i64 0] 3) 3 wc.heap.size (Nat.le_refl _)) _ 1 1 [.int .i64 0] rfl rfl (one_allocO (one_newI wc (.int .i64 0) 3) (.cells #[] 3)) (by intro u hu; simp at hu; rcases hu with rfl; rfl) (by unfold maxLen; omega) (by omega) (by first | (simp; done) | (simp; omega) | omega) ?_; intro v'' w6 hown'' hgrow'; have hU6 : Up wc w6 := own_growO (own_empty2OD wc (.cells #[.int .i64 0] 3) 3 wc.heap.size (Nat.le_refl _)) (Nat.le_refl _) (show Up wc _ from (by repeat' (first | (with_reducible exact up_refl _) | (with_reducible assumption) | (with_reducible refine up_alloc ?_ _) | (with_reducible refine up_drewN ?_ _) | (with_reducible refine up_drew ?_) | (with_reducible refine up_set ?_ (by first | (simp; done) | (simp; omega) | omega) _) | (refine up_trans ?_ (by with_reducible assumption))))) hgrow'; obtain ⟨gg, cc, rfl, q1, q2, q3⟩ := own_someO2 hown'' (by omega))
            | (refine step_append_emptyO rfl (.tmp 76) (.tmp 79) 26 rfl 3 i0' Try.underlying26 (unhide HI) _ _ _ rfl rfl q2 ?_))
          all_goals
            have HR := hide (own_baseO (b' := w.heap.size) hown'' (Nat.le_trans (unhide HU).size hv2.size))
            have HV7 := hide (up_trans hv2 hU6)
            clear hown'' hgrow' hU6
            go_wp2_with fail
            go_roundw
            case rel => exact ⟨1, [0], by omega, by first | rfl | go_num, .refl _, List.pairwise_singleton _ _, unhide HR, up_trans (unhide HU) (unhide HV7), hide (fun h => absurd h (by decide))⟩
            case measure => simp [intOf]; omega
      · obtain ⟨g, cp, hv0, hg, g2, g3⟩ := own_someO2 hown m0
        subst hv0
        clear HNIL hown hu hll hp hs
        go_wp2_with fail
        go_loopw [5] (fun s5 wx => ∃ j : Nat, j ≤ k ∧ s5 = .int .i64 j ∧ Hid (∀ i (h : i < l.length), j ≤ i → ltS ps k l[i]) ∧ Up wo wx) (fun s5 _ => (intOf s5).toNat)
        case atStart => exact ⟨k, Nat.le_refl _, rfl, hide (fun i h hi => by have := unhide HLL; omega), up_refl _⟩
        case round =>
          obtain ⟨wx, rfl⟩ : ∃ wx, wx = wr := ⟨_, rfl⟩
          obtain ⟨j, hj, rfl, HB, hv⟩ := hrel
          have LC := ixs_news (own_upI (unhide HO) hv)
          have HLC := hide LC
          have HSP := hide (supsO_up (unhide HC) (up_trans (unhide HU) hv))
          clear LC
          obtain ⟨T, hT⟩ : ∃ T : Bool, T = true ↔ (∃ jj, ∃ h : jj < l.length, j = jj + 1 ∧ (xA ps k < xA ps l[jj] ∨ (xA ps k = xA ps l[jj] ∧ yA ps k < yA ps l[jj]))) := dec_exO _
          have HT := hide hT
          clear hT
          go_upto_region 6 with fail
          go_cut [66] (fun s wy => s = .bool T ∧ Up wx wy)
          case first => as_aux_lemma =>
            rcases j with _ | jj
            · obtain rfl : T = false := by
                cases T
                · rfl
                · obtain ⟨jj, _, h, _⟩ := (unhide HT).1 rfl
                  omega
              clear HT HLC HSP HB
              refine wp_upq (by kernel_rfl) (by kernel_rfl) ?_; (repeat (go_big_quiet_step (fail))); refine wpQuiet_nil ?_; intro _ hw'; obtain ⟨pq, hw''⟩ := hw'; subst hw''; have hpq := pq.up
              go_wp2_with fail
              go_meet
              exact ⟨rfl, hpq⟩
            · have hjl : jj < l.length := by rw [unhide HLL]; omega
              have hq : l[jj] < k := List.mem_range.1 ((unhide HP).mem_iff.1 (List.getElem_mem hjl))
              have lc := unhide HLC jj hjl
              have hql : l[jj] < ps.length := by omega
              obtain ⟨ck0, ck1, _⟩ := unhide HSP k hl
              obtain ⟨cq0, cq1, _⟩ := unhide HSP _ hql
              rw [← xA_at hl] at ck0
              rw [← yA_at hl] at ck1
              rw [← xA_at hql] at cq0
              rw [← yA_at hql] at cq1
              have hT2 : T = true ↔ (xA ps k < xA ps l[jj] ∨ (xA ps k = xA ps l[jj] ∧ yA ps k < yA ps l[jj])) := ⟨fun h => by
                obtain ⟨j', h', e, hh⟩ := (unhide HT).1 h
                obtain rfl : jj = j' := by omega
                exact hh, fun h => (unhide HT).2 ⟨jj, hjl, rfl, h⟩⟩
              clear HT HLC HSP HB
              generalize l[jj] = q at *
              generalize xA ps k = xk at *
              generalize yA ps k = yk at *
              generalize xA ps q = xq at *
              generalize yA ps q = yq at *
              have q0 : (0 : Int) ≤ (q : Int) := by omega
              have q1 : (q : Int) < (n : Int) := by omega
              have j0 : (0 : Int) ≤ (jj : Int) := by omega
              have j1 : (jj : Int) < (k : Int) := by omega
              have hwj : IntKind.i64.wrap (((jj + 1 : Nat) : Int) - 1) = (jj : Int) := by rw [show ((jj + 1 : Nat) : Int) - 1 = (jj : Int) by omega]; exact IntWalk.i64_in _ ⟨by omega, by omega⟩
              have hwj2 : IntKind.i64.wrap ((jj : Int) + 1 - 1) = (jj : Int) := by rw [show (jj : Int) + 1 - 1 = (jj : Int) by omega]; exact IntWalk.i64_in _ ⟨by omega, by omega⟩
              have n0 : ∀ p : UpW wx, p.v.cell? ⟨b, off + k * 6, none⟩ = some (.int .i64 xk) := fun p => up_cell p.up ck0
              have n1 : ∀ p : UpW wx, p.v.cell? ⟨b, off + k * 6 + 1, none⟩ = some (.int .i64 yk) := fun p => up_cell p.up ck1
              have n2 : ∀ p : UpW wx, p.v.cell? ⟨b, off + q * 6, none⟩ = some (.int .i64 xq) := fun p => up_cell p.up cq0
              have n3 : ∀ p : UpW wx, p.v.cell? ⟨b, off + q * 6 + 1, none⟩ = some (.int .i64 yq) := fun p => up_cell p.up cq1
              have n4 : ∀ p : UpW wx, p.v.cell? ⟨g, jj, none⟩ = some (.int .i64 (q : Int)) := fun p => up_cell p.up lc
              clear ck0 ck1 cq0 cq1 lc
              have z0 : (0 : Int) < (jj : Int) + 1 := by omega
              by_cases x1 : xk < xq
              · obtain rfl : T = true := hT2.2 (.inl x1)
                clear hT2
                refine wp_upq (by kernel_rfl) (by kernel_rfl) ?_; (repeat (go_big_quiet_step (fail))); refine wpQuiet_nil ?_; intro _ hw'; obtain ⟨pq, hw''⟩ := hw'; subst hw''; have hpq := pq.up
                go_wp2_with fail
                go_meet
                exact ⟨rfl, hpq⟩
              · by_cases x2 : xk = xq
                · subst x2
                  by_cases x3 : yk < yq
                  · obtain rfl : T = true := hT2.2 (.inr ⟨rfl, x3⟩)
                    clear hT2
                    refine wp_upq (by kernel_rfl) (by kernel_rfl) ?_; (repeat (go_big_quiet_step (fail))); refine wpQuiet_nil ?_; intro _ hw'; obtain ⟨pq, hw''⟩ := hw'; subst hw''; have hpq := pq.up
                    go_wp2_with fail
                    go_meet
                    exact ⟨rfl, hpq⟩
                  · obtain rfl : T = false := by
                      cases T
                      · rfl
                      · rcases hT2.1 rfl with h | h <;> omega
                    clear hT2
                    refine wp_upq (by kernel_rfl) (by kernel_rfl) ?_; (repeat (go_big_quiet_step (fail))); refine wpQuiet_nil ?_; intro _ hw'; obtain ⟨pq, hw''⟩ := hw'; subst hw''; have hpq := pq.up
                    go_wp2_with fail
                    go_meet
                    exact ⟨rfl, hpq⟩
                · have x4 : (xk == xq) = false := beq_false_of_ne x2
                  obtain rfl : T = false := by
                    cases T
                    · rfl
                    · rcases hT2.1 rfl with h | h <;> omega
                  clear hT2
                  refine wp_upq (by kernel_rfl) (by kernel_rfl) ?_; (repeat (go_big_quiet_step (fail))); refine wpQuiet_nil ?_; intro _ hw'; obtain ⟨pq, hw''⟩ := hw'; subst hw''; have hpq := pq.up
                  go_wp2_with fail
                  go_meet
                  exact ⟨rfl, hpq⟩
          case rest =>
          obtain ⟨rfl, hy⟩ := hcut
          have hv2 : Up wo wc := up_trans hv hy
          clear hv hy HLC HSP
          cases T
          · have INS := ins_ord (by rw [unhide HLL]; exact hj) (unhide HP) (unhide HS) (fun i h e => ordB_no (List.mem_range.1 ((unhide HP).mem_iff.1 (List.getElem_mem h))) (fun hh => by have := (unhide HT).2 ⟨i, h, e.symm, hh⟩; cases this)) (unhide HB)
            have HINS := hide INS
            clear INS HT HB
            go_upto_region 8 with fail
            have S2 := ixs_news (own_upI (unhide HO) hv2)
            have LT : (cellsI (ixs (l.take j))).length = j * 1 := by rw [cellsI_length, ixs_len, List.length_take, unhide HLL]; omega
            have LD : (cellsI (ixs (l.drop j))).length = (k - j) * 1 := by rw [cellsI_length, ixs_len, List.length_drop, unhide HLL]; omega
            have HFT := hide (fun (W : World) (h : Up wc W) => take_news (g := g) (W := W) (s := l) (fun i hi => up_cell h (S2 i hi)) j)
            have HFD := hide (fun (W : World) (h : Up wc W) => drop_news (g := g) (W := W) (s := l) (fun i hi => up_cell h (S2 i hi)) j)
            have HO1 := hide (one_cellsI (ixs (l.take j)))
            have HO2 := hide (one_cellsI (ixs (l.drop j)))
            have IC := cells_insO l j k
            have HLT := hide LT
            have HLD := hide LD
            obtain ⟨TK, hTK⟩ : ∃ x, cellsI (ixs (l.take j)) = x := ⟨_, rfl⟩
            obtain ⟨DR, hDR⟩ : ∃ x, cellsI (ixs (l.drop j)) = x := ⟨_, rfl⟩
            rw [hTK] at HFT HO1 HLT IC
            rw [hDR] at HFD HO2 HLD IC
            have HIC := hide IC
            have o3 : (j : Int) ≤ (cp : Int) := by omega
            have o4 : (j : Int) ≤ (k : Int) := by omega
            have o5 : (k : Int) ≤ (cp : Int) := by omega
            have o6 : j ≤ k := by omega
            have o7 : (0 : Int) ≤ (j : Int) := by omega
            clear S2 LT LD IC hTK hDR
            by_cases hjc : j = cp
            · have e1 : j = k := by omega
              subst e1
              subst hjc
              have HD0 := hide (List.eq_nil_of_length_eq_zero (by rw [unhide HLD]; simp))
              have HFE := hide (show ∀ W : World, ∀ i u, DR[i]? = some u → W.cell? ((⟨g, 0, none⟩ : Addr).add i) = some u from fun W i u h => by rw [unhide HD0] at h; simp at h)
              go_region_law (first
                | (refine step_append_mineO _ rfl (.tmp 69) (.tmp 72) 26 rfl wc.heap.size 3 i0' _ 1 8 Try.underlying26 (unhide HI) hz0 hz1 hz2 rfl (Nat.zero_lt_succ _) _ 0 [] rfl (own_emptyOD wc 3 wc.heap.size (Nat.le_refl _)) ⟨g, 0, none⟩ j j TK rfl (unhide HLT) (unhide HFT _ (by repeat' (first | (with_reducible exact up_refl _) | (with_reducible assumption) | (with_reducible refine up_alloc ?_ _) | (with_reducible refine up_drewN ?_ _) | (with_reducible refine up_drew ?_) | (with_reducible refine up_set ?_ (by first | (simp; done) | (simp; omega) | omega) _) | (refine up_trans ?_ (by with_reducible assumption))))) (unhide HO1) (by unfold maxLen; omega) (by omega) (by first | (simp; done) | (simp; omega) | omega) ?_; intro v' w5 hown' hgrow; have hU5 : Up wc w5 := own_growO (own_emptyOD wc 3 wc.heap.size (Nat.le_refl _)) (Nat.le_refl _) (show Up wc _ from (by repeat' (first | (with_reducible exact up_refl _) | (with_reducible assumption) | (with_reducible refine up_alloc ?_ _) | (with_reducible refine up_drewN ?_ _) | (with_reducible refine up_drew ?_) | (with_reducible refine up_set ?_ (by first | (simp; done) | (simp; omega) | omega) _) | (refine up_trans ?_ (by with_reducible assumption))))) hgrow)
                | (refine step_append_mineO _ rfl (.tmp 69) (.tmp 72) 26 rfl wc.heap.size 3 i0' _ 1 8 Try.underlying26 (unhide HI) hz0 hz1 hz2 rfl (Nat.zero_lt_succ _) _ 0 [] rfl ((own_emptyOD wc 3 wc.heap.size (Nat.le_refl _)).alloc (.cells #[.int .i64 (j : Int)] 3)) ⟨g, 0, none⟩ j j TK rfl (unhide HLT) (unhide HFT _ (by repeat' (first | (with_reducible exact up_refl _) | (with_reducible assumption) | (with_reducible refine up_alloc ?_ _) | (with_reducible refine up_drewN ?_ _) | (with_reducible refine up_drew ?_) | (with_reducible refine up_set ?_ (by first | (simp; done) | (simp; omega) | omega) _) | (refine up_trans ?_ (by with_reducible assumption))))) (unhide HO1) (by unfold maxLen; omega) (by omega) (by first | (simp; done) | (simp; omega) | omega) ?_; intro v' w5 hown' hgrow; have hU5 : Up wc w5 := own_growO ((own_emptyOD wc 3 wc.heap.size (Nat.le_refl _)).alloc (.cells #[.int .i64 (j : Int)] 3)) (Nat.le_refl _) (show Up wc _ from (by repeat' (first | (with_reducible exact up_refl _) | (with_reducible assumption) | (with_reducible refine up_alloc ?_ _) | (with_reducible refine up_drewN ?_ _) | (with_reducible refine up_drew ?_) | (with_reducible refine up_set ?_ (by first | (simp; done) | (simp; omega) | omega) _) | (refine up_trans ?_ (by with_reducible assumption))))) hgrow)
                | (refine step_append_mineO _ rfl (.tmp 69) (.tmp 72) 26 rfl wc.heap.size 3 i0' _ 1 8 Try.underlying26 (unhide HI) hz0 hz1 hz2 rfl (Nat.zero_lt_succ _) _ 0 [] rfl (own_empty2OD wc (.cells #[.int .i64 (j : Int)] 3) 3 wc.heap.size (Nat.le_refl _)) ⟨g, 0, none⟩ j j TK rfl (unhide HLT) (unhide HFT _ (by repeat' (first | (with_reducible exact up_refl _) | (with_reducible assumption) | (with_reducible refine up_alloc ?_ _) | (with_reducible refine up_drewN ?_ _) | (with_reducible refine up_drew ?_) | (with_reducible refine up_set ?_ (by first | (simp; done) | (simp; omega) | omega) _) | (refine up_trans ?_ (by with_reducible assumption))))) (unhide HO1) (by unfold maxLen; omega) (by omega) (by first | (simp; done) | (simp; omega) | omega) ?_; intro v' w5 hown' hgrow; have hU5 : Up wc w5 := own_growO (own_empty2OD wc (.cells #[.int .i64 (j : Int)] 3) 3 wc.heap.size (Nat.le_refl _)) (Nat.le_refl _) (show Up wc _ from (by repeat' (first | (with_reducible exact up_refl _) | (with_reducible assumption) | (with_reducible refine up_alloc ?_ _) | (with_reducible refine up_drewN ?_ _) | (with_reducible refine up_drew ?_) | (with_reducible refine up_set ?_ (by first | (simp; done) | (simp; omega) | omega) _) | (refine up_trans ?_ (by with_reducible assumption))))) hgrow)
                | (refine step_append_mineO _ rfl (.tmp 73) (.tmp 75) 26 rfl wc.heap.size 3 i0' _ 1 8 Try.underlying26 (unhide HI) hz0 hz1 hz2 rfl (Nat.zero_lt_succ _) _ (0 + j) ([] ++ TK) rfl (hown'.alloc _) _ 1 1 [.int .i64 (j : Int)] rfl rfl (one_newI _ _ _) (by intro u hu; simp at hu; rcases hu with rfl; rfl) (by unfold maxLen; omega) (by omega) (by first | exact hU5.size | exact Nat.le_trans hU5.size (by simp)) ?_; intro v'' w6 hown'' hgrow'; have hU6 : Up wc w6 := own_growO (hown'.alloc _) (Nat.le_refl _) (show Up wc _ from (by repeat' (first | (with_reducible exact up_refl _) | (with_reducible assumption) | (with_reducible refine up_alloc ?_ _) | (with_reducible refine up_drewN ?_ _) | (with_reducible refine up_drew ?_) | (with_reducible refine up_set ?_ (by first | (simp; done) | (simp; omega) | omega) _) | (refine up_trans ?_ (by with_reducible assumption))))) hgrow')
                | (refine step_append_mineO _ rfl (.tmp 73) (.tmp 75) 26 rfl wc.heap.size 3 i0' _ 1 8 Try.underlying26 (unhide HI) hz0 hz1 hz2 rfl (Nat.zero_lt_succ _) _ (0 + j) ([] ++ TK) rfl hown' _ 1 1 [.int .i64 (j : Int)] rfl rfl (one_grownO hgrow (one_new2O wc (.cells #[] 3) (.int .i64 (j : Int)) 3) (by intro e; have q : wc.heap.size + 1 = wc.heap.size := Option.some.inj e; omega)) (by intro u hu; simp at hu; rcases hu with rfl; rfl) (by unfold maxLen; omega) (by omega) (by first | exact hU5.size | exact Nat.le_trans hU5.size (by simp)) ?_; intro v'' w6 hown'' hgrow'; have hU6 : Up wc w6 := own_growO hown' (Nat.le_refl _) (show Up wc _ from (by repeat' (first | (with_reducible exact up_refl _) | (with_reducible assumption) | (with_reducible refine up_alloc ?_ _) | (with_reducible refine up_drewN ?_ _) | (with_reducible refine up_drew ?_) | (with_reducible refine up_set ?_ (by first | (simp; done) | (simp; omega) | omega) _) | (refine up_trans ?_ (by with_reducible assumption))))) hgrow')
                | (refine step_append_mineO _ rfl (.tmp 73) (.tmp 75) 26 rfl wc.heap.size 3 i0' _ 1 8 Try.underlying26 (unhide HI) hz0 hz1 hz2 rfl (Nat.zero_lt_succ _) _ (0 + j) ([] ++ TK) rfl hown' _ 1 1 [.int .i64 (j : Int)] rfl rfl (one_grownO hgrow (one_allocO (one_newI wc (.int .i64 (j : Int)) 3) (.cells #[] 3)) (by intro e; have q : wc.heap.size = wc.heap.size + 1 := Option.some.inj e; omega)) (by intro u hu; simp at hu; rcases hu with rfl; rfl) (by unfold maxLen; omega) (by omega) (by first | exact hU5.size | exact Nat.le_trans hU5.size (by simp)) ?_; intro v'' w6 hown'' hgrow'; have hU6 : Up wc w6 := own_growO hown' (Nat.le_refl _) (show Up wc _ from (by repeat' (first | (with_reducible exact up_refl _) | (with_reducible assumption) | (with_reducible refine up_alloc ?_ _) | (with_reducible refine up_drewN ?_ _) | (with_reducible refine up_drew ?_) | (with_reducible refine up_set ?_ (by first | (simp; done) | (simp; omega) | omega) _) | (refine up_trans ?_ (by with_reducible assumption))))) hgrow')
                | (refine step_append_mineO _ rfl (.tmp 76) (.tmp 79) 26 rfl wc.heap.size 3 i0' _ 1 8 Try.underlying26 (unhide HI) hz0 hz1 hz2 rfl (Nat.zero_lt_succ _) _ (0 + j + 1) (([] ++ TK) ++ [Value.int IntKind.i64 (j : Int)]) rfl hown'' _ _ _ DR rfl (by rw [unhide HD0]; first | (simp; done) | (simp; omega) | omega) (unhide HFE _) (unhide HO2) (by unfold maxLen; omega) (by omega) hU6.size ?_; intro v3 w7 hown3 hgrow3; have hU7 : Up wc w7 := own_growO hown'' (Nat.le_refl _) hU6 hgrow3))
              all_goals
                have HR := hide (own_insO (l := l) o6 (Nat.le_trans (unhide HU).size hv2.size) (by rw [Nat.sub_self]; exact hown3) (unhide HIC))
                have HV7 := hide (up_trans hv2 hU7)
                clear hown' hgrow hown'' hgrow' hown3 hgrow3 hU5 hU6 hU7
                go_wp2_with fail
                go_roundw
                case rel => exact ⟨j + 1, _, by omega, by go_num, (unhide HINS).1, (unhide HINS).2, unhide HR, up_trans (unhide HU) (unhide HV7), hide (fun h => absurd h (Nat.succ_ne_zero j))⟩
                case measure => simp [intOf]; omega
            · have n60 : ¬ cp = j := by omega
              have n61 : ¬ j = cp := by omega
              have n62 : ¬ cp - j = 0 := by omega
              have n65 : ¬ cp ≤ j := by omega
              go_region_law (first
              | (refine step_append_mineO _ rfl (.tmp 69) (.tmp 72) 26 rfl wc.heap.size 3 i0' _ 1 8 Try.underlying26 (unhide HI) hz0 hz1 hz2 rfl (Nat.zero_lt_succ _) _ 0 [] rfl (own_emptyOD wc 3 wc.heap.size (Nat.le_refl _)) ⟨g, 0, none⟩ j cp TK rfl (unhide HLT) (unhide HFT _ (by repeat' (first | (with_reducible exact up_refl _) | (with_reducible assumption) | (with_reducible refine up_alloc ?_ _) | (with_reducible refine up_drewN ?_ _) | (with_reducible refine up_drew ?_) | (with_reducible refine up_set ?_ (by first | (simp; done) | (simp; omega) | omega) _) | (refine up_trans ?_ (by with_reducible assumption))))) (unhide HO1) (by unfold maxLen; omega) (by omega) (by first | (simp; done) | (simp; omega) | omega) ?_; intro v' w5 hown' hgrow; have hU5 : Up wc w5 := own_growO (own_emptyOD wc 3 wc.heap.size (Nat.le_refl _)) (Nat.le_refl _) (show Up wc _ from (by repeat' (first | (with_reducible exact up_refl _) | (with_reducible assumption) | (with_reducible refine up_alloc ?_ _) | (with_reducible refine up_drewN ?_ _) | (with_reducible refine up_drew ?_) | (with_reducible refine up_set ?_ (by first | (simp; done) | (simp; omega) | omega) _) | (refine up_trans ?_ (by with_reducible assumption))))) hgrow)
              | (refine step_append_mineO _ rfl (.tmp 69) (.tmp 72) 26 rfl wc.heap.size 3 i0' _ 1 8 Try.underlying26 (unhide HI) hz0 hz1 hz2 rfl (Nat.zero_lt_succ _) _ 0 [] rfl ((own_emptyOD wc 3 wc.heap.size (Nat.le_refl _)).alloc (.cells #[.int .i64 (k : Int)] 3)) ⟨g, 0, none⟩ j cp TK rfl (unhide HLT) (unhide HFT _ (by repeat' (first | (with_reducible exact up_refl _) | (with_reducible assumption) | (with_reducible refine up_alloc ?_ _) | (with_reducible refine up_drewN ?_ _) | (with_reducible refine up_drew ?_) | (with_reducible refine up_set ?_ (by first | (simp; done) | (simp; omega) | omega) _) | (refine up_trans ?_ (by with_reducible assumption))))) (unhide HO1) (by unfold maxLen; omega) (by omega) (by first | (simp; done) | (simp; omega) | omega) ?_; intro v' w5 hown' hgrow; have hU5 : Up wc w5 := own_growO ((own_emptyOD wc 3 wc.heap.size (Nat.le_refl _)).alloc (.cells #[.int .i64 (k : Int)] 3)) (Nat.le_refl _) (show Up wc _ from (by repeat' (first | (with_reducible exact up_refl _) | (with_reducible assumption) | (with_reducible refine up_alloc ?_ _) | (with_reducible refine up_drewN ?_ _) | (with_reducible refine up_drew ?_) | (with_reducible refine up_set ?_ (by first | (simp; done) | (simp; omega) | omega) _) | (refine up_trans ?_ (by with_reducible assumption))))) hgrow)
              | (refine step_append_mineO _ rfl (.tmp 69) (.tmp 72) 26 rfl wc.heap.size 3 i0' _ 1 8 Try.underlying26 (unhide HI) hz0 hz1 hz2 rfl (Nat.zero_lt_succ _) _ 0 [] rfl (own_empty2OD wc (.cells #[.int .i64 (k : Int)] 3) 3 wc.heap.size (Nat.le_refl _)) ⟨g, 0, none⟩ j cp TK rfl (unhide HLT) (unhide HFT _ (by repeat' (first | (with_reducible exact up_refl _) | (with_reducible assumption) | (with_reducible refine up_alloc ?_ _) | (with_reducible refine up_drewN ?_ _) | (with_reducible refine up_drew ?_) | (with_reducible refine up_set ?_ (by first | (simp; done) | (simp; omega) | omega) _) | (refine up_trans ?_ (by with_reducible assumption))))) (unhide HO1) (by unfold maxLen; omega) (by omega) (by first | (simp; done) | (simp; omega) | omega) ?_; intro v' w5 hown' hgrow; have hU5 : Up wc w5 := own_growO (own_empty2OD wc (.cells #[.int .i64 (k : Int)] 3) 3 wc.heap.size (Nat.le_refl _)) (Nat.le_refl _) (show Up wc _ from (by repeat' (first | (with_reducible exact up_refl _) | (with_reducible assumption) | (with_reducible refine up_alloc ?_ _) | (with_reducible refine up_drewN ?_ _) | (with_reducible refine up_drew ?_) | (with_reducible refine up_set ?_ (by first | (simp; done) | (simp; omega) | omega) _) | (refine up_trans ?_ (by with_reducible assumption))))) hgrow)
              | (refine step_append_mineO _ rfl (.tmp 73) (.tmp 75) 26 rfl wc.heap.size 3 i0' _ 1 8 Try.underlying26 (unhide HI) hz0 hz1 hz2 rfl (Nat.zero_lt_succ _) _ (0 + j) ([] ++ TK) rfl (hown'.alloc _) _ 1 1 [.int .i64 (k : Int)] rfl rfl (one_newI _ _ _) (by intro u hu; simp at hu; rcases hu with rfl; rfl) (by unfold maxLen; omega) (by omega) (by first | exact hU5.size | exact Nat.le_trans hU5.size (by simp)) ?_; intro v'' w6 hown'' hgrow'; have hU6 : Up wc w6 := own_growO (hown'.alloc _) (Nat.le_refl _) (show Up wc _ from (by repeat' (first | (with_reducible exact up_refl _) | (with_reducible assumption) | (with_reducible refine up_alloc ?_ _) | (with_reducible refine up_drewN ?_ _) | (with_reducible refine up_drew ?_) | (with_reducible refine up_set ?_ (by first | (simp; done) | (simp; omega) | omega) _) | (refine up_trans ?_ (by with_reducible assumption))))) hgrow')
              | (refine step_append_mineO _ rfl (.tmp 73) (.tmp 75) 26 rfl wc.heap.size 3 i0' _ 1 8 Try.underlying26 (unhide HI) hz0 hz1 hz2 rfl (Nat.zero_lt_succ _) _ (0 + j) ([] ++ TK) rfl hown' _ 1 1 [.int .i64 (k : Int)] rfl rfl (one_grownO hgrow (one_new2O wc (.cells #[] 3) (.int .i64 (k : Int)) 3) (by intro e; have q : wc.heap.size + 1 = wc.heap.size := Option.some.inj e; omega)) (by intro u hu; simp at hu; rcases hu with rfl; rfl) (by unfold maxLen; omega) (by omega) (by first | exact hU5.size | exact Nat.le_trans hU5.size (by simp)) ?_; intro v'' w6 hown'' hgrow'; have hU6 : Up wc w6 := own_growO hown' (Nat.le_refl _) (show Up wc _ from (by repeat' (first | (with_reducible exact up_refl _) | (with_reducible assumption) | (with_reducible refine up_alloc ?_ _) | (with_reducible refine up_drewN ?_ _) | (with_reducible refine up_drew ?_) | (with_reducible refine up_set ?_ (by first | (simp; done) | (simp; omega) | omega) _) | (refine up_trans ?_ (by with_reducible assumption))))) hgrow')
              | (refine step_append_mineO _ rfl (.tmp 73) (.tmp 75) 26 rfl wc.heap.size 3 i0' _ 1 8 Try.underlying26 (unhide HI) hz0 hz1 hz2 rfl (Nat.zero_lt_succ _) _ (0 + j) ([] ++ TK) rfl hown' _ 1 1 [.int .i64 (k : Int)] rfl rfl (one_grownO hgrow (one_allocO (one_newI wc (.int .i64 (k : Int)) 3) (.cells #[] 3)) (by intro e; have q : wc.heap.size = wc.heap.size + 1 := Option.some.inj e; omega)) (by intro u hu; simp at hu; rcases hu with rfl; rfl) (by unfold maxLen; omega) (by omega) (by first | exact hU5.size | exact Nat.le_trans hU5.size (by simp)) ?_; intro v'' w6 hown'' hgrow'; have hU6 : Up wc w6 := own_growO hown' (Nat.le_refl _) (show Up wc _ from (by repeat' (first | (with_reducible exact up_refl _) | (with_reducible assumption) | (with_reducible refine up_alloc ?_ _) | (with_reducible refine up_drewN ?_ _) | (with_reducible refine up_drew ?_) | (with_reducible refine up_set ?_ (by first | (simp; done) | (simp; omega) | omega) _) | (refine up_trans ?_ (by with_reducible assumption))))) hgrow')
              | (refine step_append_mineO _ rfl (.tmp 76) (.tmp 79) 26 rfl wc.heap.size 3 i0' _ 1 8 Try.underlying26 (unhide HI) hz0 hz1 hz2 rfl (Nat.zero_lt_succ _) _ (0 + j + 1) (([] ++ TK) ++ [Value.int IntKind.i64 (k : Int)]) rfl hown'' ⟨g, j, none⟩ (k - j) (cp - j) DR rfl (unhide HLD) (unhide HFD _ hU6) (unhide HO2) (by unfold maxLen; omega) (by omega) hU6.size ?_; intro v3 w7 hown3 hgrow3; have hU7 : Up wc w7 := own_growO hown'' (Nat.le_refl _) hU6 hgrow3))
              all_goals
                have HR := hide (own_insO (l := l) o6 (Nat.le_trans (unhide HU).size hv2.size) hown3 (unhide HIC))
                have HV7 := hide (up_trans hv2 hU7)
                clear hown' hgrow hown'' hgrow' hown3 hgrow3 hU5 hU6 hU7
                go_wp2_with fail
                go_roundw
                case rel => exact ⟨k + 1, _, by omega, by go_num, (unhide HINS).1, (unhide HINS).2, unhide HR, up_trans (unhide HU) (unhide HV7), hide (fun h => absurd h (Nat.succ_ne_zero k))⟩
                case measure => simp [intOf]; omega
          · obtain ⟨jj, hjl, rfl, hb⟩ := (unhide HT).1 rfl
            have HB2 := hide (fun i (h : i < l.length) (hi : jj ≤ i) => (if e : i = jj then by subst e; exact ordB_yes hb else unhide HB i h (by omega) : ltS ps k l[i]))
            have hwj : IntKind.i64.wrap (((jj + 1 : Nat) : Int) - 1) = (jj : Int) := by rw [show ((jj + 1 : Nat) : Int) - 1 = (jj : Int) by omega]; exact IntWalk.i64_in _ ⟨by omega, by omega⟩
            have hwj2 : IntKind.i64.wrap ((jj : Int) + 1 - 1) = (jj : Int) := by rw [show (jj : Int) + 1 - 1 = (jj : Int) by omega]; exact IntWalk.i64_in _ ⟨by omega, by omega⟩
            clear HB HT hb
            go_wp2_with fail
            go_roundw
            case rel => exact ⟨jj, by omega, by first | rfl | trivial | go_num, HB2, hv2⟩
            case measure => simp [intOf]
    · obtain rfl : k = n := by omega
      have HO := hide hown
      have HP := hide (And.intro hp hs)
      clear hown hp hs HNIL
      go_wp2_with fail
      go_ret
      exact ⟨_, l, rfl, (unhide HP).1, (unhide HP).2, unhide HO, hu⟩
end Go.Proofs.Ytepblnnebeglbaa
