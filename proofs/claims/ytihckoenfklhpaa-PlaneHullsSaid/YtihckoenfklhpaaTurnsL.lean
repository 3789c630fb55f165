/- The corners that are left of a sorted list when it turns to the left at each of them. -/
import Derived.Test.YtihckoenfklhpaaOwn
import Derived.Test.YtihckoenfklhpaaDrop
namespace Go.Proofs.Ytihckoenfklhpaa
open Go.RowKit Go.Proofs.Gn
/-- The corners that are left, in their order. -/
def turnsL (ss : Pl) : Pl := (Gx.chainR ss).reverse
theorem turnsL_snoc (ss : Pl) (p : Int × Int) : turnsL (ss ++ [p]) = leftS p (turnsL ss) ++ [p] := by
  unfold turnsL leftS
  rw [Gx.chainR_snoc, List.reverse_reverse]
  unfold Gx.pushS
  rw [List.reverse_cons]
theorem turnsL_sub (ss : Pl) : ∀ p ∈ turnsL ss, p ∈ ss := by
  intro p hp
  generalize hr : ss.reverse = r
  induction r generalizing ss p with
  | nil =>
    have : ss = [] := by simpa using hr
    subst this
    simp [turnsL, Gx.chainR] at hp
  | cons q r ih =>
    have e : ss = r.reverse ++ [q] := by rw [← List.reverse_reverse ss, hr]; simp
    rw [e] at hp ⊢
    rw [turnsL_snoc] at hp
    rcases List.mem_append.1 hp with hp | hp
    · exact List.mem_append_left _ (ih r.reverse p ((leftS_prefix _ _).subset hp) (by simp))
    · exact List.mem_append_right _ hp
theorem turnsL_len (ss : Pl) : (turnsL ss).length ≤ ss.length := by
  generalize hr : ss.reverse = r
  induction r generalizing ss with
  | nil =>
    have : ss = [] := by simpa using hr
    subst this
    simp [turnsL, Gx.chainR]
  | cons q r ih =>
    have e : ss = r.reverse ++ [q] := by rw [← List.reverse_reverse ss, hr]; simp
    rw [e, turnsL_snoc]
    have a := (leftS_prefix q (turnsL r.reverse)).length_le
    have b := ih r.reverse (by simp)
    simp only [List.length_append, List.length_cons, List.length_nil]
    omega
theorem turnsL_pos {ss : Pl} (h : 0 < ss.length) : 0 < (turnsL ss).length := by
  obtain ⟨t, q, e⟩ : ∃ t q, ss = t ++ [q] := by
    have hne : ss ≠ [] := by intro e; rw [e] at h; simp at h
    exact ⟨ss.dropLast, ss.getLast hne, (List.dropLast_concat_getLast hne).symm⟩
  rw [e, turnsL_snoc]
  simp
theorem bdL_sub {a b : Pl} (h : BdL b) (hs : ∀ p ∈ a, p ∈ b) : BdL a := fun p hp => h p (hs p hp)
theorem turns_own {W : World} {B : Nat} {v : Value} {m : Nat} {ss ps : Pl} {x y : Int} {k : Nat} (ht : turnsL (ss.take (k + 1)) = leftS (x, y) ps ++ [(x, y)]) (hq : leftS (x, y) ps = ps.take m) (hm : (leftS (x, y) ps).length = m)
    (ho : W.ownsRow B 24 2 v (m + 1) (cellsPl (ps.take m) ++ [.int .i64 x, .int .i64 y])) : W.ownsRow B 24 2 v (turnsL (ss.take (k + 1))).length (cellsPl (turnsL (ss.take (k + 1)))) := by
  rw [ht, cellsPl_snoc, List.length_append, hm, hq]
  exact ho
set_option maxRecDepth 100000 in
set_option maxHeartbeats 2000000 in
theorem p_leftTurns (A : Option Addr) (ss : Pl) (cap : Nat) (w : World) (h : Pts w A ss) (hn : ss.length ≤ 70000) (hb : BdL ss) :
    Calls Try.prog 67 #[.slice A ss.length cap] w fun e w' => ∃ v, e = .returned v ∧ w'.ownsRow w.heap.size 24 2 v (turnsL ss).length (cellsPl (turnsL ss)) ∧ Below w.heap.size w w' := by
  have HS := hide h
  have HBD := hide hb
  clear h hb
  obtain ⟨n, hN⟩ : ∃ n, ss.length = n := ⟨_, rfl⟩
  rw [hN] at hn ⊢
  have HN := hide hN
  clear hN
  obtain ⟨i0, hi, hz0, hz1, hz2⟩ := info_parts info_pt
  have HI := hide hi
  clear hi
  go_enter Try.func67, Try.ntmps67
  go_wp2_with fail
  go_loopw [3, 8] (fun v i wr => ∃ k : Nat, k ≤ n ∧ i = .int .i64 k ∧ wr.ownsRow w.heap.size 24 2 v (turnsL (ss.take k)).length (cellsPl (turnsL (ss.take k))) ∧ Below w.heap.size w wr ∧ (k = 0 → v = .slice none 0 0)) (fun _ i _ => n - (intOf i).toNat)
  case atStart => exact ⟨0, Nat.zero_le _, rfl, World.ownsRow_nil _ _ _ _, Below.refl _ _, fun _ => rfl⟩
  case round =>
    obtain ⟨k, hk, rfl, hown, hbe, hnil⟩ := hrel
    by_cases hlt : k < n
    · have hl : k < ss.length := by rw [unhide HN]; exact hlt
      obtain ⟨b, off, rfl, hc⟩ := (unhide HS).resolve_left (by intro e; rw [e] at hl; simp at hl)
      obtain ⟨c0, c1⟩ := hc k hl
      have bd := unhide HBD ss[k] (List.getElem_mem hl)
      have ht : ss.take (k + 1) = ss.take k ++ [(ss[k].1, ss[k].2)] := by rw [List.take_succ_eq_append_getElem hl]
      obtain ⟨x, hx⟩ : ∃ x, ss[k].1 = x := ⟨_, rfl⟩
      obtain ⟨y, hy⟩ : ∃ y, ss[k].2 = y := ⟨_, rfl⟩
      rw [hx] at c0 bd ht
      rw [hy] at c1 bd ht
      have hts := turnsL_snoc (ss.take k) (x, y)
      rw [← ht] at hts
      have d0 := up_cell hbe c0
      have d1 := up_cell hbe c1
      have bps : BdL (turnsL (ss.take k)) := bdL_sub (unhide HBD) fun p hp => List.mem_of_mem_take (turnsL_sub _ p hp)
      have lps : (turnsL (ss.take k)).length ≤ k := by have := turnsL_len (ss.take k); rw [List.length_take, unhide HN] at this; omega
      obtain ⟨ps, hps⟩ : ∃ ps, turnsL (ss.take k) = ps := ⟨_, rfl⟩
      rw [hps] at hown hts bps lps
      have lq := (leftS_prefix (x, y) ps).length_le
      have hq : leftS (x, y) ps = ps.take (leftS (x, y) ps).length := (List.prefix_iff_eq_take.1 (leftS_prefix (x, y) ps))
      have HTS := hide hts
      have HBE := hide hbe
      have HO := hide hown
      have HBP := hide bps
      have hk0 : k = 0 → ps = [] := fun e => by rw [← hps, e]; rfl
      by_cases hk1 : k = 0
      · subst hk1
        obtain rfl := hnil rfl
        obtain rfl := hk0 rfl
        simp only [Nat.zero_mul, Nat.add_zero] at d0 d1
        clear hown hbe hnil hk0 hps hts bps hx hy ht hc c0 c1 lps lq hq
        go_wp2_with (first
          | (go_at_call 91; refine (p_drop0 _ _ _).mono ?_; rintro e w2 ⟨rfl, hb2⟩; have x2 : w2.cell? ⟨wr.heap.size, 0, none⟩ = some (.int .i64 x) := up_cell hb2 (by go_cell); have y2 : w2.cell? ⟨wr.heap.size, 1, none⟩ = some (.int .i64 y) := up_cell hb2 (by go_cell))
          | (at_builtin; refine wpList_append_own _ rfl _ _ 22 rfl w.heap.size 24 i0 _ 2 16 Try.underlying22 (unhide HI) hz0 hz1 hz2 rfl (by decide) _ 0 (cellsPl (([] : Pl).take 0)) rfl (World.ownsRow_nil _ _ _ _) ⟨w2.heap.size, 0, none⟩ 1 1 [.int .i64 x, .int .i64 y] rfl rfl (two_new _ _ _ _) (by intro u hu; simp at hu; rcases hu with rfl | rfl <;> rfl) (by unfold maxLen; omega) (by omega) (by have := (unhide HBE).size; have := hb2.size; simp at this ⊢; omega) ?_; intro v' w3 hown' hgrow _))
        have R1 := turns_own (unhide HTS) (ps := []) (m := 0) rfl rfl hown'
        have R2 : Below w.heap.size w w3 := Below.grown (below_up (unhide HBE) (Nat.le_refl _) (up_alloc (up_trans (up_alloc (up_refl _) _) hb2) _)) hgrow (by have := (unhide HBE).size; have := hb2.size; simp at this ⊢; omega) (fun j hj => by cases hj)
        exact ⟨⟨1, by omega, by go_num, R1, R2, by omega⟩, by simp [intOf]; omega⟩
      · have hpos : 0 < ps.length := by
          rw [← hps]
          exact turnsL_pos (by rw [List.length_take, unhide HN]; omega)
        obtain ⟨g, cp, hv, hg, hcp, hcp2⟩ := own_some hown hpos
        subst hv
        obtain ⟨m, hm⟩ : ∃ m, (leftS (x, y) ps).length = m := ⟨_, rfl⟩
        have PD : ∀ W : World, W.ownsRow w.heap.size 24 2 (.slice (some ⟨g, 0, none⟩) ps.length cp) ps.length (cellsPl ps) → W.cell? ⟨wr.heap.size, 0, none⟩ = some (.int .i64 x) → W.cell? ⟨wr.heap.size, 1, none⟩ = some (.int .i64 y) →
            Calls Try.prog 91 #[.slice (some ⟨g, 0, none⟩) ps.length cp, .func (.func 92) #[] #[.pointer (some ⟨wr.heap.size, 0, none⟩)]] W fun e w' => e = .returned (.slice (some ⟨g, 0, none⟩) m cp) ∧ Up W w' := fun W hO hx hy => by
          have q := p_drop g ps cp wr.heap.size x y W (own_cells hO) hx hy hcp hcp2 bps bd.1 bd.2
          rwa [hm] at q
        rw [hm] at lq hq
        have HPD := hide PD
        have HQ := hide hq
        have HM := hide hm
        obtain ⟨N, hN2⟩ : ∃ N, ps.length = N := ⟨_, rfl⟩
        rw [hN2] at HO HPD lq lps ⊢
        clear hown hbe hnil hk0 hps hts bps hx hy ht hc c0 c1 PD hq hm hcp hcp2 hpos hN2
        go_wp2_with (first
          | (go_at_call 91; (with_reducible refine (unhide HPD _ ((unhide HO).alloc _) (by go_cell) (by go_cell)).mono ?_); rintro e w2 ⟨rfl, hb2⟩; have x2 : w2.cell? ⟨wr.heap.size, 0, none⟩ = some (.int .i64 x) := up_cell hb2 (by go_cell); have y2 : w2.cell? ⟨wr.heap.size, 1, none⟩ = some (.int .i64 y) := up_cell hb2 (by go_cell))
          | (at_builtin; refine wpList_append_own _ rfl _ _ 22 rfl w.heap.size 24 i0 _ 2 16 Try.underlying22 (unhide HI) hz0 hz1 hz2 rfl (by decide) _ m (cellsPl (ps.take m)) rfl (by rw [← cellsPl_take]; exact (own_prefix (own_up ((unhide HO).alloc _) hb2) lq).alloc _) ⟨w2.heap.size, 0, none⟩ 1 1 [.int .i64 x, .int .i64 y] rfl rfl (two_new _ _ _ _) (by intro u hu; simp at hu; rcases hu with rfl | rfl <;> rfl) (by unfold maxLen; omega) (by omega) (by have := (unhide HBE).size; have := hb2.size; simp at this ⊢; omega) ?_; intro v' w3 hown' hgrow _))
        have R1 := turns_own (unhide HTS) (unhide HQ) (unhide HM) hown'
        have R2 : Below w.heap.size w w3 := Below.grown (below_up (unhide HBE) (Nat.le_refl _) (up_alloc (up_trans (up_alloc (up_refl _) _) hb2) _)) hgrow (by have := (unhide HBE).size; have := hb2.size; simp at this ⊢; omega) (fun j hj => by cases hj; exact hg)
        exact ⟨⟨k + 1, by omega, by go_num, R1, R2, by omega⟩, by simp [intOf]; omega⟩
    · obtain rfl : k = n := by omega
      have e : ss.take k = ss := List.take_of_length_le (by rw [unhide HN]; exact Nat.le_refl _)
      rw [e] at hown
      have HO := hide hown
      have HBE := hide hbe
      clear e hown hbe hnil
      go_wp2_with fail
      exact bodyPost_ret (by simp [results, Try.results67, go_sem]) rfl ⟨_, rfl, unhide HO, unhide HBE⟩
end Go.Proofs.Ytihckoenfklhpaa
