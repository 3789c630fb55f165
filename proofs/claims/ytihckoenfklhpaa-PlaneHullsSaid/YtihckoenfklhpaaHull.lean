/- What hull returns. -/
import Derived.Test.YtihckoenfklhpaaCompact
import Derived.Test.YtihckoenfklhpaaTurnsL
namespace Go.Proofs.Ytihckoenfklhpaa
open Go.RowKit Go.Proofs.Gn
theorem cellsPl_append (a b : Pl) : cellsPl (a ++ b) = cellsPl a ++ cellsPl b := by simp [cellsPl]
theorem hullF_eq {ps ss : Pl} (h : ss = Gx.sortU ps) : (ss.length = 1 → Gx.hullF ps = ss) ∧ (ss.length ≠ 1 → Gx.hullF ps = (turnsL ss).take ((turnsL ss).length - 1) ++ (turnsL ss.reverse).take ((turnsL ss.reverse).length - 1)) := by
  subst h
  unfold Gx.hullF Gx.hullS turnsL
  refine ⟨fun h => by rw [if_pos h], fun h => by rw [if_neg h, List.dropLast_eq_take, List.dropLast_eq_take]⟩
theorem own_one {W : World} {base e : Nat} {v : Value} {n : Nat} {ps : Pl} (h : W.ownsRow base e 2 v n (cellsPl ps)) : n = ps.length := own_len h
theorem sort_len (ps : Pl) : (Gx.sortU ps).length ≤ ps.length := by
  have : ∀ (l : Pl) (p : Int × Int), (Gx.insU p l).length ≤ l.length + 1 := by
    intro l p
    induction l with
    | nil => exact Nat.le_refl _
    | cons a l ih =>
      unfold Gx.insU
      split
      · simpa using ih
      · split <;> simp
  generalize hr : ps.reverse = r
  induction r generalizing ps with
  | nil =>
    have : ps = [] := by simpa using hr
    subst this
    exact Nat.le_refl _
  | cons q r ih =>
    have e : ps = r.reverse ++ [q] := by rw [← List.reverse_reverse ps, hr]; simp
    rw [e, Gx.sortU_snoc]
    have a := this (Gx.sortU r.reverse) q
    have b := ih r.reverse (by simp)
    simp only [List.length_append, List.length_cons, List.length_nil]
    omega
theorem own_base {W : World} {base b' e size n : Nat} {v : Value} {xs : List Value} (h : W.ownsRow base e size v n xs) (hb : b' ≤ base) : W.ownsRow b' e size v n xs := by
  rcases h with ⟨hl, h | ⟨g, cap, cur, rfl, h1, h2⟩⟩
  · exact ⟨hl, .inl h⟩
  · exact ⟨hl, .inr ⟨g, cap, cur, rfl, Nat.le_trans hb h1, h2⟩⟩
theorem own_lt {W : World} {base e size n m cap g : Nat} {xs : List Value} (h : W.ownsRow base e size (.slice (some ⟨g, 0, none⟩) n cap) m xs) : g < W.heap.size := by
  rcases h.2 with ⟨k, _⟩ | ⟨g', cap', cur, e1, _, hgg, _⟩
  · simp at k
  · simp only [Value.slice.injEq, Option.some.injEq, Addr.mk.injEq, and_true] at e1
    obtain ⟨rfl, _⟩ := e1
    exact (Array.getElem?_eq_some_iff.1 hgg).1
/-- leftTurns at a list of the call's own. -/
theorem p_turnsO {B m a cp g : Nat} {ss : Pl} (ha : (turnsL ss).length = a) (hm : ss.length = m) (h0 : 0 < m) (hn : m ≤ 70000) (hb : BdL ss) (W : World) (h : W.ownsRow B 24 2 (.slice (some ⟨g, 0, none⟩) m cp) m (cellsPl ss)) :
    Calls Try.prog 67 #[.slice (some ⟨g, 0, none⟩) m cp] W fun e w' => ∃ g4 c4, e = .returned (.slice (some ⟨g4, 0, none⟩) a c4) ∧ W.heap.size ≤ g4 ∧ a ≤ c4 ∧ c4 ≤ 9223372036854775807 ∧ w'.ownsRow W.heap.size 24 2 (.slice (some ⟨g4, 0, none⟩) a c4) a (cellsPl (turnsL ss)) ∧ Up W w' := by
  obtain ⟨A, c, e, hp⟩ := own_pts h
  rw [hm] at e
  simp only [Value.slice.injEq, true_and] at e
  obtain ⟨rfl, rfl⟩ := e
  have q := p_leftTurns (some ⟨g, 0, none⟩) ss cp W hp (by omega) hb
  rw [hm, ha] at q
  refine q.mono fun e w' ⟨v, he, ho, hb⟩ => ?_
  have := turnsL_pos (ss := ss) (by omega)
  obtain ⟨g4, c4, rfl, h1, h2, h3⟩ := own_some ho (by omega)
  exact ⟨g4, c4, he, h1, h2, h3, ho, hb⟩
set_option maxRecDepth 100000 in
set_option maxHeartbeats 2000000 in
theorem p_hull (A : Option Addr) (ps : Pl) (cap : Nat) (w : World) (h : Pts w A ps) (h0 : 0 < ps.length) (hn : ps.length ≤ 60000) (hb : BdL ps) :
    Calls Try.prog 34 #[.slice A ps.length cap] w fun e w' => ∃ v, e = .returned v ∧ w'.ownsRow w.heap.size 24 2 v (Gx.hullF ps).length (cellsPl (Gx.hullF ps)) ∧ Below w.heap.size w w' := by
  have PC := p_clone A ps cap w h h0 (by omega)
  obtain ⟨ss, hss⟩ : ∃ ss, Gx.sortU ps = ss := ⟨_, rfl⟩
  have hssl : ss.length ≤ ps.length := by rw [← hss]; exact sort_len ps
  have hss0 : 0 < ss.length := by
    rw [← hss]
    exact List.length_pos_iff.2 (Gx.sortU_ne (by intro e; rw [e] at h0; simp at h0))
  have hbs : BdL ss := by rw [← hss]; exact fun p hp => hb p (((Gx.sortU_ok ps).2 p).1 hp)
  have hF := hullF_eq hss.symm
  have PS : ∀ (W : World) (g cp : Nat), W.ownsRow w.heap.size 24 2 (.slice (some ⟨g, 0, none⟩) ps.length cp) ps.length (cellsPl ps) → Below w.heap.size w W → w.heap.size ≤ g → ps.length ≤ cp → cp ≤ 9223372036854775807 →
      Calls Try.prog 64 #[.slice (some ⟨g, 0, none⟩) ps.length cp, .func (.func 65) #[] #[]] W fun e w' => e = .returned (.tuple #[]) ∧
        (∃ qs : Pl, Gx.dedup qs = ss ∧ w'.ownsRow w.heap.size 24 2 (.slice (some ⟨g, 0, none⟩) ps.length cp) ps.length (cellsPl qs)) ∧ Below w.heap.size w w' := fun W g cp ho hb hg hc hc2 => by
    have hgl : g < W.heap.size := by
      rcases ho.2 with ⟨k, _⟩ | ⟨g', cap', cur, e1, _, hgg, _⟩
      · simp at k
      · simp only [Value.slice.injEq, Option.some.injEq, Addr.mk.injEq, and_true, true_and] at e1
        obtain ⟨rfl, rfl⟩ := e1
        exact (Array.getElem?_eq_some_iff.1 hgg).1
    refine (p_sort W ho hb.size hg hgl (by omega)).mono fun e w' ⟨he, qs, hp, hq, ho', hb'⟩ => ⟨he, ⟨qs, ?_, ho'⟩, hb.trans hb'⟩
    rw [← hss]
    exact Gx.dedup_sort hp hq
  have PK : ∀ (W : World) (g cp : Nat) (qs : Pl), Gx.dedup qs = ss → W.ownsRow w.heap.size 24 2 (.slice (some ⟨g, 0, none⟩) ps.length cp) ps.length (cellsPl qs) → Below w.heap.size w W → w.heap.size ≤ g → ps.length ≤ cp → cp ≤ 9223372036854775807 →
      Calls Try.prog 66 #[.slice (some ⟨g, 0, none⟩) ps.length cp] W fun e w' => e = .returned (.slice (some ⟨g, 0, none⟩) ss.length cp) ∧
        w'.ownsRow w.heap.size 24 2 (.slice (some ⟨g, 0, none⟩) ss.length cp) ss.length (cellsPl ss) ∧ Below w.heap.size w w' := fun W g cp qs hq ho hb hg hc hc2 => by
    refine (p_compact_any W ho hb.size hg (by omega) (by omega) hc hc2).mono fun e w' ⟨he, ho', hb'⟩ => ?_
    rw [hq] at he ho'
    exact ⟨he, ho', hb.trans hb'⟩
  obtain ⟨n, hN⟩ : ∃ n, ps.length = n := ⟨_, rfl⟩
  obtain ⟨m, hM⟩ : ∃ m, ss.length = m := ⟨_, rfl⟩
  rw [hN] at h0 hn hssl PC PS PK
  rw [hN]
  rw [hM] at hssl hss0 hF PK
  have HPC := hide PC
  have HPS := hide PS
  have HPK := hide PK
  have HBS := hide hbs
  have HM := hide hM
  have HF := hide hF
  clear PC PS PK h hb hss hbs hN hM hF
  have g1 : (1 : Int) ≤ (n : Int) := by omega
  by_cases h1 : m = 1
  · subst h1
    have e := (unhide HF).1 rfl
    rw [e, unhide HM]
    clear HBS HF e
    go_enter Try.func34, Try.ntmps34
    go_wp2_with (first
      | (go_at_call 63; (with_reducible refine (unhide HPC).mono ?_); rintro e w1 ⟨v, rfl, ho1, hb1⟩; obtain ⟨g, cp, rfl, hg, hcp, hcp2⟩ := own_some ho1 (by omega); have O1 := hide ho1; have B1 := hide hb1; clear ho1 hb1 HPC)
      | (go_at_call 64; (with_reducible refine (unhide HPS _ _ _ (unhide O1) (unhide B1) hg hcp hcp2).mono ?_); rintro e w2 ⟨rfl, ⟨qs, hq, ho2⟩, hb2⟩; have O2 := hide ho2; have B2 := hide hb2; have HQ := hide hq; clear ho2 hb2 hq HPS)
      | (go_at_call 66; (with_reducible refine (unhide HPK _ _ _ _ (unhide HQ) (unhide O2) (unhide B2) hg hcp hcp2).mono ?_); rintro e w3 ⟨rfl, ho3, hb3⟩; have O3 := hide ho3; have B3 := hide hb3; clear ho3 hb3 HPK))
    exact bodyPost_ret (by simp [results, Try.results34, go_sem]) rfl ⟨_, rfl, unhide O3, unhide B3⟩
  · have h2 : (m : Int) ≠ 1 := by omega
    have h3 : ((m : Int) == 1) = false := by simpa using h2
    obtain ⟨a, ha⟩ : ∃ a, (turnsL ss).length = a := ⟨_, rfl⟩
    obtain ⟨b, hb⟩ : ∃ b, (turnsL ss.reverse).length = b := ⟨_, rfl⟩
    have e := (unhide HF).2 h1
    rw [ha, hb] at e
    have ha0 : 0 < a := by rw [← ha]; exact turnsL_pos (by rw [unhide HM]; exact hss0)
    have hb0 : 0 < b := by rw [← hb]; exact turnsL_pos (by simp [unhide HM]; exact hss0)
    have ha1 : a ≤ m := by rw [← ha, ← unhide HM]; exact turnsL_len ss
    have hb1 : b ≤ m := by rw [← hb, ← unhide HM]; have := turnsL_len ss.reverse; simpa using this
    have P1 : ∀ (W : World) (g cp : Nat), W.ownsRow w.heap.size 24 2 (.slice (some ⟨g, 0, none⟩) m cp) m (cellsPl ss) → _ := fun W g cp ho => p_turnsO (cp := cp) ha (unhide HM) hss0 (by omega) (unhide HBS) W ho
    have P2 : ∀ (W : World) (g cp : Nat), W.ownsRow w.heap.size 24 2 (.slice (some ⟨g, 0, none⟩) m cp) m (cellsPl ss.reverse) → _ := fun W g cp ho => p_turnsO (cp := cp) hb (by rw [List.length_reverse]; exact unhide HM) hss0 (by omega) (bdL_sub (unhide HBS) fun p hp => List.mem_reverse.1 hp) W ho
    have HP1 := hide P1
    have HP2 := hide P2
    have HE := hide e
    clear HF P1 P2 e h2
    go_enter Try.func34, Try.ntmps34
    go_wp2_with (first
      | (go_at_call 63; (with_reducible refine (unhide HPC).mono ?_); rintro e w1 ⟨v, rfl, ho1, hb1⟩; obtain ⟨g, cp, rfl, hg, hcp, hcp2⟩ := own_some ho1 (by omega); have O1 := hide ho1; have B1 := hide hb1; clear ho1 hb1 HPC)
      | (go_at_call 64; (with_reducible refine (unhide HPS _ _ _ (unhide O1) (unhide B1) hg hcp hcp2).mono ?_); rintro e w2 ⟨rfl, ⟨qs, hq, ho2⟩, hb2⟩; have O2 := hide ho2; have B2 := hide hb2; have HQ := hide hq; clear ho2 hb2 hq HPS)
      | (go_at_call 66; (with_reducible refine (unhide HPK _ _ _ _ (unhide HQ) (unhide O2) (unhide B2) hg hcp hcp2).mono ?_); rintro e w3 ⟨rfl, ho3, hb3⟩; have O3 := hide ho3; have B3 := hide hb3; clear ho3 hb3 HPK)
      | (go_at_call 67; (with_reducible refine (unhide HP1 _ _ _ (unhide O3)).mono ?_); rintro e w4 ⟨g4, c4, rfl, hg4, hc4, hc4', ho4, hb4⟩; have O4 := hide ho4; have B4 := hide hb4; clear ho4 hb4 HP1)
      | (go_at_call 68; (with_reducible refine (p_reverse _ (own_up (unhide O3) (unhide B4)) (Nat.le_trans (unhide B3).size (up_size (unhide B4))) hg (by omega)).mono ?_); rintro e w5 ⟨rfl, ho5, hb5, hgr⟩; have O5 := hide ho5; have B5 := hide hb5; have GR := hide hgr; clear ho5 hb5 hgr)
      | (go_at_call 67; (with_reducible refine (unhide HP2 _ _ _ (unhide O5)).mono ?_); rintro e w6 ⟨g6, c6, rfl, hg6, hc6, hc6', ho6, hb6⟩; have O6 := hide ho6; have B6 := hide hb6; clear ho6 hb6 HP2))
    obtain ⟨i0, hi, hz0, hz1, hz2⟩ := info_parts info_pt
    have gne : g4 ≠ g := by
      have := own_lt (unhide O3)
      omega
    have OL : w6.ownsRow w.heap.size 24 2 (.slice (some ⟨g4, 0, none⟩) (a - 1) c4) (a - 1) (cellsPl ((turnsL ss).take (a - 1))) := by
      rw [← cellsPl_take]
      exact own_prefix (own_base (own_up ((unhide O4).kept (unhide GR) (.inr (by intro e; cases e; exact gne rfl))) (unhide B6)) (unhide B3).size) (Nat.sub_le _ _)
    have CR := cells_at (own_cells (own_prefix (unhide O6) (Nat.sub_le b 1)  |> (fun h => by rw [cellsPl_take] at h; exact h)))
    have BB : Below w.heap.size w w6 := (((unhide B3).trans ((unhide B4).mono (unhide B3).size)).trans (unhide B5)).trans ((unhide B6).mono (Nat.le_trans (unhide B3).size (Nat.le_trans (up_size (unhide B4)) (unhide B5).size)))
    have lr : ((turnsL ss.reverse).take (b - 1)).length = b - 1 := by rw [List.length_take]; omega
    have HI := hide hi
    have HOL := hide OL
    have HCR := hide CR
    have HBB := hide BB
    have HLR := hide lr
    have HLA := hide ha
    clear hi OL CR BB lr ha hb
    have w1' : IntKind.i64.wrap ((a : Int) - 1) = ((a - 1 : Nat) : Int) := by rw [IntWalk.i64_in _ ⟨by omega, by omega⟩]; omega
    have w2' : IntKind.i64.wrap ((b : Int) - 1) = ((b - 1 : Nat) : Int) := by rw [IntWalk.i64_in _ ⟨by omega, by omega⟩]; omega
    have w3' : ((a - 1 : Nat) : Int) ≤ (c4 : Int) := by omega
    have w4' : ((b - 1 : Nat) : Int) ≤ (c6 : Int) := by omega
    have w5' : a - 1 ≤ c4 := by omega
    have w6' : b - 1 ≤ c6 := by omega
    go_region_law (refine step_append_mine _ rfl (.tmp 26) (.tmp 31) 22 rfl w.heap.size 24 i0 _ 2 16 Try.underlying22 (unhide HI) hz0 hz1 hz2 rfl (Nat.zero_lt_succ _) (.slice (some ⟨g4, 0, none⟩) (a - 1) c4) (a - 1) (cellsPl ((turnsL ss).take (a - 1))) (by go_simp; done) (by exact unhide HOL) ⟨g6, 0, none⟩ (b - 1) c6 (cellsPl ((turnsL ss.reverse).take (b - 1))) (by go_simp; done) (by rw [cellsPl_length, unhide HLR]) (by intro j u hj; rw [show (⟨g6, 0, none⟩ : Addr).add j = ⟨g6, 0 + j, none⟩ from Go.WideShapes.add_plain _ _ _]; exact unhide HCR j u hj) (cellsPl_one _) (by unfold maxLen; omega) (by omega) (by exact (unhide HBB).size) ?_; intro v' w7 hown' hgrow)
    have hfin : w7.ownsRow w.heap.size 24 2 v' (Gx.hullF ps).length (cellsPl (Gx.hullF ps)) := by
      rw [unhide HE, cellsPl_append, List.length_append, unhide HLR, List.length_take, unhide HLA, Nat.min_eq_left (Nat.sub_le _ _)]
      exact hown'
    have hbel : Below w.heap.size w w7 := Below.grown (Below.drew (unhide HBB)) hgrow (Below.drew (unhide HBB)).size (fun j hj => by cases hj; exact Nat.le_trans (unhide B3).size hg4)
    have HFIN := hide hfin
    have HBEL := hide hbel
    clear hfin hbel hown' hgrow
    go_wp2
    exact bodyPost_ret (by simp [results, Try.results34, go_sem]) rfl ⟨_, rfl, unhide HFIN, unhide HBEL⟩
end Go.Proofs.Ytihckoenfklhpaa
