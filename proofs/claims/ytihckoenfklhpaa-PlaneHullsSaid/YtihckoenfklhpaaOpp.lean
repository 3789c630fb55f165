/- A hull turned by a half turn, and the differences of two hulls, as the program makes them. -/
import Derived.Test.YtihckoenfklhpaaSumsW
import Derived.Test.YtihckoenfklhpaaSumM
import Derived.Test.YtihckoenfklhpaaCmp
import Derived.Test.YtihckoenfklhpaaUpQ
namespace Go.Proofs.Ytihckoenfklhpaa
open Go.RowKit Go.Proofs.Gn
/-- The first k of them. -/
def opK (b : Pl) (l k : Nat) : Pl := (List.range k).map fun i => Gx.ng (Gx.gc b (l + i))
theorem opK_all (b : Pl) (l : Nat) : opK b l b.length = Gx.opL b l := rfl
theorem opK_succ (b : Pl) (l k : Nat) : opK b l (k + 1) = opK b l k ++ [Gx.ng (Gx.gc b (l + k))] := by simp [opK, List.range_succ]
theorem opK_own {W : World} {B : Nat} {v : Value} {b : Pl} {l k : Nat} {x y : Int} (h : Gx.ng (Gx.gc b (l + k)) = (x, y)) (ho : W.ownsRow B 24 2 v (k + 1) (cellsPl (opK b l k) ++ [.int .i64 x, .int .i64 y])) : W.ownsRow B 24 2 v (k + 1) (cellsPl (opK b l (k + 1))) := by
  rw [opK_succ, h, cellsPl_snoc]
  exact ho
theorem le2_not {a b : Int × Int} (h : ¬ Gx.lt2 b a) : Gx.le2 a b := by
  rcases Gx.lt2_tri a b with c | c | c
  · exact .inr c
  · exact .inl c
  · exact absurd c h
/-- The last corner of the order. -/
def Great (b : Pl) (l : Nat) : Prop := l < b.length ∧ ∀ x ∈ b, Gx.le2 x (Gx.g b l)
set_option maxRecDepth 100000 in
set_option maxHeartbeats 8000000 in
theorem p_opposite (bb ob : Nat) (b : Pl) (cb : Nat) (w : World)
    (hcb : ∀ k (h : k < b.length), w.cell? ⟨bb, ob + k * 2, none⟩ = some (.int .i64 b[k].1) ∧ w.cell? ⟨bb, ob + k * 2 + 1, none⟩ = some (.int .i64 b[k].2))
    (b0 : 0 < b.length) (lb : b.length ≤ 1000) (hbb : BdL b) :
    Calls Try.prog 78 #[.slice (some ⟨bb, ob, none⟩) b.length cb] w fun e w' => ∃ v, e = .returned v ∧ ∃ l, Great b l ∧ w'.ownsRow w.heap.size 24 2 v b.length (cellsPl (Gx.opL b l)) ∧ Up w w' := by
  have HCB := hide hcb
  have HBB := hide hbb
  clear hcb hbb
  obtain ⟨n, hn⟩ : ∃ n, b.length = n := ⟨_, rfl⟩
  rw [hn] at b0 lb ⊢
  have HN := hide hn
  clear hn
  obtain ⟨i0, hi, hz0, hz1, hz2⟩ := info_parts info_pt
  have HI := hide hi
  clear hi
  go_enter Try.func78, Try.ntmps78
  go_wp2_with fail
  go_loopw [3, 10] (fun s3 s10 wr => ∃ k l : Nat, k ≤ n ∧ l < n ∧ s10 = .int .i64 k ∧ s3 = .int .i64 l ∧ (∀ i, i < k → Gx.le2 (Gx.g b i) (Gx.g b l)) ∧ Up w wr) (fun _ s10 _ => n - (intOf s10).toNat)
  case atStart => exact ⟨0, 0, Nat.zero_le _, b0, rfl, rfl, fun i h => by omega, up_refl _⟩
  case round =>
    obtain ⟨k, l, hk, hl, rfl, rfl, hg, hu⟩ := hrel
    have HG := hide hg
    clear hg
    by_cases hlt : k < n
    · have l1 : k < b.length := by rw [unhide HN]; exact hlt
      have l2 : l < b.length := by rw [unhide HN]; exact hl
      obtain ⟨x0, x1⟩ := pts_g (unhide HCB) l1
      obtain ⟨y0, y1⟩ := pts_g (unhide HCB) l2
      have hpos := cmp2_pos (Gx.g b k) (Gx.g b l)
      obtain ⟨X, hX⟩ : ∃ X, Gx.g b k = X := ⟨_, rfl⟩
      obtain ⟨Y, hY⟩ : ∃ X, Gx.g b l = X := ⟨_, rfl⟩
      have HX := hide hX
      have HY := hide hY
      rw [hX] at x0 x1 hpos
      rw [hY] at y0 y1 hpos
      obtain ⟨p1, p2⟩ := X
      obtain ⟨q1, q2⟩ := Y
      simp only at x0 x1 y0 y1
      have PC := fun W : World => p_compare p1 p2 q1 q2 W
      obtain ⟨C, hC⟩ : ∃ C, cmp2 p1 p2 q1 q2 = C := ⟨_, rfl⟩
      rw [hC] at PC
      have hpos2 : 0 < C ↔ Gx.lt2 (q1, q2) (p1, p2) := by rw [← hC]; exact hpos
      have HPOS := hide hpos2
      have HPC := hide PC
      have c0 := up_cell hu x0
      have c1 := up_cell hu x1
      have d0 := up_cell hu y0
      have d1 := up_cell hu y1
      have k1 : (k : Int) < (n : Int) := by omega
      have k2 : (l : Int) < (n : Int) := by omega
      clear x0 x1 y0 y1 hX hY hpos hC hpos2 PC l1 l2
      go_upto_region 5 with fail
      go_cut [21] (fun s wx => s = .bool (decide (0 < C)) ∧ Up wr wx)
      case first => as_aux_lemma =>
        have B := bx_new wr [.int .i64 p1, .int .i64 p2] 24
        have m0 : ∀ p : UpW (wr.alloc (.cells #[.int .i64 p1, .int .i64 p2] 24)), p.v.cell? ⟨wr.heap.size, 0, none⟩ = some (.int .i64 p1) := fun p => (bx2 (bx_up B p.up)).1
        have m1 : ∀ p : UpW (wr.alloc (.cells #[.int .i64 p1, .int .i64 p2] 24)), p.v.cell? ⟨wr.heap.size, 1, none⟩ = some (.int .i64 p2) := fun p => (bx2 (bx_up B p.up)).2
        have m2 : ∀ p : UpW (wr.alloc (.cells #[.int .i64 p1, .int .i64 p2] 24)), p.v.cell? ⟨bb, ob + l * 2, none⟩ = some (.int .i64 q1) := fun p => up_cell p.up (alloc_cell _ d0)
        have m3 : ∀ p : UpW (wr.alloc (.cells #[.int .i64 p1, .int .i64 p2] 24)), p.v.cell? ⟨bb, ob + l * 2 + 1, none⟩ = some (.int .i64 q2) := fun p => up_cell p.up (alloc_cell _ d1)
        clear B
        refine wp_upq (by kernel_rfl) (by kernel_rfl) ?_; (repeat (go_big_quiet_step ((go_at_call 65; exact upq (unhide HPC _))))); refine wpQuiet_nil ?_; intro _ hw'; obtain ⟨pq, hw''⟩ := hw'; subst hw''; have hpq := pq.up
        go_wp2_with fail
        go_meet
        exact ⟨rfl, up_trans (up_alloc (up_refl _) _) hpq⟩
      case rest =>
      obtain ⟨rfl, hu2⟩ := hcut
      have hU : Up w wc := up_trans hu hu2
      clear hu2 c0 c1 d0 d1
      by_cases hC : 0 < C
      · have hd : decide (0 < C) = true := decide_eq_true hC
        have hg2 : ∀ i, i < k + 1 → Gx.le2 (Gx.g b i) (Gx.g b k) := fun i hi => by
          rcases Nat.lt_or_ge i k with c | c
          · have h1 := unhide HG i c
            rw [unhide HY] at h1
            rw [unhide HX]
            exact Gx.le2_trans h1 (.inr ((unhide HPOS).1 hC))
          · obtain rfl : i = k := by omega
            exact .inl rfl
        have HG2 := hide hg2
        clear hg2
        go_wp2_with fail
        first
          | exact ⟨⟨k + 1, k, by omega, by omega, by go_num, rfl, unhide HG2, hU⟩, by simp [intOf]; omega⟩
          | (go_roundw; (case rel => exact ⟨k + 1, k, by omega, by omega, by go_num, rfl, unhide HG2, hU⟩); (case measure => simp [intOf]; omega))
      · have hd : decide (0 < C) = false := decide_eq_false hC
        have hg2 : ∀ i, i < k + 1 → Gx.le2 (Gx.g b i) (Gx.g b l) := fun i hi => by
          rcases Nat.lt_or_ge i k with c | c
          · exact unhide HG i c
          · obtain rfl : i = k := by omega
            rw [unhide HX, unhide HY]
            exact le2_not fun h => hC ((unhide HPOS).2 h)
        have HG2 := hide hg2
        have hC' : C ≤ 0 := by omega
        clear hg2 hC
        go_wp2_with fail
        first
          | exact ⟨⟨k + 1, l, by omega, by omega, by go_num, rfl, unhide HG2, hU⟩, by simp [intOf]; omega⟩
          | (go_roundw; (case rel => exact ⟨k + 1, l, by omega, by omega, by go_num, rfl, unhide HG2, hU⟩); (case measure => simp [intOf]; omega))
    · have hgm : ∀ x ∈ b, Gx.le2 x (Gx.g b l) := fun x hx => by
        obtain ⟨i, hi, rfl⟩ := Gx.mem_g hx
        rw [unhide HN] at hi
        exact unhide HG i (by omega)
      have HGM : Hid (Great b l) := hide ⟨by rw [unhide HN]; exact hl, hgm⟩
      have k1 : ¬ (k : Int) < (n : Int) := by omega
      clear hgm HG
      go_wp2_with (at_make; refine wpList_make_own _ rfl _ _ 22 rfl w.heap.size 24 i0 _ 2 Try.underlying22 (unhide HI) hz0 hz1 .i64 .i64 _ n rfl rfl rfl (by rw [hz2]; omega) (by unfold maxLen; omega) hu.size ?_; intro w1 hown hgrow)
      have hu1 : Up w w1 := hu.grown hgrow hu.size (fun k e => by cases e)
      obtain ⟨v0, hv0⟩ : ∃ v, v = Value.slice (some ⟨wr.heap.size, 0, none⟩) 0 n := ⟨_, rfl⟩
      rw [← hv0] at hown ⊢
      have HO0 := hide hown
      clear hown hgrow hv0 hlt k1 hk
      go_loopw [6, 29] (fun s6 s29 wr => ∃ k : Nat, k ≤ n ∧ s29 = .int .i64 k ∧ wr.ownsRow w.heap.size 24 2 s6 k (cellsPl (opK b l k)) ∧ Up w wr) (fun _ s29 _ => n - (intOf s29).toNat)
      case atStart => exact ⟨0, Nat.zero_le _, rfl, unhide HO0, hu1⟩
      case round =>
        clear HO0 hu hu1
        obtain ⟨j, hj, rfl, hown, hu⟩ := hrel
        have HO := hide hown
        by_cases hlt : j < n
        · have l1 : (l + j) % n < b.length := by rw [unhide HN]; exact Nat.mod_lt _ b0
          obtain ⟨x0, x1⟩ := pts_g (unhide HCB) l1
          have bx := bdL_get (unhide HBB) l1
          have e1 : Gx.gc b (l + j) = Gx.g b ((l + j) % n) := by unfold Gx.gc; rw [unhide HN]
          obtain ⟨X, hX⟩ : ∃ X, Gx.g b ((l + j) % n) = X := ⟨_, rfl⟩
          rw [hX] at x0 x1 bx e1
          obtain ⟨p1, p2⟩ := X
          have e2 : Gx.ng (Gx.gc b (l + j)) = (0 - p1, 0 - p2) := by rw [e1]; unfold Gx.ng; simp
          have HE := hide e2
          simp only at x0 x1 bx
          obtain ⟨M, hM⟩ : ∃ M, (l + j) % n = M := ⟨_, rfl⟩
          rw [hM] at x0 x1 l1
          rw [unhide HN] at l1
          have t1 : ((l : Int) + (j : Int)).tmod (n : Int) = (M : Int) := by rw [← hM, show (l : Int) + (j : Int) = ((l + j : Nat) : Int) by omega]; rfl
          have T1 := hide t1
          have k2 : IntKind.i64.wrap ((l : Int) + (j : Int)) = (l : Int) + (j : Int) := IntWalk.i64_in _ ⟨by omega, by omega⟩
          have k3 : (j : Int) < (n : Int) := by omega
          have k4 : (M : Int) < (n : Int) := by omega
          have k5 : ¬ n = 0 := by omega
          have PM : ∀ W : World, Calls Try.prog 80 #[pt 0 0, pt p1 p2] W fun e w' => e = .returned (pt (0 - p1) (0 - p2)) ∧ Up W w' := fun W => by
            unfold Bd at bx
            exact p_minus 0 0 p1 p2 W (by omega) (by omega) (by omega) (by omega)
          have HPM := hide PM
          obtain ⟨u1, hu1⟩ : ∃ u, 0 - p1 = u := ⟨_, rfl⟩
          obtain ⟨u2, hu2⟩ : ∃ u, 0 - p2 = u := ⟨_, rfl⟩
          rw [hu1, hu2] at HPM HE
          have c0 := up_cell hu x0
          have c1 := up_cell hu x1
          clear hown x0 x1 bx e1 e2 hX hM t1 PM hu1 hu2
          have t1 := unhide T1
          go_wp2_with (first
            | (go_at_call 80; (with_reducible refine (unhide HPM _).mono ?_); rintro e w2 ⟨rfl, hb2⟩)
            | (at_builtin; refine wpList_append_own _ rfl (.tmp 32) (.tmp 44) 22 rfl w.heap.size 24 i0 _ 2 16 Try.underlying22 (unhide HI) hz0 hz1 hz2 rfl (by decide) _ j (cellsPl (opK b l j)) rfl ((own_up (unhide HO) hb2).alloc _) ⟨w2.heap.size, 0, none⟩ 1 1 [.int .i64 u1, .int .i64 u2] rfl rfl (two_new _ _ _ _) (by intro u hu; simp at hu; rcases hu with rfl | rfl <;> rfl) (by unfold maxLen; omega) (by omega) (by have := (up_trans hu hb2).size; simp; omega) ?_; intro v' w3 hown' hgrow _))
          have R1 := opK_own (unhide HE) hown'
          have R2 : Up w w3 := own_grow ((own_up (unhide HO) hb2).alloc (.cells #[.int .i64 u1, .int .i64 u2] 24)) (Nat.le_refl _) (up_alloc (up_trans hu hb2) _) hgrow
          first
            | exact ⟨⟨j + 1, by omega, by go_num, R1, R2⟩, by simp [intOf]; omega⟩
            | (go_roundw; (case rel => exact ⟨j + 1, by omega, by go_num, R1, R2⟩); (case measure => simp [intOf]; omega))
        · obtain rfl : j = n := by omega
          have e : opK b l j = Gx.opL b l := by rw [← opK_all, unhide HN]
          rw [e] at hown
          have HO2 := hide hown
          have k3 : ¬ (j : Int) < (j : Int) := by omega
          clear hown HO e
          go_wp2_with fail
          exact bodyPost_ret (by simp [results, Try.results78, go_sem]) rfl ⟨_, rfl, l, unhide HGM, unhide HO2, hu⟩
theorem bdL_opL {b : Pl} (h : BdL b) (hb : b ≠ []) (l : Nat) : BdL (Gx.opL b l) := fun p hp => by
  have := h _ ((Gx.mem_opL hb l p).1 hp)
  unfold Bd Gx.ng at *
  simp only at this
  omega
/-- The differences of two hulls: a polygon D. -/
theorem p_differences (ba oa bb ob : Nat) (a b : Pl) (ca cb : Nat) (w : World)
    (hca : ∀ k (h : k < a.length), w.cell? ⟨ba, oa + k * 2, none⟩ = some (.int .i64 a[k].1) ∧ w.cell? ⟨ba, oa + k * 2 + 1, none⟩ = some (.int .i64 a[k].2))
    (hcb : ∀ k (h : k < b.length), w.cell? ⟨bb, ob + k * 2, none⟩ = some (.int .i64 b[k].1) ∧ w.cell? ⟨bb, ob + k * 2 + 1, none⟩ = some (.int .i64 b[k].2))
    (la : a.length ≤ 1000) (lb : b.length ≤ 1000) (hba : BdL a) (hbb : BdL b) (Pa : Gx.Poly a) (Pb : Gx.Poly b) :
    Calls Try.prog 50 #[.slice (some ⟨ba, oa, none⟩) a.length ca, .slice (some ⟨bb, ob, none⟩) b.length cb] w fun e w' => ∃ v, e = .returned v ∧ ∃ D l, Gx.Path a (Gx.opL b l) D ∧ Gx.Diff a b D ∧ D.length ≤ 2000 ∧ w'.ownsRow w.heap.size 24 2 v D.length (cellsPl D) ∧ Up w w' := by
  have a0 : 0 < a.length := List.length_pos_iff.2 Pa.ne
  have b0 : 0 < b.length := List.length_pos_iff.2 Pb.ne
  have PO := fun W (hu : Up w W) => p_opposite bb ob b cb W (fun k h => ⟨up_cell hu (hcb k h).1, up_cell hu (hcb k h).2⟩) b0 lb hbb
  have PS : ∀ (v : Value) (W : World) (l : Nat), Great b l → W.ownsRow w.heap.size 24 2 v b.length (cellsPl (Gx.opL b l)) → Up w W →
      Calls Try.prog 45 #[.slice (some ⟨ba, oa, none⟩) a.length ca, v] W fun e w' => ∃ v, e = .returned v ∧ ∃ D l, Gx.Path a (Gx.opL b l) D ∧ Gx.Diff a b D ∧ D.length ≤ 2000 ∧ w'.ownsRow w.heap.size 24 2 v D.length (cellsPl D) ∧ Up w w' := fun v W l hl ho hu => by
    obtain ⟨g, cap, rfl, _⟩ := own_some ho b0
    have PL := Gx.opL_poly Pb hl.1 hl.2
    obtain ⟨K, hK⟩ := Gx.walk_ex Pa PL
    have el : (Gx.opL b l).length = b.length := Gx.opL_len b l
    have q := p_sums ba oa g 0 a (Gx.opL b l) ca cap W (fun k h => ⟨up_cell hu (hca k h).1, up_cell hu (hca k h).2⟩) (own_cells ho) a0 (by rw [el]; exact b0) la (by rw [el]; exact lb) hba (bdL_opL hbb Pb.ne l) K hK
    rw [el] at q
    refine q.mono fun e w' ⟨v, he, hown, hup⟩ => ⟨v, he, Gx.spL a (Gx.opL b l) (max 1 K), l, hK.path, Gx.diff_of Pb.ne hK.path, ?_, ?_, up_trans hu hup⟩
    · have h1 : Gx.ns a ≤ a.length := by unfold Gx.ns; split <;> omega
      have h2 : Gx.ns (Gx.opL b l) ≤ (Gx.opL b l).length := by unfold Gx.ns; split <;> omega
      have := hK.most
      rw [Gx.spL_len]
      omega
    · rw [Gx.spL_len]
      exact own_base hown hu.size
  have HPO := hide PO
  have HPS := hide PS
  clear PO PS hca hcb hba hbb Pa Pb a0 b0 la lb
  obtain ⟨n, hn⟩ : ∃ n, a.length = n := ⟨_, rfl⟩
  obtain ⟨m, hm⟩ : ∃ n, b.length = n := ⟨_, rfl⟩
  rw [hn] at HPS ⊢
  rw [hm] at HPO HPS ⊢
  clear hn hm
  go_enter Try.func50, Try.ntmps50
  go_wp2_with (first
    | (go_at_call 78; (with_reducible refine (unhide HPO _ (up_refl _)).mono ?_); rintro e w1 ⟨v, rfl, l, hl, ho, hb1⟩; have HL := hide hl; have HO := hide ho; clear hl ho)
    | (go_at_call 45; (with_reducible refine (unhide HPS _ _ l (unhide HL) (unhide HO) hb1).mono ?_); rintro e w2 ⟨v2, rfl, hD⟩; have HD := hide hD; clear hD))
  exact bodyPost_ret (by simp [results, Try.results50, go_sem]) rfl ⟨_, rfl, unhide HD⟩
end Go.Proofs.Ytihckoenfklhpaa

