/- The pairs of neighbours of a hull, as the program yields them: a contract of the iterator. -/
import Derived.RangeFuncNested
import Derived.RangeFuncLeaves
import Derived.Shelf.Abstract
import Derived.Shelf.RegionOpen
import Derived.OwnWalkIn
import Derived.TacticsInMore
import Derived.LoopNIn
import Derived.LoopIn
import Derived.Test.YtihckoenfklhpaaDrop
import Derived.Test.YtihckoenfklhpaaHeldIn
namespace Go.Proofs.Ytihckoenfklhpaa
open Go.RowKit Go.Proofs.Gn Go.Shelf
attribute [local go_sem] Oper.semAt_some
abbrev Pr := (Int × Int) × (Int × Int)
/-- How many sides. -/
def sidesN (ps : Pl) : Nat := if ps.length = 1 then 0 else ps.length
/-- The first k pairs of neighbours. -/
def nbs (ps : Pl) (k : Nat) : List Pr := (List.range k).map fun i => (Gx.g ps i, Gx.gc ps (i + 1))
theorem nbs_succ (ps : Pl) (k : Nat) : nbs ps (k + 1) = nbs ps k ++ [(Gx.g ps k, Gx.gc ps (k + 1))] := by simp [nbs, List.range_succ]
theorem nbs_len (ps : Pl) (k : Nat) : (nbs ps k).length = k := by simp [nbs]
/-- What a round keeps: what was there when the walk began, and the box of the list. -/
def KpN (n₀ Bs : Nat) (W W' : World) : Prop := Below n₀ W W' ∧ ∀ v, W.cell? ⟨Bs, 0, none⟩ = some v → W'.cell? ⟨Bs, 0, none⟩ = some v
theorem kpN_refl (n₀ Bs : Nat) (W : World) : KpN n₀ Bs W W := ⟨Below.refl _ _, fun _ h => h⟩
theorem kpN_trans {n₀ Bs : Nat} {A B C : World} (h : KpN n₀ Bs A B) (k : KpN n₀ Bs B C) : KpN n₀ Bs A C := ⟨h.1.trans k.1, fun v hv => k.2 v (h.2 v hv)⟩
theorem kpN_up {n₀ Bs : Nat} {W W' : World} (h : Up W W') (hn : n₀ ≤ W.heap.size) : KpN n₀ Bs W W' := ⟨h.mono hn, fun _ hv => up_cell h hv⟩
theorem p_sides (F : Fence) (n : Nat) (hf : F.fn 75) (hro : F.round = none) (A : Option Addr) (len cap : Nat) (h : len ≤ 70000) (w : World) :
    CallsIn F n Try.prog 75 #[.slice A len cap] w fun e w' => e = .returned (.int .i64 ((if len = 1 then 0 else len : Nat) : Int)) ∧ w = w' := by
  refine callsIn_of_wp Try.func75 rfl hf ?_ hro
  simp only [Try.ntmps75, List.size_toArray, List.length_cons, List.length_nil, Nat.reduceAdd, Nat.reduceSub, Array.replicate_succ, Array.replicate_zero, List.push_toArray, List.append_toArray, List.nil_append, List.cons_append]
  by_cases h1 : len = 1
  · subst h1
    gi_wp2
    go_ret
    exact ⟨rfl, rfl⟩
  · rw [if_neg h1]
    have h2 : ((len : Int) == 1) = false := by simp; omega
    gi_wp2
    go_ret
    exact ⟨rfl, rfl⟩
theorem n_make (F : Fence) (n : Nat) (hf : F.fn 43) (hro : F.round = none) (A : Option Addr) (len cap : Nat) (w : World) :
    CallsIn F n Try.prog 43 #[.slice A len cap] w fun e w' => e = .returned (.func (.func 74) #[] #[.pointer (some ⟨w.heap.size, 0, none⟩)]) ∧ w' = w.alloc (.cells #[.slice A len cap] 22) := by
  refine callsIn_of_wp Try.func43 rfl hf ?_ hro
  simp only [Try.ntmps43, List.size_toArray, List.length_cons, List.length_nil, Nat.reduceAdd, Nat.reduceSub, Array.replicate_succ, Array.replicate_zero, List.push_toArray, List.append_toArray, List.nil_append, List.cons_append]
  gi_wp2
  go_ret
  exact ⟨rfl, rfl⟩
theorem grown_drew (W : World) : W.grownBy W.drew none := ⟨rfl, rfl, rfl, Nat.le_refl _, fun _ _ _ => rfl⟩
theorem yield_cases {e : Ending} {A B : Prop} (h : (e = .returned (.bool true) ∧ A) ∨ (e = .returned (.bool false) ∧ B)) : ∃ bv : Bool, e = .returned (.bool bv) ∧ ((bv = true ∧ A) ∨ (bv = false ∧ B)) := by
  rcases h with ⟨h1, h2⟩ | ⟨h1, h2⟩
  · exact ⟨true, h1, .inl ⟨rfl, h2⟩⟩
  · exact ⟨false, h1, .inr ⟨rfl, h2⟩⟩
theorem upto_mod (k n : Nat) : ((k : Int) + 1).tmod (n : Int) = (((k + 1) % n : Nat) : Int) := by rw [show (k : Int) + 1 = ((k + 1 : Nat) : Int) by omega]; rfl
set_option maxRecDepth 100000 in
set_option maxHeartbeats 8000000 in
theorem n_iter (F : Fence) (n : Nat) (hf : F.fn 74) (hs : F.fn 75) (hro : F.round = none) (hn : 3 ≤ n) (l Bs n₀ b off cap : Nat) (ps : Pl) (h0 : 0 < ps.length) (hlen : ps.length ≤ 70000) (hb : b < n₀) (J Jx : Nat → World → Prop) (W : World) (hJ' : AbidesFrom W.heap.size J)
    (hY : ∀ k W, J k W → k < sidesN ps → YieldAt F (n - 1) Try.prog l #[pt (Gx.g ps k).1 (Gx.g ps k).2, pt (Gx.gc ps (k + 1)).1 (Gx.gc ps (k + 1)).2] W fun e W' =>
      (e = .returned (.bool true) ∧ J (k + 1) W' ∧ KpN n₀ Bs W W') ∨ (e = .returned (.bool false) ∧ Jx (k + 1) W'))
    (hBs : W.cell? ⟨Bs, 0, none⟩ = some (.slice (some ⟨b, off, none⟩) ps.length cap)) (hc : ∀ k (h : k < ps.length), W.cell? ⟨b, off + k * 2, none⟩ = some (.int .i64 ps[k].1) ∧ W.cell? ⟨b, off + k * 2 + 1, none⟩ = some (.int .i64 ps[k].2)) (hJ0 : J 0 W) :
    CallsIn F n Try.prog 74 #[.func (.yield l) #[] #[], .pointer (some ⟨Bs, 0, none⟩)] W fun e W' => (∃ v, e = .returned v) ∧
      (J (sidesN ps) W' ∨ ∃ k, k ≤ sidesN ps ∧ Jx k W') := by
  have PS := fun W : World => p_sides F (n - 1) hs hro (some ⟨b, off, none⟩) ps.length cap hlen W
  have eS : (if ps.length = 1 then 0 else ps.length) = sidesN ps := rfl
  rw [eS] at PS
  have hsl : sidesN ps ≤ ps.length := by unfold sidesN; split <;> omega
  have HC := hide hc
  obtain ⟨S, hS⟩ : ∃ S, sidesN ps = S := ⟨_, rfl⟩
  obtain ⟨N, hN⟩ : ∃ N, ps.length = N := ⟨_, rfl⟩
  rw [hS] at PS hsl hY ⊢
  rw [hN] at h0 hlen hBs PS hsl
  have HN := hide hN
  have HPS := hide PS
  clear hc hN hS PS eS
  have hmx : Try.prog.follows .mixedOrders = true := by kernel_rfl
  have h1 : 1 ≤ n := by omega
  have h2 : 1 ≤ n - 1 := by omega
  refine callsIn_of_wp Try.func74 rfl hf ?_ hro
  simp only [Try.ntmps74, List.size_toArray, List.length_cons, List.length_nil, Nat.reduceAdd, Nat.reduceSub, Array.replicate_succ, Array.replicate_zero, List.push_toArray, List.append_toArray, List.nil_append, List.cons_append]
  gi_wp2_with (gi_at_call 75; refine (unhide HPS _).mono ?_; rintro e w' ⟨rfl, rfl⟩)
  gi_loopw [6] (fun i wr => ∃ k : Nat, k ≤ S ∧ i = .int .i64 k ∧ J k wr ∧ KpN n₀ Bs W wr) (fun i _ => S - (intOf i).toNat)
  case atStart => exact ⟨0, Nat.zero_le _, rfl, hJ0, kpN_refl _ _ _⟩
  case round =>
    obtain ⟨k, hk, rfl, hJs, hkp⟩ := hrel
    by_cases hlt : k < S
    · have hl : k < ps.length := by rw [unhide HN]; omega
      have l1 : (k + 1) % N < ps.length := by rw [unhide HN]; exact Nat.mod_lt _ h0
      obtain ⟨a0, a1⟩ := pts_g (unhide HC) hl
      obtain ⟨b0, b1⟩ := pts_g (unhide HC) l1
      have e1 : Gx.g ps ((k + 1) % N) = Gx.gc ps (k + 1) := by unfold Gx.gc; rw [unhide HN]
      rw [e1] at b0 b1
      have hJd : J k wr.drew := hJ' _ _ _ _ hJs (grown_drew wr) (fun r e => by cases e)
      obtain ⟨fn, tmps, assign, body, hy, hR⟩ := hY k wr.drew hJd hlt
      obtain ⟨P, hP⟩ : ∃ P, Gx.g ps k = P := ⟨_, rfl⟩
      obtain ⟨Q, hQ⟩ : ∃ P, Gx.gc ps (k + 1) = P := ⟨_, rfl⟩
      rw [hP] at a0 a1 hy
      rw [hQ] at b0 b1 hy
      obtain ⟨p1, p2⟩ := P
      obtain ⟨q1, q2⟩ := Q
      simp only at a0 a1 b0 b1
      dsimp only at hy
      have c0 : wr.cell? ⟨b, off + k * 2, none⟩ = some (.int .i64 p1) := (hkp.1.cell (p := ⟨b, off + k * 2, none⟩) hb).trans a0
      have c1 : wr.cell? ⟨b, off + k * 2 + 1, none⟩ = some (.int .i64 p2) := (hkp.1.cell (p := ⟨b, off + k * 2 + 1, none⟩) hb).trans a1
      obtain ⟨M, hM⟩ : ∃ M, (k + 1) % N = M := ⟨_, rfl⟩
      rw [hM] at b0 b1 l1
      rw [unhide HN] at l1
      have c2 : wr.cell? ⟨b, off + M * 2, none⟩ = some (.int .i64 q1) := (hkp.1.cell (p := ⟨b, off + M * 2, none⟩) hb).trans b0
      have c3 : wr.cell? ⟨b, off + M * 2 + 1, none⟩ = some (.int .i64 q2) := (hkp.1.cell (p := ⟨b, off + M * 2 + 1, none⟩) hb).trans b1
      have c4 : wr.cell? ⟨Bs, 0, none⟩ = some (.slice (some ⟨b, off, none⟩) N cap) := hkp.2 _ hBs
      have t1 : ((k : Int) + 1).tmod (N : Int) = (M : Int) := by rw [← hM, upto_mod]
      have k1 : IntKind.i64.wrap ((k : Int) + 1) = (k : Int) + 1 := IntWalk.i64_in _ ⟨by omega, by omega⟩
      have k2 : (k : Int) < (N : Int) := by omega
      have k3 : (M : Int) < (N : Int) := by omega
      have k4 : ¬ N = 0 := by omega
      have k5 : (k : Int) < (S : Int) := by omega
      have HR := hide hR
      have HJS := hide hJs
      have HKP := hide hkp
      have T1 := hide t1
      clear hR hJs hkp a0 a1 b0 b1 e1 hP hQ hM hJd t1
      gi_wp2
      have t1 := unhide T1
      refine Hin.AnyS.start hmx (fun wx => wx = wr.drew) 13 ?_
      change Hin.AnyS _ _ _ _ _ _ _ _ _ _ _ (World.drew _)
      (refine Hin.AnyS.take (i := 0) (oi := _) (v := ?_) [0] hro rfl (by kernel_rfl) (by kernel_rfl) (by kernel_rfl) rfl (by kernel_rfl) rfl (by kernel_rfl) (fun _ _ _ h => h) (Or.inl ⟨?_, ?_⟩) ?_ rfl ?_; rotate_left; (· rfl); (· (intro w hSw; (try dsimp only at hSw); subst hSw; go_simp; (try with_reducible rfl); done)); (· (first | (intro w; rfl) | (intro w; go_simp; done))); (try simp only [List.getElem_toArray, List.getElem_cons_zero, List.getElem_cons_succ, Act.put, List.setIfInBounds_toArray, List.set_cons_zero, List.set_cons_succ])); (refine Hin.AnyS.take (i := 1) (oi := _) (v := ?_) [4,3,1] hro rfl (by kernel_rfl) (by kernel_rfl) (by kernel_rfl) rfl (by kernel_rfl) rfl (by kernel_rfl) (fun _ _ _ h => h) (Or.inl ⟨?_, ?_⟩) ?_ rfl ?_; rotate_left; (· rfl); (· (intro w hSw; (try dsimp only at hSw); subst hSw; go_simp; (try with_reducible rfl); done)); (· (first | (intro w; rfl) | (intro w; go_simp; done))); (try simp only [List.getElem_toArray, List.getElem_cons_zero, List.getElem_cons_succ, Act.put, List.setIfInBounds_toArray, List.set_cons_zero, List.set_cons_succ])); (refine Hin.AnyS.take (i := 2) (oi := _) (v := ?_) [4,3,2] hro rfl (by kernel_rfl) (by kernel_rfl) (by kernel_rfl) rfl (by kernel_rfl) rfl (by kernel_rfl) (fun _ _ _ h => h) (Or.inl ⟨?_, ?_⟩) ?_ rfl ?_; rotate_left; (· rfl); (· (intro w hSw; (try dsimp only at hSw); subst hSw; go_simp; (try with_reducible rfl); done)); (· (first | (intro w; rfl) | (intro w; go_simp; done))); (try simp only [List.getElem_toArray, List.getElem_cons_zero, List.getElem_cons_succ, Act.put, List.setIfInBounds_toArray, List.set_cons_zero, List.set_cons_succ])); (refine Hin.AnyS.take (i := 3) (oi := _) (v := ?_) [4,3] hro rfl (by kernel_rfl) (by kernel_rfl) (by kernel_rfl) rfl (by kernel_rfl) rfl (by kernel_rfl) (fun _ _ _ h => h) (Or.inl ⟨?_, ?_⟩) ?_ rfl ?_; rotate_left; (· rfl); (· (intro w hSw; (try dsimp only at hSw); subst hSw; go_simp; (try with_reducible rfl); done)); (· (first | (intro w; rfl) | (intro w; go_simp; done))); (try simp only [List.getElem_toArray, List.getElem_cons_zero, List.getElem_cons_succ, Act.put, List.setIfInBounds_toArray, List.set_cons_zero, List.set_cons_succ])); (refine Hin.AnyS.take (i := 4) (oi := _) (v := ?_) [4] hro rfl (by kernel_rfl) (by kernel_rfl) (by kernel_rfl) rfl (by kernel_rfl) rfl (by kernel_rfl) (fun _ _ _ h => h) (Or.inl ⟨?_, ?_⟩) ?_ rfl ?_; rotate_left; (· rfl); (· (intro w hSw; (try dsimp only at hSw); subst hSw; go_simp; (try with_reducible rfl); done)); (· (first | (intro w; rfl) | (intro w; go_simp; done))); (try simp only [List.getElem_toArray, List.getElem_cons_zero, List.getElem_cons_succ, Act.put, List.setIfInBounds_toArray, List.set_cons_zero, List.set_cons_succ])); (refine Hin.AnyS.take (i := 5) (oi := _) (v := ?_) [12,11,5] hro rfl (by kernel_rfl) (by kernel_rfl) (by kernel_rfl) rfl (by kernel_rfl) rfl (by kernel_rfl) (fun _ _ _ h => h) (Or.inl ⟨?_, ?_⟩) ?_ rfl ?_; rotate_left; (· rfl); (· (intro w hSw; (try dsimp only at hSw); subst hSw; go_simp; (try with_reducible rfl); done)); (· (first | (intro w; rfl) | (intro w; go_simp; done))); (try simp only [List.getElem_toArray, List.getElem_cons_zero, List.getElem_cons_succ, Act.put, List.setIfInBounds_toArray, List.set_cons_zero, List.set_cons_succ])); (refine Hin.AnyS.take (i := 6) (oi := _) (v := ?_) [12,11,10,7,6] hro rfl (by kernel_rfl) (by kernel_rfl) (by kernel_rfl) rfl (by kernel_rfl) rfl (by kernel_rfl) (fun _ _ _ h => h) (Or.inl ⟨?_, ?_⟩) ?_ rfl ?_; rotate_left; (· rfl); (· (intro w hSw; (try dsimp only at hSw); subst hSw; go_simp; (try with_reducible rfl); done)); (· (first | (intro w; rfl) | (intro w; go_simp; done))); (try simp only [List.getElem_toArray, List.getElem_cons_zero, List.getElem_cons_succ, Act.put, List.setIfInBounds_toArray, List.set_cons_zero, List.set_cons_succ])); (refine Hin.AnyS.take (i := 7) (oi := _) (v := ?_) [12,11,10,7] hro rfl (by kernel_rfl) (by kernel_rfl) (by kernel_rfl) rfl (by kernel_rfl) rfl (by kernel_rfl) (fun _ _ _ h => h) (Or.inl ⟨?_, ?_⟩) ?_ rfl ?_; rotate_left; (· rfl); (· (intro w hSw; (try dsimp only at hSw); subst hSw; go_simp; (try with_reducible rfl); done)); (· (first | (intro w; rfl) | (intro w; go_simp; done))); (try simp only [List.getElem_toArray, List.getElem_cons_zero, List.getElem_cons_succ, Act.put, List.setIfInBounds_toArray, List.set_cons_zero, List.set_cons_succ])); (refine Hin.AnyS.take (i := 8) (oi := _) (v := ?_) [12,11,10,9,8] hro rfl (by kernel_rfl) (by kernel_rfl) (by kernel_rfl) rfl (by kernel_rfl) rfl (by kernel_rfl) (fun _ _ _ h => h) (Or.inl ⟨?_, ?_⟩) ?_ rfl ?_; rotate_left; (· rfl); (· (intro w hSw; (try dsimp only at hSw); subst hSw; go_simp; (try with_reducible rfl); done)); (· (first | (intro w; rfl) | (intro w; go_simp; done))); (try simp only [List.getElem_toArray, List.getElem_cons_zero, List.getElem_cons_succ, Act.put, List.setIfInBounds_toArray, List.set_cons_zero, List.set_cons_succ])); (refine Hin.AnyS.take (i := 9) (oi := _) (v := ?_) [12,11,10,9] hro rfl (by kernel_rfl) (by kernel_rfl) (by kernel_rfl) rfl (by kernel_rfl) rfl (by kernel_rfl) (fun _ _ _ h => h) (Or.inl ⟨?_, ?_⟩) ?_ rfl ?_; rotate_left; (· rfl); (· (intro w hSw; (try dsimp only at hSw); subst hSw; go_simp; (try with_reducible rfl); done)); (· (first | (intro w; rfl) | (intro w; go_simp; done))); (try simp only [List.getElem_toArray, List.getElem_cons_zero, List.getElem_cons_succ, Act.put, List.setIfInBounds_toArray, List.set_cons_zero, List.set_cons_succ])); (refine Hin.AnyS.take (i := 10) (oi := _) (v := ?_) [12,11,10] hro rfl (by kernel_rfl) (by kernel_rfl) (by kernel_rfl) rfl (by kernel_rfl) rfl (by kernel_rfl) (fun _ _ _ h => h) (Or.inl ⟨?_, ?_⟩) ?_ rfl ?_; rotate_left; (· rfl); (· (intro w hSw; (try dsimp only at hSw); subst hSw; go_simp; (try with_reducible rfl); done)); (· (first | (intro w; rfl) | (intro w; go_simp; done))); (try simp only [List.getElem_toArray, List.getElem_cons_zero, List.getElem_cons_succ, Act.put, List.setIfInBounds_toArray, List.set_cons_zero, List.set_cons_succ])); (refine Hin.AnyS.take (i := 11) (oi := _) (v := ?_) [12,11] hro rfl (by kernel_rfl) (by kernel_rfl) (by kernel_rfl) rfl (by kernel_rfl) rfl (by kernel_rfl) (fun _ _ _ h => h) (Or.inl ⟨?_, ?_⟩) ?_ rfl ?_; rotate_left; (· rfl); (· (intro w hSw; (try dsimp only at hSw); subst hSw; go_simp; (try with_reducible rfl); done)); (· (first | (intro w; rfl) | (intro w; go_simp; done))); (try simp only [List.getElem_toArray, List.getElem_cons_zero, List.getElem_cons_succ, Act.put, List.setIfInBounds_toArray, List.set_cons_zero, List.set_cons_succ])); (refine Hin.AnyS.take (i := 12) (oi := _) (v := ?_) [12] hro rfl (by kernel_rfl) (by kernel_rfl) (by kernel_rfl) rfl (by kernel_rfl) rfl (by kernel_rfl) (fun _ _ _ h => h) (Or.inl ⟨?_, ?_⟩) ?_ rfl ?_; rotate_left; (· rfl); (· (intro w hSw; (try dsimp only at hSw); subst hSw; go_simp; (try with_reducible rfl); done)); (· (first | (intro w; rfl) | (intro w; go_simp; done))); (try simp only [List.getElem_toArray, List.getElem_cons_zero, List.getElem_cons_succ, Act.put, List.setIfInBounds_toArray, List.set_cons_zero, List.set_cons_succ]))
      refine Hin.AnyS.late (i := 13) (o := _) (by kernel_rfl) rfl (by kernel_rfl) rfl (fun K hK => ?_)
      go_simp
      refine (unhide HR).mono ?_
      rintro e W3 hR3
      obtain ⟨bv, rfl, h3⟩ := yield_cases hR3
      clear hR3
      refine hK _ _ ?_
      clear hK K
      (try simp only [List.getElem_toArray, List.getElem_cons_zero, List.getElem_cons_succ, Act.put, List.setIfInBounds_toArray, List.set_cons_zero, List.set_cons_succ])
      refine wpAnyIn_take (i := 14) (oi := _) (v := ?_) hro rfl (by kernel_rfl) (by kernel_rfl) (by kernel_rfl) (fun _ _ _ h => h) ⟨Or.inl ⟨?_, ?_⟩, ?_⟩ ?_
      rotate_left
      · rfl
      · (intro w; go_simp; (try with_reducible rfl); done)
      · intro w; rfl
      (try simp only [List.getElem_toArray, List.getElem_cons_zero, List.getElem_cons_succ, Act.put, List.setIfInBounds_toArray, List.set_cons_zero, List.set_cons_succ])
      refine wpAnyIn_done (by kernel_rfl) ?_ _
      rcases h3 with ⟨rfl, hJ3, hk3⟩ | ⟨rfl, hJx3⟩
      · have H3 := hide hJ3
        have HK3 := hide (kpN_trans (unhide HKP) (kpN_trans ⟨(Below.refl _ wr).drew, fun v h => h⟩ hk3))
        clear hJ3 hk3
        gi_wp2
        go_roundw
        case rel => exact ⟨k + 1, by omega, by go_num, unhide H3, unhide HK3⟩
        case measure => simp [intOf]; omega
      · gi_wp2
        refine bodyPost_ret (results_none rfl _ _ _) rfl ?_
        exact ⟨⟨_, rfl⟩, .inr ⟨k + 1, by omega, hJx3⟩⟩
    · obtain rfl : k = S := by omega
      gi_wp2
      go_end0
      exact ⟨⟨_, rfl⟩, .inl hJs⟩
end Go.Proofs.Ytihckoenfklhpaa
