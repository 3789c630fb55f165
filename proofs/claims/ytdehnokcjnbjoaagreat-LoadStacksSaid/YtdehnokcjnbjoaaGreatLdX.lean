/- Any load, copied. -/
import Derived.Test.YtdehnokcjnbjoaaGreatLdW
import Derived.Test.YtdehnokcjnbjoaaGreatPkTurn
namespace Go.Proofs.YtdehnokcjnbjoaaGreat
open Go.RowKit Go.Proofs.Gn
attribute [local go_sem] Oper.semAt_some
set_option linter.unusedVariables false
theorem nilEyN (n c : Nat) (w : World) : (binOp BinOp.eql 23 (.slice none n c) (.slice none 0 0)).run Tryz.prog w = .ok (.bool true) w := by
  first | (kernel_rfl) | (simp [binOp, go_sem]; done) | (simp [binOp, Op.equalIn, run_underlying Tryz.underlying23, go_sem])
/-- A list of eyes of its own, behind z. -/
def RowY (W : World) (z : Nat) (G : Option Addr) (ys : List Eye) : Prop := ys = [] ∨ ∃ g, G = some ⟨g, 0, none⟩ ∧ Bx W g (cellsEy ys) ∧ z ≤ g
theorem RowY.eyes {W : World} {z : Nat} {G : Option Addr} {ys : List Eye} (h : RowY W z G ys) : Eyes W G ys := by
  rcases h with h | ⟨g, rfl, h, _⟩
  · exact .inl h
  · exact eyes_bx h
theorem RowY.ups {W W' : World} {z : Nat} {G : Option Addr} {ys : List Eye} (h : RowY W z G ys) (hu : Up W W') : RowY W' z G ys := by
  rcases h with h | ⟨g, rfl, h, hz⟩
  · exact .inl h
  · exact .inr ⟨g, rfl, bx_up h hu, hz⟩
theorem RowY.far {W : World} {z : Nat} {G : Option Addr} {ys : List Eye} (h : RowY W z G ys) {p : Addr} (hp : p.block < z) (u : Value) : RowY (W.setCell p u) z G ys := by
  rcases h with h | ⟨g, rfl, h, hz⟩
  · exact .inl h
  · exact .inr ⟨g, rfl, bx_far h (by omega) u, hz⟩
theorem RowY.le {W : World} {z y : Nat} {G : Option Addr} {ys : List Eye} (h : RowY W z G ys) (hy : y ≤ z) : RowY W y G ys := by
  rcases h with h | ⟨g, rfl, h, hz⟩
  · exact .inl h
  · exact .inr ⟨g, rfl, h, by omega⟩
set_option maxRecDepth 100000 in
set_option maxHeartbeats 8000000 in
theorem p_CloneY0 (a : Addr) (cap : Nat) (w : World) :
    Calls Tryz.prog 135 #[.slice (some a) 0 cap] w fun e w' => ∃ G c, e = .returned (.slice G 0 c) ∧ Up w w' := by
  obtain ⟨i1', hj, hy0, hy1, hy2⟩ := info_parts info_ey
  have HJ := hide hj
  clear hj
  have hnil := fun W => nilEyS a 0 cap W
  go_enter Tryz.func135, Tryz.ntmps135
  go_wp2_with (at_builtin; refine wpList_append_own _ rfl _ _ 23 rfl w.heap.size 86 i1' _ 4 32 Tryz.underlying23 (unhide HJ) hy0 hy1 hy2 rfl (by decide) (.slice (some ⟨w.heap.size, 0, none⟩) 0 0) 0 [] rfl (World.ownsRow_made w #[] 0 (Nat.le_refl _) (by unfold maxLen; omega) rfl) a 0 cap [] rfl rfl (fun j u hj => by simp at hj) (by simp) (by unfold maxLen; omega) (by omega) (by simp) ?_; intro vq W2 hown hgrow _)
  simp only [Nat.zero_add, List.nil_append] at hown
  have U2 : Up w W2 := (up_alloc (up_refl w) _).grown hgrow (up_alloc (up_refl w) _).size (by intro j hj; simp [Value.ownBlock] at hj; omega)
  obtain ⟨G, c, rfl⟩ : ∃ G c, vq = .slice G 0 c := by
    rcases hown.2 with ⟨h1, _⟩ | ⟨g, cq, cur, rfl, _⟩
    · exact ⟨none, 0, h1⟩
    · exact ⟨_, cq, rfl⟩
  clear hown hgrow
  go_wp2_with fail
  go_ret
  exact ⟨⟨G, c, rfl⟩, U2⟩
set_option maxRecDepth 100000 in
set_option maxHeartbeats 8000000 in
theorem p_CloneYn (n cap : Nat) (w : World) :
    Calls Tryz.prog 135 #[.slice none n cap] w fun e w' => e = .returned (.slice none 0 0) ∧ w = w' := by
  have hnil := fun W => nilEyN n cap W
  go_enter Tryz.func135, Tryz.ntmps135
  go_wp2_with fail
  go_ret
  exact ⟨rfl, rfl⟩
theorem p_CloneYA (A : Option Addr) (ys : List Eye) (cap : Nat) (hn : ys.length ≤ 100) (w : World) (hp : Eyes w A ys) :
    Calls Tryz.prog 135 #[.slice A ys.length cap] w fun e w' => ∃ G c, e = .returned (.slice G ys.length c) ∧ RowY w' w.heap.size G ys ∧ Up w w' := by
  by_cases h0 : 0 < ys.length
  · refine (p_CloneYs A ys cap h0 hn w hp).mono ?_
    rintro e w' ⟨g, c, rfl, h1, h2, h3⟩
    exact ⟨_, c, rfl, .inr ⟨g, rfl, h1, h2⟩, h3⟩
  · obtain rfl : ys = [] := List.eq_nil_of_length_eq_zero (by omega)
    cases A with
    | none =>
      refine (p_CloneYn 0 cap w).mono ?_
      rintro e w' ⟨rfl, rfl⟩
      exact ⟨none, 0, rfl, .inl rfl, up_refl _⟩
    | some a =>
      refine (p_CloneY0 a cap w).mono ?_
      rintro e w' ⟨G, c, rfl, h⟩
      exact ⟨G, c, rfl, .inl rfl, h⟩
/-- What stays while a load is copied. -/
def CBY (s : ByteArray) (A : Option Addr) (n cp : Nat) (B : Option Addr) (m cb : Nat) (f : Int) (w wx : World) : Prop := Bx wx w.heap.size [.string s, .slice A n cp, .slice B m cb, .int .i64 f] ∧ Bx wx (w.heap.size + 1) [.string { data := #[] }, .slice none 0 0, .slice none 0 0, .int .i64 0] ∧ Up w wx
set_option maxRecDepth 100000 in
set_option maxHeartbeats 8000000 in
theorem p_cloneA (s : ByteArray) (A : Option Addr) (L : List Pce) (cp : Nat) (B : Option Addr) (ys : List Eye) (cb : Nat) (f : Int) (w : World) (h : Pcs w A L) (hB : Eyes w B ys) (h0 : 0 < L.length) (hn : L.length ≤ 100) (hm : ys.length ≤ 100) :
    Calls Tryz.prog 98 #[loV s A L.length cp B ys.length cb f] w fun e w' => (∃ g c G d, e = .returned (loV s (some ⟨g, 0, none⟩) L.length c G ys.length d f) ∧ Bx w' g (cellsPc L) ∧ w.heap.size ≤ g ∧ RowY w' (g + 1) G ys) ∧ Up w w' := by
  have HC := hide (fun W (hW : Up w W) => p_ClonePc A L cp h0 hn W (pcs_up h hW))
  have HE := hide (fun W (hW : Up w W) => p_CloneYA B ys cb hm W (eyes_up hB hW))
  have hvl : 0 < (cellsPc L).length := by rw [cellsPc_len]; omega
  generalize hq : cellsPc L = vs at *
  generalize L.length = n at *
  generalize ys.length = m at *
  clear h hq hB
  go_enter Tryz.func98, Tryz.ntmps98
  go_upto_region 1 with fail
  refine at_wpC (fun W0 hW0 => ?_)
  have U0 : Up w W0 := by rw [hW0]; exact (by repeat' (first | (with_reducible exact up_refl _) | (with_reducible assumption) | (with_reducible refine up_alloc ?_ _) | (with_reducible refine up_drewN ?_ _) | (with_reducible refine up_drew ?_) | (with_reducible refine up_set ?_ (by first | (simp; done) | (simp; omega) | omega) _) | (refine up_trans ?_ (by with_reducible assumption))))
  have hz : W0.heap.size = w.heap.size + 2 := by rw [hW0]; simp
  obtain ⟨bA, bR⟩ : Bx W0 w.heap.size [.string s, .slice A n cp, .slice B m cb, .int .i64 f] ∧ Bx W0 (w.heap.size + 1) [.string { data := #[] }, .slice none 0 0, .slice none 0 0, .int .i64 0] := by
    rw [hW0]
    refine ⟨bx_alloc (bx_new w _ _) _, ?_⟩
    have q := bx_new (w.alloc (.cells #[.string s, .slice A n cp, .slice B m cb, .int .i64 f] 25)) [.string { data := #[] }, .slice none 0 0, .slice none 0 0, .int .i64 0] 25
    rw [World.size_alloc] at q
    exact q
  clear hW0
  have H0 : CBY s A n cp B m cb f w W0 := ⟨bA, bR, U0⟩
  have c1 := (bA 1 _ rfl).1
  have c2 := (bA 2 _ rfl).1
  have f1 := (bA 1 _ rfl).2
  have f2 := (bA 2 _ rfl).2
  clear bA bR
  go_region_with (first
      | (go_at_call 134; (with_reducible refine (unhide HC _ (by repeat' (first | (with_reducible exact up_refl _) | (with_reducible assumption) | (with_reducible refine up_alloc ?_ _) | (with_reducible refine up_drewN ?_ _) | (with_reducible refine up_drew ?_) | (with_reducible refine up_set ?_ (by first | (simp; done) | (simp; omega) | omega) _) | (refine up_trans ?_ (by with_reducible assumption))))).mono ?_); rintro e w2 ⟨g, c, rfl, hg, hgz, hu2⟩; have d1 := up_cell hu2 c1; have d2 := up_cell hu2 c2; have e1 := up_frozen hu2 c1 f1; have e2 := up_frozen hu2 c2 f2)
      | (go_at_call 135; (with_reducible refine (unhide HE _ (by repeat' (first | (with_reducible exact up_refl _) | (with_reducible assumption) | (with_reducible refine up_alloc ?_ _) | (with_reducible refine up_drewN ?_ _) | (with_reducible refine up_drew ?_) | (with_reducible refine up_set ?_ (by first | (simp; done) | (simp; omega) | omega) _) | (refine up_trans ?_ (by with_reducible assumption))))).mono ?_); rintro e w3 ⟨G, d, rfl, hG, hu3⟩; have d1' := up_cell hu3 d1; have d2' := up_cell hu3 d2; have e1' := up_frozen hu3 d1 e1; have e2' := up_frozen hu3 d2 e2))
  all_goals
    have hw2 : Up W0 w2 := up_trans (by repeat' (first | (with_reducible exact up_refl _) | (with_reducible assumption) | (with_reducible refine up_alloc ?_ _) | (with_reducible refine up_drewN ?_ _) | (with_reducible refine up_drew ?_) | (with_reducible refine up_set ?_ (by first | (simp; done) | (simp; omega) | omega) _) | (refine up_trans ?_ (by with_reducible assumption)))) hu2
    have hw3 : Up W0 w3 := up_trans hw2 (up_trans (by repeat' (first | (with_reducible exact up_refl _) | (with_reducible assumption) | (with_reducible refine up_alloc ?_ _) | (with_reducible refine up_drewN ?_ _) | (with_reducible refine up_drew ?_) | (with_reducible refine up_set ?_ (by first | (simp; done) | (simp; omega) | omega) _) | (refine up_trans ?_ (by with_reducible assumption)))) hu3)
    have h23 : Up w2 w3 := up_trans (by repeat' (first | (with_reducible exact up_refl _) | (with_reducible assumption) | (with_reducible refine up_alloc ?_ _) | (with_reducible refine up_drewN ?_ _) | (with_reducible refine up_drew ?_) | (with_reducible refine up_set ?_ (by first | (simp; done) | (simp; omega) | omega) _) | (refine up_trans ?_ (by with_reducible assumption)))) hu3
    have hgl : g < w2.heap.size := bx_lt hg hvl
    have Y3 : RowY w3 (g + 1) G ys := hG.le (by first | exact hgl | (simp; omega))
    have hgg : w.heap.size + 2 ≤ g := by
      have := hgz
      first | (simp [hz] at this; omega) | omega
    have A9 := bx_set (bx_set (bx_up H0.1 hw3) 1 (.slice (some ⟨g, 0, none⟩) n c)) 2 (.slice G m d)
    have R9 := bx_far (bx_far (bx_up H0.2.1 hw3) (p := ⟨w.heap.size, 1, none⟩) (by simp only; omega) (.slice (some ⟨g, 0, none⟩) n c)) (p := ⟨w.heap.size, 2, none⟩) (by simp only; omega) (.slice G m d)
    have G9 := bx_far (bx_far (bx_up hg h23) (p := ⟨w.heap.size, 1, none⟩) (by simp only; omega) (.slice (some ⟨g, 0, none⟩) n c)) (p := ⟨w.heap.size, 2, none⟩) (by simp only; omega) (.slice G m d)
    have U9 := up_set (up_set (up_trans H0.2.2 hw3) (p := ⟨w.heap.size, 1, none⟩) (by simp only; omega) (.slice (some ⟨g, 0, none⟩) n c)) (p := ⟨w.heap.size, 2, none⟩) (by simp only; omega) (.slice G m d)
    have Y9 := (Y3.far (p := ⟨w.heap.size, 1, none⟩) (by simp only; omega) (.slice (some ⟨g, 0, none⟩) n c)).far (p := ⟨w.heap.size, 2, none⟩) (by simp only; omega) (.slice G m d)
    generalize (w3.setCell ⟨w.heap.size, 1, none⟩ (.slice (some ⟨g, 0, none⟩) n c)).setCell ⟨w.heap.size, 2, none⟩ (.slice G m d) = W9 at A9 R9 G9 U9 Y9 ⊢
    clear hg hgz hu2 hu3 hw2 hw3 h23 hG Y3 c1 c2 f1 f2 d1 d2 e1 e2 d1' d2' e1' e2' H0 HC HE hz U0
    have c0 := (A9 0 _ rfl).1
    have c1 := (A9 1 _ rfl).1
    have c2 := (A9 2 _ rfl).1
    have c3 := (A9 3 _ rfl).1
    have d0 := (R9 0 _ rfl).1
    have d1 := (R9 1 _ rfl).1
    have d2 := (R9 2 _ rfl).1
    have d3 := (R9 3 _ rfl).1
    have e0 := (R9 0 _ rfl).2
    have e1 := (R9 1 _ rfl).2
    have e2 := (R9 2 _ rfl).2
    have e3 := (R9 3 _ rfl).2
    go_wp2_with fail
    have B9 := bx_set (bx_set (bx_set (bx_set R9 0 (.string s)) 1 (.slice (some ⟨g, 0, none⟩) n c)) 2 (.slice G m d)) 3 (.int .i64 f)
    have V9 := up_set (up_set (up_set (up_set U9 (p := ⟨w.heap.size + 1, 0, none⟩) (by simp only; omega) (.string s)) (p := ⟨w.heap.size + 1, 1, none⟩) (by simp only; omega) (.slice (some ⟨g, 0, none⟩) n c)) (p := ⟨w.heap.size + 1, 2, none⟩) (by simp only; omega) (.slice G m d)) (p := ⟨w.heap.size + 1, 3, none⟩) (by simp only; omega) (.int .i64 f)
    have K9 := bx_far (bx_far (bx_far (bx_far G9 (p := ⟨w.heap.size + 1, 0, none⟩) (by simp only; omega) (.string s)) (p := ⟨w.heap.size + 1, 1, none⟩) (by simp only; omega) (.slice (some ⟨g, 0, none⟩) n c)) (p := ⟨w.heap.size + 1, 2, none⟩) (by simp only; omega) (.slice G m d)) (p := ⟨w.heap.size + 1, 3, none⟩) (by simp only; omega) (.int .i64 f)
    have YA := (((Y9.far (p := ⟨w.heap.size + 1, 0, none⟩) (by simp only; omega) (.string s)).far (p := ⟨w.heap.size + 1, 1, none⟩) (by simp only; omega) (.slice (some ⟨g, 0, none⟩) n c)).far (p := ⟨w.heap.size + 1, 2, none⟩) (by simp only; omega) (.slice G m d)).far (p := ⟨w.heap.size + 1, 3, none⟩) (by simp only; omega) (.int .i64 f)
    generalize (((W9.setCell ⟨w.heap.size + 1, 0, none⟩ (.string s)).setCell ⟨w.heap.size + 1, 1, none⟩ (.slice (some ⟨g, 0, none⟩) n c)).setCell ⟨w.heap.size + 1, 2, none⟩ (.slice G m d)).setCell ⟨w.heap.size + 1, 3, none⟩ (.int .i64 f) = WA at B9 V9 K9 YA ⊢
    have z0 := (B9 0 _ rfl).1
    have z1 := (B9 1 _ rfl).1
    have z2 := (B9 2 _ rfl).1
    have z3 := (B9 3 _ rfl).1
    refine bodyPost_ret (v := loV s (some ⟨g, 0, none⟩) n c G m d f) (by simp [results, Tryz.f98, go_sem, z0, z1, z2, z3]) rfl ?_
    exact ⟨⟨g, c, G, d, rfl, K9, by omega, YA⟩, V9⟩
end Go.Proofs.YtdehnokcjnbjoaaGreat
