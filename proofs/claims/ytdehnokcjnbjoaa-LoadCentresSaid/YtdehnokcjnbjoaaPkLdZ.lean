/- load.Shifted: the program's, of a valid load. Lists of pieces and of eyes of which the first have been shifted. Any load, copied. -/
import Derived.Test.YtdehnokcjnbjoaaLdW
import Derived.Test.YtdehnokcjnbjoaaPkOpenLoad
import Derived.Test.YtdehnokcjnbjoaaPkLdV
namespace Go.Proofs.Ytdehnokcjnbjoaa
open Go.RowKit Go.Proofs.Gn
attribute [local go_sem] Oper.semAt_some
set_option linter.unusedVariables false
theorem nilEyN (n c : Nat) (w : World) : (binOp BinOp.eql 23 (.slice none n c) (.slice none 0 0)).run Try.prog w = .ok (.bool true) w := by
  first | (kernel_rfl) | (simp [binOp, go_sem]; done) | (simp [binOp, Op.equalIn, run_underlying Try.underlying23, go_sem])
/-- A list of eyes of its own, behind z. -/
def RowY (W : World) (z : Nat) (G : Option Addr) (ys : List Eye) : Prop := ys = [] ∨ ∃ g, G = some ⟨g, 0, none⟩ ∧ Bx W g (cellsEy ys) ∧ z ≤ g
theorem RowY.eyes {W : World} {z : Nat} {G : Option Addr} {ys : List Eye} (h : RowY W z G ys) : Eyes W G ys := by
  rcases h with h | ⟨g, rfl, h, _⟩
  · exact .inl h
  · exact eyes_bx h
theorem RowY.ups {W W' : World} {z : Nat} {G : Option Addr} {ys : List Eye} (h : RowY W z G ys) (hu : Up W W') : RowY W' z G ys := by
  rcases h with h | ⟨g, rfl, h, hz⟩
  · exact .inl h
  · exact .inr ⟨g, rfl, bx_up h hu, hz⟩
theorem RowY.far {W : World} {z : Nat} {G : Option Addr} {ys : List Eye} (h : RowY W z G ys) {p : Addr} (hp : p.block < z) (u : Value) : RowY (W.setCell p u) z G ys := by
  rcases h with h | ⟨g, rfl, h, hz⟩
  · exact .inl h
  · exact .inr ⟨g, rfl, bx_far h (by omega) u, hz⟩
theorem RowY.le {W : World} {z y : Nat} {G : Option Addr} {ys : List Eye} (h : RowY W z G ys) (hy : y ≤ z) : RowY W y G ys := by
  rcases h with h | ⟨g, rfl, h, hz⟩
  · exact .inl h
  · exact .inr ⟨g, rfl, h, by omega⟩
set_option maxRecDepth 100000 in
set_option maxHeartbeats 8000000 in
theorem p_CloneY0 (a : Addr) (cap : Nat) (w : World) :
    Calls Try.prog 66 #[.slice (some a) 0 cap] w fun e w' => ∃ G c, e = .returned (.slice G 0 c) ∧ Up w w' := by
  obtain ⟨i1', hj, hy0, hy1, hy2⟩ := info_parts info_ey
  have HJ := hide hj
  clear hj
  have hnil := fun W => nilEyS a 0 cap W
  go_enter Try.func66, Try.ntmps66
  go_wp2_with (at_builtin; refine wpList_append_own _ rfl _ _ 23 rfl w.heap.size 78 i1' _ 4 32 Try.underlying23 (unhide HJ) hy0 hy1 hy2 rfl (by decide) (.slice (some ⟨w.heap.size, 0, none⟩) 0 0) 0 [] rfl (World.ownsRow_made w #[] 0 (Nat.le_refl _) (by unfold maxLen; omega) rfl) a 0 cap [] rfl rfl (fun j u hj => by simp at hj) (by simp) (by unfold maxLen; omega) (by omega) (by simp) ?_; intro vq W2 hown hgrow _)
  simp only [Nat.zero_add, List.nil_append] at hown
  have U2 : Up w W2 := (up_alloc (up_refl w) _).grown hgrow (up_alloc (up_refl w) _).size (by intro j hj; simp [Value.ownBlock] at hj; omega)
  obtain ⟨G, c, rfl⟩ : ∃ G c, vq = .slice G 0 c := by
    rcases hown.2 with ⟨h1, _⟩ | ⟨g, cq, cur, rfl, _⟩
    · exact ⟨none, 0, h1⟩
    · exact ⟨_, cq, rfl⟩
  clear hown hgrow
  go_wp2_with fail
  go_ret
  exact ⟨⟨G, c, rfl⟩, U2⟩
set_option maxRecDepth 100000 in
set_option maxHeartbeats 8000000 in
theorem p_CloneYn (n cap : Nat) (w : World) :
    Calls Try.prog 66 #[.slice none n cap] w fun e w' => e = .returned (.slice none 0 0) ∧ w = w' := by
  have hnil := fun W => nilEyN n cap W
  go_enter Try.func66, Try.ntmps66
  go_wp2_with fail
  go_ret
  exact ⟨rfl, rfl⟩
theorem p_CloneYA (A : Option Addr) (ys : List Eye) (cap : Nat) (hn : ys.length ≤ 100) (w : World) (hp : Eyes w A ys) :
    Calls Try.prog 66 #[.slice A ys.length cap] w fun e w' => ∃ G c, e = .returned (.slice G ys.length c) ∧ RowY w' w.heap.size G ys ∧ Up w w' := by
  by_cases h0 : 0 < ys.length
  · refine (p_CloneYs A ys cap h0 hn w hp).mono ?_
    rintro e w' ⟨g, c, rfl, h1, h2, h3⟩
    exact ⟨_, c, rfl, .inr ⟨g, rfl, h1, h2⟩, h3⟩
  · obtain rfl : ys = [] := List.eq_nil_of_length_eq_zero (by omega)
    cases A with
    | none =>
      refine (p_CloneYn 0 cap w).mono ?_
      rintro e w' ⟨rfl, rfl⟩
      exact ⟨none, 0, rfl, .inl rfl, up_refl _⟩
    | some a =>
      refine (p_CloneY0 a cap w).mono ?_
      rintro e w' ⟨G, c, rfl, h⟩
      exact ⟨G, c, rfl, .inl rfl, h⟩
/-- What stays while a load is copied. -/
def CBY (s : ByteArray) (A : Option Addr) (n cp : Nat) (B : Option Addr) (m cb : Nat) (f : Int) (w wx : World) : Prop := Bx wx w.heap.size [.string s, .slice A n cp, .slice B m cb, .int .i64 f] ∧ Bx wx (w.heap.size + 1) [.string { data := #[] }, .slice none 0 0, .slice none 0 0, .int .i64 0] ∧ Up w wx
set_option maxRecDepth 100000 in
set_option maxHeartbeats 8000000 in
theorem p_cloneA (s : ByteArray) (A : Option Addr) (L : List Pce) (cp : Nat) (B : Option Addr) (ys : List Eye) (cb : Nat) (f : Int) (w : World) (h : Pcs w A L) (hB : Eyes w B ys) (h0 : 0 < L.length) (hn : L.length ≤ 100) (hm : ys.length ≤ 100) :
    Calls Try.prog 35 #[loV s A L.length cp B ys.length cb f] w fun e w' => (∃ g c G d, e = .returned (loV s (some ⟨g, 0, none⟩) L.length c G ys.length d f) ∧ Bx w' g (cellsPc L) ∧ w.heap.size ≤ g ∧ RowY w' (g + 1) G ys) ∧ Up w w' := by
  have HC := hide (fun W (hW : Up w W) => p_ClonePc A L cp h0 hn W (pcs_up h hW))
  have HE := hide (fun W (hW : Up w W) => p_CloneYA B ys cb hm W (eyes_up hB hW))
  have hvl : 0 < (cellsPc L).length := by rw [cellsPc_len]; omega
  generalize hq : cellsPc L = vs at *
  generalize L.length = n at *
  generalize ys.length = m at *
  clear h hq hB
  go_enter Try.func35, Try.ntmps35
  go_upto_region 1 with fail
  refine at_wpC (fun W0 hW0 => ?_)
  have U0 : Up w W0 := by rw [hW0]; exact (by repeat' (first | (with_reducible exact up_refl _) | (with_reducible assumption) | (with_reducible refine up_alloc ?_ _) | (with_reducible refine up_drewN ?_ _) | (with_reducible refine up_drew ?_) | (with_reducible refine up_set ?_ (by first | (simp; done) | (simp; omega) | omega) _) | (refine up_trans ?_ (by with_reducible assumption))))
  have hz : W0.heap.size = w.heap.size + 2 := by rw [hW0]; simp
  obtain ⟨bA, bR⟩ : Bx W0 w.heap.size [.string s, .slice A n cp, .slice B m cb, .int .i64 f] ∧ Bx W0 (w.heap.size + 1) [.string { data := #[] }, .slice none 0 0, .slice none 0 0, .int .i64 0] := by
    rw [hW0]
    refine ⟨bx_alloc (bx_new w _ _) _, ?_⟩
    have q := bx_new (w.alloc (.cells #[.string s, .slice A n cp, .slice B m cb, .int .i64 f] 25)) [.string { data := #[] }, .slice none 0 0, .slice none 0 0, .int .i64 0] 25
    rw [World.size_alloc] at q
    exact q
  clear hW0
  have H0 : CBY s A n cp B m cb f w W0 := ⟨bA, bR, U0⟩
  have c1 := (bA 1 _ rfl).1
  have c2 := (bA 2 _ rfl).1
  have f1 := (bA 1 _ rfl).2
  have f2 := (bA 2 _ rfl).2
  clear bA bR
  go_region_with (first
      | (go_at_call 65; (with_reducible refine (unhide HC _ (by repeat' (first | (with_reducible exact up_refl _) | (with_reducible assumption) | (with_reducible refine up_alloc ?_ _) | (with_reducible refine up_drewN ?_ _) | (with_reducible refine up_drew ?_) | (with_reducible refine up_set ?_ (by first | (simp; done) | (simp; omega) | omega) _) | (refine up_trans ?_ (by with_reducible assumption))))).mono ?_); rintro e w2 ⟨g, c, rfl, hg, hgz, hu2⟩; have d1 := up_cell hu2 c1; have d2 := up_cell hu2 c2; have e1 := up_frozen hu2 c1 f1; have e2 := up_frozen hu2 c2 f2)
      | (go_at_call 66; (with_reducible refine (unhide HE _ (by repeat' (first | (with_reducible exact up_refl _) | (with_reducible assumption) | (with_reducible refine up_alloc ?_ _) | (with_reducible refine up_drewN ?_ _) | (with_reducible refine up_drew ?_) | (with_reducible refine up_set ?_ (by first | (simp; done) | (simp; omega) | omega) _) | (refine up_trans ?_ (by with_reducible assumption))))).mono ?_); rintro e w3 ⟨G, d, rfl, hG, hu3⟩; have d1' := up_cell hu3 d1; have d2' := up_cell hu3 d2; have e1' := up_frozen hu3 d1 e1; have e2' := up_frozen hu3 d2 e2))
  all_goals
    have hw2 : Up W0 w2 := up_trans (by repeat' (first | (with_reducible exact up_refl _) | (with_reducible assumption) | (with_reducible refine up_alloc ?_ _) | (with_reducible refine up_drewN ?_ _) | (with_reducible refine up_drew ?_) | (with_reducible refine up_set ?_ (by first | (simp; done) | (simp; omega) | omega) _) | (refine up_trans ?_ (by with_reducible assumption)))) hu2
    have hw3 : Up W0 w3 := up_trans hw2 (up_trans (by repeat' (first | (with_reducible exact up_refl _) | (with_reducible assumption) | (with_reducible refine up_alloc ?_ _) | (with_reducible refine up_drewN ?_ _) | (with_reducible refine up_drew ?_) | (with_reducible refine up_set ?_ (by first | (simp; done) | (simp; omega) | omega) _) | (refine up_trans ?_ (by with_reducible assumption)))) hu3)
    have h23 : Up w2 w3 := up_trans (by repeat' (first | (with_reducible exact up_refl _) | (with_reducible assumption) | (with_reducible refine up_alloc ?_ _) | (with_reducible refine up_drewN ?_ _) | (with_reducible refine up_drew ?_) | (with_reducible refine up_set ?_ (by first | (simp; done) | (simp; omega) | omega) _) | (refine up_trans ?_ (by with_reducible assumption)))) hu3
    have hgl : g < w2.heap.size := bx_lt hg hvl
    have Y3 : RowY w3 (g + 1) G ys := hG.le (by first | exact hgl | (simp; omega))
    have hgg : w.heap.size + 2 ≤ g := by
      have := hgz
      first | (simp [hz] at this; omega) | omega
    have A9 := bx_set (bx_set (bx_up H0.1 hw3) 1 (.slice (some ⟨g, 0, none⟩) n c)) 2 (.slice G m d)
    have R9 := bx_far (bx_far (bx_up H0.2.1 hw3) (p := ⟨w.heap.size, 1, none⟩) (by simp only; omega) (.slice (some ⟨g, 0, none⟩) n c)) (p := ⟨w.heap.size, 2, none⟩) (by simp only; omega) (.slice G m d)
    have G9 := bx_far (bx_far (bx_up hg h23) (p := ⟨w.heap.size, 1, none⟩) (by simp only; omega) (.slice (some ⟨g, 0, none⟩) n c)) (p := ⟨w.heap.size, 2, none⟩) (by simp only; omega) (.slice G m d)
    have U9 := up_set (up_set (up_trans H0.2.2 hw3) (p := ⟨w.heap.size, 1, none⟩) (by simp only; omega) (.slice (some ⟨g, 0, none⟩) n c)) (p := ⟨w.heap.size, 2, none⟩) (by simp only; omega) (.slice G m d)
    have Y9 := (Y3.far (p := ⟨w.heap.size, 1, none⟩) (by simp only; omega) (.slice (some ⟨g, 0, none⟩) n c)).far (p := ⟨w.heap.size, 2, none⟩) (by simp only; omega) (.slice G m d)
    generalize (w3.setCell ⟨w.heap.size, 1, none⟩ (.slice (some ⟨g, 0, none⟩) n c)).setCell ⟨w.heap.size, 2, none⟩ (.slice G m d) = W9 at A9 R9 G9 U9 Y9 ⊢
    clear hg hgz hu2 hu3 hw2 hw3 h23 hG Y3 c1 c2 f1 f2 d1 d2 e1 e2 d1' d2' e1' e2' H0 HC HE hz U0
    have c0 := (A9 0 _ rfl).1
    have c1 := (A9 1 _ rfl).1
    have c2 := (A9 2 _ rfl).1
    have c3 := (A9 3 _ rfl).1
    have d0 := (R9 0 _ rfl).1
    have d1 := (R9 1 _ rfl).1
    have d2 := (R9 2 _ rfl).1
    have d3 := (R9 3 _ rfl).1
    have e0 := (R9 0 _ rfl).2
    have e1 := (R9 1 _ rfl).2
    have e2 := (R9 2 _ rfl).2
    have e3 := (R9 3 _ rfl).2
    go_wp2_with fail
    have B9 := bx_set (bx_set (bx_set (bx_set R9 0 (.string s)) 1 (.slice (some ⟨g, 0, none⟩) n c)) 2 (.slice G m d)) 3 (.int .i64 f)
    have V9 := up_set (up_set (up_set (up_set U9 (p := ⟨w.heap.size + 1, 0, none⟩) (by simp only; omega) (.string s)) (p := ⟨w.heap.size + 1, 1, none⟩) (by simp only; omega) (.slice (some ⟨g, 0, none⟩) n c)) (p := ⟨w.heap.size + 1, 2, none⟩) (by simp only; omega) (.slice G m d)) (p := ⟨w.heap.size + 1, 3, none⟩) (by simp only; omega) (.int .i64 f)
    have K9 := bx_far (bx_far (bx_far (bx_far G9 (p := ⟨w.heap.size + 1, 0, none⟩) (by simp only; omega) (.string s)) (p := ⟨w.heap.size + 1, 1, none⟩) (by simp only; omega) (.slice (some ⟨g, 0, none⟩) n c)) (p := ⟨w.heap.size + 1, 2, none⟩) (by simp only; omega) (.slice G m d)) (p := ⟨w.heap.size + 1, 3, none⟩) (by simp only; omega) (.int .i64 f)
    have YA := (((Y9.far (p := ⟨w.heap.size + 1, 0, none⟩) (by simp only; omega) (.string s)).far (p := ⟨w.heap.size + 1, 1, none⟩) (by simp only; omega) (.slice (some ⟨g, 0, none⟩) n c)).far (p := ⟨w.heap.size + 1, 2, none⟩) (by simp only; omega) (.slice G m d)).far (p := ⟨w.heap.size + 1, 3, none⟩) (by simp only; omega) (.int .i64 f)
    generalize (((W9.setCell ⟨w.heap.size + 1, 0, none⟩ (.string s)).setCell ⟨w.heap.size + 1, 1, none⟩ (.slice (some ⟨g, 0, none⟩) n c)).setCell ⟨w.heap.size + 1, 2, none⟩ (.slice G m d)).setCell ⟨w.heap.size + 1, 3, none⟩ (.int .i64 f) = WA at B9 V9 K9 YA ⊢
    have z0 := (B9 0 _ rfl).1
    have z1 := (B9 1 _ rfl).1
    have z2 := (B9 2 _ rfl).1
    have z3 := (B9 3 _ rfl).1
    refine bodyPost_ret (v := loV s (some ⟨g, 0, none⟩) n c G m d f) (by simp [results, Try.f35, go_sem, z0, z1, z2, z3]) rfl ?_
    exact ⟨⟨g, c, G, d, rfl, K9, by omega, YA⟩, V9⟩
end Go.Proofs.Ytdehnokcjnbjoaa
namespace Go.Proofs.Ytdehnokcjnbjoaa
open Go.RowKit Go.Proofs.Gn
set_option linter.unusedVariables false
/-- A piece, and an eye, that is shifted. -/
def shP (a b c : Int) (p : Pce) : Pce := ⟨p.x + a, p.y + b, p.z + c, p.l, p.w, p.h, p.m⟩
def shY (a b c : Int) (p : Eye) : Eye := ⟨p.x + a, p.y + b, p.z + c, p.s⟩
/-- A list of which the first k have been changed. -/
def mdL {α : Type} (f : α → α) (L : List α) (k : Nat) : List α := (L.take k).map f ++ L.drop k
theorem md_0 {α : Type} (f : α → α) (L : List α) : mdL f L 0 = L := by simp [mdL]
theorem md_n {α : Type} (f : α → α) (L : List α) {k : Nat} (h : L.length ≤ k) : mdL f L k = L.map f := by
  unfold mdL
  rw [List.take_of_length_le h, List.drop_eq_nil_of_le h, List.append_nil]
theorem md_at {α : Type} (f : α → α) (L : List α) {k : Nat} (h : k < L.length) : mdL f L k = (L.take k).map f ++ L[k] :: L.drop (k + 1) ∧ mdL f L (k + 1) = (L.take k).map f ++ f L[k] :: L.drop (k + 1) := by
  unfold mdL
  rw [List.drop_eq_getElem_cons h]
  refine ⟨rfl, ?_⟩
  rw [List.take_succ_eq_append_getElem h, List.map_append, List.append_assoc]
  rfl
theorem set3 (y0 y1 y2 v0 v1 v2 : Value) (xs zs : List Value) :
    (((xs ++ y0 :: y1 :: y2 :: zs).set xs.length v0).set (xs.length + 1) v1).set (xs.length + 2) v2 = xs ++ v0 :: v1 :: v2 :: zs := by
  induction xs with
  | nil => rfl
  | cons x xs ih =>
    simp only [List.length_cons, List.cons_append]
    simp only [Nat.add_right_comm _ 1, List.set_cons_succ]
    rw [ih]
theorem cellsEy_split (A B : List Eye) (p : Eye) : cellsEy (A ++ p :: B) = cellsEy A ++ .int .i64 p.x :: .int .i64 p.y :: .int .i64 p.z :: .int .i64 p.s :: cellsEy B := by simp [cellsEy]
theorem cellsPc_split' (A B : List Pce) (p : Pce) : cellsPc (A ++ p :: B) = cellsPc A ++ .int .i64 p.x :: .int .i64 p.y :: .int .i64 p.z :: .int .i64 p.l :: .int .i64 p.w :: .int .i64 p.h :: .int .i64 p.m :: cellsPc B := by simp [cellsPc]
theorem bx_shP {W : World} {g : Nat} {L : List Pce} {k : Nat} (a b c : Int) (h : k < L.length) (hb : Bx W g (cellsPc (mdL (shP a b c) L k))) :
    (W.cell? ⟨g, k * 7, none⟩ = some (.int .i64 L[k].x) ∧ W.cell? ⟨g, k * 7 + 1, none⟩ = some (.int .i64 L[k].y) ∧ W.cell? ⟨g, k * 7 + 2, none⟩ = some (.int .i64 L[k].z)) ∧ (∀ j, j < 3 → W.frozen? ⟨g, k * 7 + j, none⟩ = false) ∧ Bx (((W.setCell ⟨g, k * 7, none⟩ (.int .i64 (L[k].x + a))).setCell ⟨g, k * 7 + 1, none⟩ (.int .i64 (L[k].y + b))).setCell ⟨g, k * 7 + 2, none⟩ (.int .i64 (L[k].z + c))) g (cellsPc (mdL (shP a b c) L (k + 1))) := by
  obtain ⟨e1, e2⟩ := md_at (shP a b c) L h
  have hl : (cellsPc ((L.take k).map (shP a b c))).length = k * 7 := by rw [cellsPc_len, List.length_map, List.length_take, Nat.min_eq_left (Nat.le_of_lt h)]
  rw [e1, cellsPc_split'] at hb
  have at' : ∀ j v, (Value.int .i64 L[k].x :: .int .i64 L[k].y :: .int .i64 L[k].z :: .int .i64 L[k].l :: .int .i64 L[k].w :: .int .i64 L[k].h :: .int .i64 L[k].m :: cellsPc (L.drop (k + 1)))[j]? = some v → W.cell? ⟨g, k * 7 + j, none⟩ = some v ∧ W.frozen? ⟨g, k * 7 + j, none⟩ = false := fun j v hj => hb (k * 7 + j) v (by rw [List.getElem?_append_right (by omega), hl, Nat.add_sub_cancel_left]; exact hj)
  refine ⟨⟨(at' 0 _ rfl).1, (at' 1 _ rfl).1, (at' 2 _ rfl).1⟩, ?_, ?_⟩
  · intro j hj
    match j, hj with
    | 0, _ => exact (at' 0 _ rfl).2
    | 1, _ => exact (at' 1 _ rfl).2
    | 2, _ => exact (at' 2 _ rfl).2
  · have q := bx_set (bx_set (bx_set hb (k * 7) (.int .i64 (L[k].x + a))) (k * 7 + 1) (.int .i64 (L[k].y + b))) (k * 7 + 2) (.int .i64 (L[k].z + c))
    rw [← hl, set3, hl] at q
    rw [e2, cellsPc_split']
    exact q
theorem bx_shY {W : World} {g : Nat} {L : List Eye} {k : Nat} (a b c : Int) (h : k < L.length) (hb : Bx W g (cellsEy (mdL (shY a b c) L k))) :
    (W.cell? ⟨g, k * 4, none⟩ = some (.int .i64 L[k].x) ∧ W.cell? ⟨g, k * 4 + 1, none⟩ = some (.int .i64 L[k].y) ∧ W.cell? ⟨g, k * 4 + 2, none⟩ = some (.int .i64 L[k].z)) ∧ (∀ j, j < 3 → W.frozen? ⟨g, k * 4 + j, none⟩ = false) ∧ Bx (((W.setCell ⟨g, k * 4, none⟩ (.int .i64 (L[k].x + a))).setCell ⟨g, k * 4 + 1, none⟩ (.int .i64 (L[k].y + b))).setCell ⟨g, k * 4 + 2, none⟩ (.int .i64 (L[k].z + c))) g (cellsEy (mdL (shY a b c) L (k + 1))) := by
  obtain ⟨e1, e2⟩ := md_at (shY a b c) L h
  have hl : (cellsEy ((L.take k).map (shY a b c))).length = k * 4 := by rw [cellsEy_len, List.length_map, List.length_take, Nat.min_eq_left (Nat.le_of_lt h)]
  rw [e1, cellsEy_split] at hb
  have at' : ∀ j v, (Value.int .i64 L[k].x :: .int .i64 L[k].y :: .int .i64 L[k].z :: .int .i64 L[k].s :: cellsEy (L.drop (k + 1)))[j]? = some v → W.cell? ⟨g, k * 4 + j, none⟩ = some v ∧ W.frozen? ⟨g, k * 4 + j, none⟩ = false := fun j v hj => hb (k * 4 + j) v (by rw [List.getElem?_append_right (by omega), hl, Nat.add_sub_cancel_left]; exact hj)
  refine ⟨⟨(at' 0 _ rfl).1, (at' 1 _ rfl).1, (at' 2 _ rfl).1⟩, ?_, ?_⟩
  · intro j hj
    match j, hj with
    | 0, _ => exact (at' 0 _ rfl).2
    | 1, _ => exact (at' 1 _ rfl).2
    | 2, _ => exact (at' 2 _ rfl).2
  · have q := bx_set (bx_set (bx_set hb (k * 4) (.int .i64 (L[k].x + a))) (k * 4 + 1) (.int .i64 (L[k].y + b))) (k * 4 + 2) (.int .i64 (L[k].z + c))
    rw [← hl, set3, hl] at q
    rw [e2, cellsEy_split]
    exact q
end Go.Proofs.Ytdehnokcjnbjoaa
namespace Go.Proofs.Ytdehnokcjnbjoaa
open Go.RowKit Go.Proofs.Gn
attribute [local go_sem] Oper.semAt_some
set_option linter.unusedVariables false
theorem ixL3 (x0 x1 x2 : Int) (w : World) : (Instr.index 55 (.agg #[.int .i64 x0, .int .i64 x1, .int .i64 x2]) (.int .i64 0)).run Try.prog w = .ok (.int .i64 x0) w ∧ (Instr.index 55 (.agg #[.int .i64 x0, .int .i64 x1, .int .i64 x2]) (.int .i64 1)).run Try.prog w = .ok (.int .i64 x1) w ∧ (Instr.index 55 (.agg #[.int .i64 x0, .int .i64 x1, .int .i64 x2]) (.int .i64 2)).run Try.prog w = .ok (.int .i64 x2) w := by
  refine ⟨?_, ?_, ?_⟩ <;> simp [Instr.index, run_underlying Try.underlying55, asIntOf, go_sem]
/-- How far a load may be shifted. -/
abbrev wiS (d : Int) : Bool := win d (-262144) 262144
/-- Which error a shift has. -/
def shE (s : ByteArray) (ps : List Pce) (ys : List Eye) (f a b c : Int) : Int :=
  if (wiS a && (wiS b && wiS c)) = true then (if loE s (ps.map (shP a b c)) (ys.map (shY a b c)) f = 0 then 0 else 4) else 3
/-- What a shift gives. -/
def ShQ (s : ByteArray) (ps : List Pce) (ys : List Eye) (f a b c : Int) (w : World) (e : Ending) (w' : World) : Prop :=
  ((e = .returned (.tuple #[lo0L, .int .i64 (shE s ps ys f a b c)]) ∧ shE s ps ys f a b c ≠ 0) ∨ (∃ P cq G d, e = .returned (.tuple #[loV s P ps.length cq G ys.length d f, .int .i64 0]) ∧ shE s ps ys f a b c = 0 ∧ Pcs w' P (ps.map (shP a b c)) ∧ Eyes w' G (ys.map (shY a b c)))) ∧ Up w w'
/-- What lies there while a load is shifted. -/
def SdB (v : List Value) (x gR : Nat) (w wx : World) : Prop := Bx wx x v ∧ Bx wx gR [.string { data := #[] }, .slice none 0 0, .slice none 0 0, .int .i64 0] ∧ Up w wx
theorem SdB.ups {v : List Value} {x gR : Nat} {w wx wy : World} (h : SdB v x gR w wx) (hu : Up wx wy) : SdB v x gR w wy := ⟨bx_up h.1 hu, bx_up h.2.1 hu, up_trans h.2.2 hu⟩
theorem SdB.set {v : List Value} {x gR : Nat} {w wx : World} (h : SdB v x gR w wx) {p : Addr} (h1 : p.block ≠ x) (h2 : p.block ≠ gR) (h3 : w.heap.size ≤ p.block) (u : Value) : SdB v x gR w (wx.setCell p u) :=
  ⟨bx_far h.1 h1 u, bx_far h.2.1 h2 u, up_set h.2.2 h3 u⟩
set_option maxRecDepth 100000 in
set_option maxHeartbeats 16000000 in
theorem p_ShiftedL (s : ByteArray) (A : Option Addr) (ps : List Pce) (cp : Nat) (B : Option Addr) (ys : List Eye) (cb : Nat) (f a b c : Int) (w : World) (h : Pcs w A ps) (hB : Eyes w B ys) (hE : loE s ps ys f = 0) :
    Calls Try.prog 13 #[loV s A ps.length cp B ys.length cb f, .int .i64 a, .int .i64 b, .int .i64 c] w fun e w' => ShQ s ps ys f a b c w e w' := by
  obtain ⟨⟨hg1, hg2, hg3⟩, _, _, hok, hoy, _⟩ := loE_ok hE
  have HC := hide (fun W (hW : Up w W) => p_CheckL s A ps cp B ys cb f W (pcs_up h hW) (eyes_up hB hW) (by omega) (by omega))
  rw [hE] at HC
  have HCl := hide (fun W (hW : Up w W) => p_cloneA s A ps cp B ys cb f W (pcs_up h hW) (eyes_up hB hW) (by omega) (by omega) (by omega))
  have HW0 := hide (fun W => p_withinL a (-262144) 262144 W)
  have HW1 := hide (fun W => p_withinL b (-262144) 262144 W)
  have HW2 := hide (fun W => p_withinL c (-262144) 262144 W)
  have HP3 := hide (show ¬ ((wiS a && (wiS b && wiS c)) = true) → ∀ W9, Up w W9 → ShQ s ps ys f a b c w (.returned (.tuple #[lo0L, .int .i64 3])) W9 from fun hn W9 hu => by
    have e : shE s ps ys f a b c = 3 := by unfold shE; rw [if_neg hn]
    exact ⟨.inl ⟨by rw [e], by rw [e]; decide⟩, hu⟩)
  have HP4 := hide (show (wiS a && (wiS b && wiS c)) = true → loE s (ps.map (shP a b c)) (ys.map (shY a b c)) f ≠ 0 → ∀ W9, Up w W9 → ShQ s ps ys f a b c w (.returned (.tuple #[lo0L, .int .i64 4])) W9 from fun hn h4 W9 hu => by
    have e : shE s ps ys f a b c = 4 := by unfold shE; rw [if_pos hn, if_neg h4]
    exact ⟨.inl ⟨by rw [e], by rw [e]; decide⟩, hu⟩)
  have HP0 := hide (show (wiS a && (wiS b && wiS c)) = true → loE s (ps.map (shP a b c)) (ys.map (shY a b c)) f = 0 → ∀ P cq G d W9, Pcs W9 P (ps.map (shP a b c)) → Eyes W9 G (ys.map (shY a b c)) → Up w W9 → ShQ s ps ys f a b c w (.returned (.tuple #[loV s P ps.length cq G ys.length d f, .int .i64 0])) W9 from fun hn h4 P cq G d W9 hp hy hu => by
    have e : shE s ps ys f a b c = 0 := by unfold shE; rw [if_pos hn, if_pos h4]
    exact ⟨.inr ⟨P, cq, G, d, rfl, e, hp, hy⟩, hu⟩)
  have HRn := hide (fun P cq G d W (hp : Pcs W P (ps.map (shP a b c))) (hy : Eyes W G (ys.map (shY a b c))) (h4 : loE s (ps.map (shP a b c)) (ys.map (shY a b c)) f ≠ 0) => by
    have q := p_resultNo s P (ps.map (shP a b c)) cq G (ys.map (shY a b c)) d f W hp hy (by rw [List.length_map]; omega) (by rw [List.length_map]; omega) _ rfl h4
    rw [List.length_map, List.length_map] at q
    exact q)
  have HRy := hide (fun P cq G d W (hp : Pcs W P (ps.map (shP a b c))) (hy : Eyes W G (ys.map (shY a b c))) (h4 : loE s (ps.map (shP a b c)) (ys.map (shY a b c)) f = 0) => by
    have q := p_resultL s P (ps.map (shP a b c)) cq G (ys.map (shY a b c)) d f W hp hy (by rw [List.length_map]; omega) (by rw [List.length_map]; omega) h4
    rw [List.length_map, List.length_map] at q
    exact q)
  have HOk := hide (fun k (hk : k < ps.length) => (okP_iff _).1 (okPs_get hok hk))
  have HWa := hide (show wiS a = true → -262144 ≤ a ∧ a ≤ 262144 from fun q => win_t q)
  have HWb := hide (show wiS b = true → -262144 ≤ b ∧ b ≤ 262144 from fun q => win_t q)
  have HWc := hide (show wiS c = true → -262144 ≤ c ∧ c ≤ 262144 from fun q => win_t q)
  have HOy := hide (fun k (hk : k < ys.length) => (show okY ys[k] = true from List.all_eq_true.1 (show ys.all okY = true from hoy) ys[k] (List.getElem_mem hk)))
  change Hid (∀ W, Calls Try.prog 39 #[.int .i64 a, .int .i64 (-262144), .int .i64 262144] W fun e w' => e = .returned (.bool (wiS a)) ∧ W = w') at HW0
  change Hid (∀ W, Calls Try.prog 39 #[.int .i64 b, .int .i64 (-262144), .int .i64 262144] W fun e w' => e = .returned (.bool (wiS b)) ∧ W = w') at HW1
  change Hid (∀ W, Calls Try.prog 39 #[.int .i64 c, .int .i64 (-262144), .int .i64 262144] W fun e w' => e = .returned (.bool (wiS c)) ∧ W = w') at HW2
  generalize wiS a = t0 at *
  generalize wiS b = t1 at *
  generalize wiS c = t2 at *
  obtain ⟨n, hnn⟩ : ∃ n, ps.length = n := ⟨_, rfl⟩
  obtain ⟨m, hmm⟩ : ∃ m, ys.length = m := ⟨_, rfl⟩
  have HNN := hide hnn
  have HMM := hide hmm
  rw [hnn] at hg1 hg2 HC HCl HP0 HRn HRy ⊢
  rw [hmm] at hg3 HC HCl HP0 HRn HRy ⊢
  obtain ⟨QQ, hQQ⟩ : ∃ Q, Q = ShQ s ps ys f a b c w := ⟨_, rfl⟩
  rw [← hQQ] at HP0 HP3 HP4
  change Calls Try.prog 13 _ w fun e w' => ShQ s ps ys f a b c w e w'
  rw [← hQQ]
  clear h hB hE hok hoy hnn hmm hQQ
  have ix := fun w => ixL3 a b c w
  go_enter Try.func13, Try.ntmps13
  go_upto_region 1 with fail
  refine at_wpC (fun W0 hW0 => ?_)
  have hT0 : SdB [.string s, .slice A n cp, .slice B m cb, .int .i64 f] w.heap.size (w.heap.size + 1) w W0 := by
    rw [hW0]
    refine ⟨bx_alloc (bx_new w _ _) _, ?_, (by repeat' (first | (with_reducible exact up_refl _) | (with_reducible assumption) | (with_reducible refine up_alloc ?_ _) | (with_reducible refine up_drewN ?_ _) | (with_reducible refine up_drew ?_) | (with_reducible refine up_set ?_ (by first | (simp; done) | (simp; omega) | omega) _) | (refine up_trans ?_ (by with_reducible assumption))))⟩
    have q := bx_new (w.alloc (.cells #[.string s, .slice A n cp, .slice B m cb, .int .i64 f] 25)) [.string { data := #[] }, .slice none 0 0, .slice none 0 0, .int .i64 0] 25
    rw [World.size_alloc] at q
    exact q
  clear hW0
  have U0 := hT0.2.2
  have c0 := (hT0.1 0 _ rfl).1
  have c1 := (hT0.1 1 _ rfl).1
  have c2 := (hT0.1 2 _ rfl).1
  have c3 := (hT0.1 3 _ rfl).1
  go_upto_region 4 with (go_at_call 34; (with_reducible refine (unhide HC _ U0).mono ?_); rintro e w1 ⟨rfl, u1⟩; have hT1 := hT0.ups u1)
  clear c0 c1 c2 c3 hT0 u1 U0
  obtain ⟨gR, hgR⟩ : ∃ g, w.heap.size + 1 = g := ⟨_, rfl⟩
  rw [hgR] at hT1 ⊢
  go_upto_region 5 with fail
  go_loopw [28] (fun s28 wr => ∃ (j : Nat) (J : Int), j ≤ 3 ∧ J = (j : Int) ∧ s28 = .int .i64 J ∧ (0 < j → t0 = true) ∧ (1 < j → t1 = true) ∧ (2 < j → t2 = true) ∧ SdB [.string s, .slice A n cp, .slice B m cb, .int .i64 f] w.heap.size gR w wr) (fun s28 _ => 3 - (intOf s28).toNat)
  case atStart => exact ⟨0, 0, by omega, rfl, rfl, fun h => absurd h (by omega), fun h => absurd h (by omega), fun h => absurd h (by omega), hT1⟩
  case round =>
    clear hT1
    obtain ⟨j, J, hj, hJ, rfl, h0, h1, h2, hT⟩ := hrel
    have hj4 : j = 0 ∨ j = 1 ∨ j = 2 ∨ j = 3 := by omega
    rcases hj4 with rfl | rfl | rfl | rfl
    · obtain rfl : J = 0 := hJ
      have hTH := hide hT
      have hs0 := hide h0
      have hs1 := hide h1
      have hs2 := hide h2
      clear h0 h1 h2
      by_cases ht : t0 = true
      · have htH := hide ht
        rw [ht] at HW0
        clear hT ht
        go_wp2_with (go_at_call 39; (with_reducible refine (unhide HW0 _).mono ?_); rintro e w2 ⟨rfl, rfl⟩)
        go_roundw
        case rel => exact ⟨1, 1, by omega, by first | rfl | omega, by first | rfl | trivial | go_num, fun _ => unhide htH, fun h => absurd h (by omega), fun h => absurd h (by omega), unhide hTH⟩
        case measure => first | (simp [intOf]; done) | (simp [intOf]; omega)
      · have ht : t0 = false := by simpa using ht
        have HP3 := hide (unhide HP3 (by simp [ht]))
        rw [ht] at HW0
        clear ht
        have r0 := (hT.2.1 0 _ rfl).1
        have r1 := (hT.2.1 1 _ rfl).1
        have r2 := (hT.2.1 2 _ rfl).1
        have r3 := (hT.2.1 3 _ rfl).1
        have f0 := (hT.2.1 0 _ rfl).2
        have f1 := (hT.2.1 1 _ rfl).2
        have f2 := (hT.2.1 2 _ rfl).2
        have f3 := (hT.2.1 3 _ rfl).2
        go_wp2_with (go_at_call 39; (with_reducible refine (unhide HW0 _).mono ?_); rintro e w2 ⟨rfl, rfl⟩)
        have B9 := (bx_set (bx_set (bx_set (bx_set hT.2.1 0 (.string { data := #[] })) 1 (.slice none 0 0)) 2 (.slice none 0 0)) 3 (.int .i64 0))
        have U9 := (up_set (up_set (up_set (up_set hT.2.2 (p := ⟨gR, 0, none⟩) (by simp only; omega) (.string { data := #[] })) (p := ⟨gR, 1, none⟩) (by simp only; omega) (.slice none 0 0)) (p := ⟨gR, 2, none⟩) (by simp only; omega) (.slice none 0 0)) (p := ⟨gR, 3, none⟩) (by simp only; omega) (.int .i64 0))
        generalize ((((wr.setCell ⟨gR, 0, none⟩ (.string { data := #[] })).setCell ⟨gR, 1, none⟩ (.slice none 0 0)).setCell ⟨gR, 2, none⟩ (.slice none 0 0)).setCell ⟨gR, 3, none⟩ (.int .i64 0)) = W9 at B9 U9 ⊢
        have z0 := (B9 0 _ rfl).1
        have z1 := (B9 1 _ rfl).1
        have z2 := (B9 2 _ rfl).1
        have z3 := (B9 3 _ rfl).1
        refine bodyPost_ret (v := .tuple #[lo0L, .int .i64 3]) (by simp [results, Try.f13, go_sem, z0, z1, z2, z3]) rfl ?_
        exact unhide HP3 W9 U9
    · obtain rfl : J = 1 := hJ
      have hTH := hide hT
      have hs0 := hide h0
      have hs1 := hide h1
      have hs2 := hide h2
      clear h0 h1 h2
      by_cases ht : t1 = true
      · have htH := hide ht
        rw [ht] at HW1
        clear hT ht
        go_wp2_with (go_at_call 39; (with_reducible refine (unhide HW1 _).mono ?_); rintro e w2 ⟨rfl, rfl⟩)
        go_roundw
        case rel => exact ⟨2, 2, by omega, by first | rfl | omega, by first | rfl | trivial | go_num, fun _ => unhide hs0 (by omega), fun _ => unhide htH, fun h => absurd h (by omega), unhide hTH⟩
        case measure => first | (simp [intOf]; done) | (simp [intOf]; omega)
      · have ht : t1 = false := by simpa using ht
        have HP3 := hide (unhide HP3 (by simp [ht]))
        rw [ht] at HW1
        clear ht
        have r0 := (hT.2.1 0 _ rfl).1
        have r1 := (hT.2.1 1 _ rfl).1
        have r2 := (hT.2.1 2 _ rfl).1
        have r3 := (hT.2.1 3 _ rfl).1
        have f0 := (hT.2.1 0 _ rfl).2
        have f1 := (hT.2.1 1 _ rfl).2
        have f2 := (hT.2.1 2 _ rfl).2
        have f3 := (hT.2.1 3 _ rfl).2
        go_wp2_with (go_at_call 39; (with_reducible refine (unhide HW1 _).mono ?_); rintro e w2 ⟨rfl, rfl⟩)
        have B9 := (bx_set (bx_set (bx_set (bx_set hT.2.1 0 (.string { data := #[] })) 1 (.slice none 0 0)) 2 (.slice none 0 0)) 3 (.int .i64 0))
        have U9 := (up_set (up_set (up_set (up_set hT.2.2 (p := ⟨gR, 0, none⟩) (by simp only; omega) (.string { data := #[] })) (p := ⟨gR, 1, none⟩) (by simp only; omega) (.slice none 0 0)) (p := ⟨gR, 2, none⟩) (by simp only; omega) (.slice none 0 0)) (p := ⟨gR, 3, none⟩) (by simp only; omega) (.int .i64 0))
        generalize ((((wr.setCell ⟨gR, 0, none⟩ (.string { data := #[] })).setCell ⟨gR, 1, none⟩ (.slice none 0 0)).setCell ⟨gR, 2, none⟩ (.slice none 0 0)).setCell ⟨gR, 3, none⟩ (.int .i64 0)) = W9 at B9 U9 ⊢
        have z0 := (B9 0 _ rfl).1
        have z1 := (B9 1 _ rfl).1
        have z2 := (B9 2 _ rfl).1
        have z3 := (B9 3 _ rfl).1
        refine bodyPost_ret (v := .tuple #[lo0L, .int .i64 3]) (by simp [results, Try.f13, go_sem, z0, z1, z2, z3]) rfl ?_
        exact unhide HP3 W9 U9
    · obtain rfl : J = 2 := hJ
      have hTH := hide hT
      have hs0 := hide h0
      have hs1 := hide h1
      have hs2 := hide h2
      clear h0 h1 h2
      by_cases ht : t2 = true
      · have htH := hide ht
        rw [ht] at HW2
        clear hT ht
        go_wp2_with (go_at_call 39; (with_reducible refine (unhide HW2 _).mono ?_); rintro e w2 ⟨rfl, rfl⟩)
        go_roundw
        case rel => exact ⟨3, 3, by omega, by first | rfl | omega, by first | rfl | trivial | go_num, fun _ => unhide hs0 (by omega), fun _ => unhide hs1 (by omega), fun _ => unhide htH, unhide hTH⟩
        case measure => first | (simp [intOf]; done) | (simp [intOf]; omega)
      · have ht : t2 = false := by simpa using ht
        have HP3 := hide (unhide HP3 (by simp [ht]))
        rw [ht] at HW2
        clear ht
        have r0 := (hT.2.1 0 _ rfl).1
        have r1 := (hT.2.1 1 _ rfl).1
        have r2 := (hT.2.1 2 _ rfl).1
        have r3 := (hT.2.1 3 _ rfl).1
        have f0 := (hT.2.1 0 _ rfl).2
        have f1 := (hT.2.1 1 _ rfl).2
        have f2 := (hT.2.1 2 _ rfl).2
        have f3 := (hT.2.1 3 _ rfl).2
        go_wp2_with (go_at_call 39; (with_reducible refine (unhide HW2 _).mono ?_); rintro e w2 ⟨rfl, rfl⟩)
        have B9 := (bx_set (bx_set (bx_set (bx_set hT.2.1 0 (.string { data := #[] })) 1 (.slice none 0 0)) 2 (.slice none 0 0)) 3 (.int .i64 0))
        have U9 := (up_set (up_set (up_set (up_set hT.2.2 (p := ⟨gR, 0, none⟩) (by simp only; omega) (.string { data := #[] })) (p := ⟨gR, 1, none⟩) (by simp only; omega) (.slice none 0 0)) (p := ⟨gR, 2, none⟩) (by simp only; omega) (.slice none 0 0)) (p := ⟨gR, 3, none⟩) (by simp only; omega) (.int .i64 0))
        generalize ((((wr.setCell ⟨gR, 0, none⟩ (.string { data := #[] })).setCell ⟨gR, 1, none⟩ (.slice none 0 0)).setCell ⟨gR, 2, none⟩ (.slice none 0 0)).setCell ⟨gR, 3, none⟩ (.int .i64 0)) = W9 at B9 U9 ⊢
        have z0 := (B9 0 _ rfl).1
        have z1 := (B9 1 _ rfl).1
        have z2 := (B9 2 _ rfl).1
        have z3 := (B9 3 _ rfl).1
        refine bodyPost_ret (v := .tuple #[lo0L, .int .i64 3]) (by simp [results, Try.f13, go_sem, z0, z1, z2, z3]) rfl ?_
        exact unhide HP3 W9 U9
    · obtain rfl : J = 3 := hJ
      obtain rfl := h0 (by omega)
      obtain rfl := h1 (by omega)
      obtain rfl := h2 (by omega)
      have HP4 := hide (unhide HP4 rfl)
      have HP0 := hide (unhide HP0 rfl)
      have ha := unhide HWa rfl
      have hb := unhide HWb rfl
      have hc := unhide HWc rfl
      clear HWa HWb HWc HW0 HW1 HW2 HP3 h0 h1 h2 hj
      obtain ⟨wo, rfl⟩ : ∃ wo, wo = wr := ⟨_, rfl⟩
      have U1 := hT.2.2
      have hzR : gR < wo.heap.size := bx_lt hT.2.1 (by simp)
      have c0 := (hT.1 0 _ rfl).1
      have c1 := (hT.1 1 _ rfl).1
      have c2 := (hT.1 2 _ rfl).1
      have c3 := (hT.1 3 _ rfl).1
      go_upto_region 11 with (go_at_call 35; (with_reducible refine (unhide HCl _ U1).mono ?_); rintro e w2 ⟨⟨g, c', G, d, rfl, bG, hgz, hY⟩, u2⟩)
      refine at_wpC (fun W5 hW5 => ?_)
      have u25 : Up w2 W5 := by rw [hW5]; exact (by repeat' (first | (with_reducible exact up_refl _) | (with_reducible assumption) | (with_reducible refine up_alloc ?_ _) | (with_reducible refine up_drewN ?_ _) | (with_reducible refine up_drew ?_) | (with_reducible refine up_set ?_ (by first | (simp; done) | (simp; omega) | omega) _) | (refine up_trans ?_ (by with_reducible assumption))))
      have bS : Bx W5 w2.heap.size [.string s, .slice (some ⟨g, 0, none⟩) n c', .slice G m d, .int .i64 f] := by rw [hW5]; exact bx_new w2 _ _
      have hgl : g < w2.heap.size := bx_lt bG (by rw [cellsPc_len, unhide HNN]; omega)
      have hYx : ys = [] ∨ ∃ gy, G = some ⟨gy, 0, none⟩ ∧ gy < w2.heap.size := by
        by_cases hys : ys = []
        · exact .inl hys
        · rcases hY with h | ⟨q, e, hb, _⟩
          · exact .inl h
          · exact .inr ⟨q, e, bx_lt hb (by rw [cellsEy_len]; have := List.length_pos_iff.2 hys; omega)⟩
      have hT5 : SdB [.string s, .slice (some ⟨g, 0, none⟩) n c', .slice G m d, .int .i64 f] w2.heap.size gR w W5 := ⟨bS, bx_up (bx_up hT.2.1 u2) u25, up_trans (up_trans U1 u2) u25⟩
      have bG5 := bx_up bG u25
      have hY5 := hY.ups u25
      obtain ⟨x, hx⟩ : ∃ x, w2.heap.size = x := ⟨_, rfl⟩
      rw [hx] at hT5 hgl hYx ⊢
      have hRg : gR < g := by omega
      clear hW5 u25 bS bG hY u2 U1 hT c0 c1 c2 c3 HCl HC hx hgz hzR
      have c1 := (hT5.1 1 _ rfl).1
      go_upto_region 12 with fail
      clear c1
      have e0 := md_0 (shP a b c) ps
      rw [← e0] at bG5
      go_loopw [41] (fun s41 wx => ∃ k : Nat, k ≤ n ∧ s41 = .int .i64 k ∧ Bx wx g (cellsPc (mdL (shP a b c) ps k)) ∧ RowY wx (g + 1) G ys ∧ SdB [.string s, .slice (some ⟨g, 0, none⟩) n c', .slice G m d, .int .i64 f] x gR w wx) (fun s41 _ => n - (intOf s41).toNat)
      case atStart => exact ⟨0, by omega, rfl, bG5, hY5, hT5⟩
      case round =>
        clear bG5 hY5 hT5 e0
        obtain ⟨k, hk, rfl, bK, hY, hT⟩ := hrel
        by_cases hlt : k < n
        · have hl : k < ps.length := by rw [unhide HNN]; exact hlt
          have HT := fun W hb => bx_shP (W := W) (g := g) a b c hl hb
          have hp := unhide HOk k hl
          unfold okPp at hp
          obtain ⟨⟨a0, a1, a2⟩, hf, _⟩ := HT wr bK
          have c1 := (hT.1 1 _ rfl).1
          have h1 : IntKind.i64.wrap (ps[k].x + a) = ps[k].x + a := i64_small (by omega)
          have h2 : IntKind.i64.wrap (ps[k].y + b) = ps[k].y + b := i64_small (by omega)
          have h3 : IntKind.i64.wrap (ps[k].z + c) = ps[k].z + c := i64_small (by omega)
          have hwk : IntKind.i64.wrap ((k : Int) + 1) = (k : Int) + 1 := IntWalk.i64_in _ ⟨by omega, by omega⟩
          have i0 : (0 : Int) ≤ (k : Int) := by omega
          have i1 : (k : Int) < (n : Int) := by omega
          have i3 : (k : Int).toNat = k := by omega
          have HTH := hide HT
          have f0 : wr.frozen? ⟨g, k * 7, none⟩ = false := hf 0 (by omega)
          have f1 := hf 1 (by omega)
          have f2 := hf 2 (by omega)
          have hww := hT.2.2.size
          have hwR : w.heap.size ≤ g := by omega
          clear hp HT hf
          generalize ps[k].x = px at *
          generalize ps[k].y = py at *
          generalize ps[k].z = pz at *
          go_upto_region 15 with fail
          go_region
          have K9 := bx_drew (unhide HTH wr bK).2.2
          have Y9 := (((hY.far (p := ⟨g, k * 7, none⟩) (by simp only; omega) (.int .i64 (px + a))).far (p := ⟨g, k * 7 + 1, none⟩) (by simp only; omega) (.int .i64 (py + b))).far (p := ⟨g, k * 7 + 2, none⟩) (by simp only; omega) (.int .i64 (pz + c))).ups (up_drew (up_refl _))
          have T9 := (((hT.set (p := ⟨g, k * 7, none⟩) (by simp only; omega) (by simp only; omega) (by simp only; omega) (.int .i64 (px + a))).set (p := ⟨g, k * 7 + 1, none⟩) (by simp only; omega) (by simp only; omega) (by simp only; omega) (.int .i64 (py + b))).set (p := ⟨g, k * 7 + 2, none⟩) (by simp only; omega) (by simp only; omega) (by simp only; omega) (.int .i64 (pz + c))).ups (up_drew (up_refl _))
          generalize (((wr.setCell ⟨g, k * 7, none⟩ (.int .i64 (px + a))).setCell ⟨g, k * 7 + 1, none⟩ (.int .i64 (py + b))).setCell ⟨g, k * 7 + 2, none⟩ (.int .i64 (pz + c))).drew = W9 at K9 Y9 T9 ⊢
          clear bK hY hT c1 a0 a1 a2 f0 f1 f2 HTH
          go_wp2_with fail
          go_roundw
          case rel => exact ⟨k + 1, by omega, by first | rfl | trivial | go_num, K9, Y9, T9⟩
          case measure => first | (simp [intOf]; done) | (simp [intOf]; omega)
        · obtain rfl : k = n := by omega
          have e := md_n (shP a b c) ps (k := k) (by rw [unhide HNN]; exact Nat.le_refl _)
          rw [e] at bK
          have i1 : ¬ (k : Int) < (k : Int) := by omega
          have c2 := (hT.1 2 _ rfl).1
          have hww := hT.2.2.size
          obtain ⟨wo2, rfl⟩ : ∃ wo, wo = wr := ⟨_, rfl⟩
          go_upto_region 18 with fail
          clear c2 e
          have e0 := md_0 (shY a b c) ys
          rw [← e0] at hY
          go_loopw [79] (fun s79 wx => ∃ j : Nat, j ≤ m ∧ s79 = .int .i64 j ∧ Bx wx g (cellsPc (ps.map (shP a b c))) ∧ RowY wx (g + 1) G (mdL (shY a b c) ys j) ∧ SdB [.string s, .slice (some ⟨g, 0, none⟩) k c', .slice G m d, .int .i64 f] x gR w wx) (fun s79 _ => m - (intOf s79).toNat)
          case atStart => exact ⟨0, by omega, rfl, bK, hY, hT⟩
          case round =>
            clear bK hY hT e0
            obtain ⟨j, hj, rfl, bP, hY, hT⟩ := hrel
            by_cases hlt : j < m
            · have hl : j < ys.length := by rw [unhide HMM]; exact hlt
              have hne : mdL (shY a b c) ys j ≠ [] := by
                intro h
                have := congrArg List.length h
                simp [mdL] at this
                omega
              obtain ⟨gy, rfl, bY, hgy⟩ := hY.resolve_left hne
              obtain ⟨gy', e', hyx⟩ := hYx.resolve_left (by intro h; rw [h] at hl; simp at hl)
              obtain rfl : gy = gy' := by simpa using e'
              have HT := fun W hb => bx_shY (W := W) (g := gy) a b c hl hb
              have hp := (okY_iff _).1 (unhide HOy j hl)
              unfold okYp at hp
              obtain ⟨⟨a0, a1, a2⟩, hf, _⟩ := HT wr bY
              have c2 := (hT.1 2 _ rfl).1
              have h1 : IntKind.i64.wrap (ys[j].x + a) = ys[j].x + a := i64_small (by omega)
              have h2 : IntKind.i64.wrap (ys[j].y + b) = ys[j].y + b := i64_small (by omega)
              have h3 : IntKind.i64.wrap (ys[j].z + c) = ys[j].z + c := i64_small (by omega)
              have hwk : IntKind.i64.wrap ((j : Int) + 1) = (j : Int) + 1 := IntWalk.i64_in _ ⟨by omega, by omega⟩
              have i0 : (0 : Int) ≤ (j : Int) := by omega
              have i4 : (j : Int) < (m : Int) := by omega
              have i3 : (j : Int).toNat = j := by omega
              have HTH := hide HT
              have f0 : wr.frozen? ⟨gy, j * 4, none⟩ = false := hf 0 (by omega)
              have f1 := hf 1 (by omega)
              have f2 := hf 2 (by omega)
              have hwR : w.heap.size ≤ gy := by omega
              clear hp HT hf hY hYx e'
              generalize ys[j].x = px at *
              generalize ys[j].y = py at *
              generalize ys[j].z = pz at *
              go_upto_region 21 with fail
              go_region
              have K9 := bx_drew (unhide HTH wr bY).2.2
              have P9 := bx_drew (bx_far (bx_far (bx_far bP (p := ⟨gy, j * 4, none⟩) (by simp only; omega) (.int .i64 (px + a))) (p := ⟨gy, j * 4 + 1, none⟩) (by simp only; omega) (.int .i64 (py + b))) (p := ⟨gy, j * 4 + 2, none⟩) (by simp only; omega) (.int .i64 (pz + c)))
              have T9 := (((hT.set (p := ⟨gy, j * 4, none⟩) (by simp only; omega) (by simp only; omega) (by simp only; omega) (.int .i64 (px + a))).set (p := ⟨gy, j * 4 + 1, none⟩) (by simp only; omega) (by simp only; omega) (by simp only; omega) (.int .i64 (py + b))).set (p := ⟨gy, j * 4 + 2, none⟩) (by simp only; omega) (by simp only; omega) (by simp only; omega) (.int .i64 (pz + c))).ups (up_drew (up_refl _))
              generalize (((wr.setCell ⟨gy, j * 4, none⟩ (.int .i64 (px + a))).setCell ⟨gy, j * 4 + 1, none⟩ (.int .i64 (py + b))).setCell ⟨gy, j * 4 + 2, none⟩ (.int .i64 (pz + c))).drew = W9 at K9 P9 T9 ⊢
              clear bP bY hT c2 a0 a1 a2 f0 f1 f2 HTH
              go_wp2_with fail
              go_roundw
              case rel => exact ⟨j + 1, by omega, by first | rfl | trivial | go_num, P9, .inr ⟨gy, rfl, K9, hgy⟩, T9⟩
              case measure => first | (simp [intOf]; done) | (simp [intOf]; omega)
            · obtain rfl : j = m := by omega
              have e := md_n (shY a b c) ys (k := j) (by rw [unhide HMM]; exact Nat.le_refl _)
              rw [e] at hY
              have i4 : ¬ (j : Int) < (j : Int) := by omega
              have hpP := pcs_bxP bP
              have hpY := hY.eyes
              have hwR : w.heap.size ≤ gR := by omega
              have c0 := (hT.1 0 _ rfl).1
              have c1 := (hT.1 1 _ rfl).1
              have c2 := (hT.1 2 _ rfl).1
              have c3 := (hT.1 3 _ rfl).1
              by_cases hE2 : loE s (ps.map (shP a b c)) (ys.map (shY a b c)) f = 0
              · have hE3 := hide hE2
                go_upto_region 23 with fail
                go_wp2_with (go_at_call 36; (with_reducible refine (unhide HRy _ c' _ d _ hpP hpY hE2).mono ?_); rintro e w9 ⟨rfl, u9⟩; have T9 := hT.ups u9; have r0 := (T9.2.1 0 _ rfl).1; have r1 := (T9.2.1 1 _ rfl).1; have r2 := (T9.2.1 2 _ rfl).1; have r3 := (T9.2.1 3 _ rfl).1; have f0 := (T9.2.1 0 _ rfl).2; have f1 := (T9.2.1 1 _ rfl).2; have f2 := (T9.2.1 2 _ rfl).2; have f3 := (T9.2.1 3 _ rfl).2)
                have B9 := (bx_set (bx_set (bx_set (bx_set T9.2.1 0 (.string s)) 1 (.slice (some ⟨g, 0, none⟩) k c')) 2 (.slice G j d)) 3 (.int .i64 f))
                have U9 := (up_set (up_set (up_set (up_set T9.2.2 (p := ⟨gR, 0, none⟩) (by simp only; omega) (.string s)) (p := ⟨gR, 1, none⟩) (by simp only; omega) (.slice (some ⟨g, 0, none⟩) k c')) (p := ⟨gR, 2, none⟩) (by simp only; omega) (.slice G j d)) (p := ⟨gR, 3, none⟩) (by simp only; omega) (.int .i64 f))
                have P9 := (bx_far (bx_far (bx_far (bx_far (bx_up bP u9) (p := ⟨gR, 0, none⟩) (by simp only; omega) (.string s)) (p := ⟨gR, 1, none⟩) (by simp only; omega) (.slice (some ⟨g, 0, none⟩) k c')) (p := ⟨gR, 2, none⟩) (by simp only; omega) (.slice G j d)) (p := ⟨gR, 3, none⟩) (by simp only; omega) (.int .i64 f))
                have Y9 := (((((hY.ups u9).far (p := ⟨gR, 0, none⟩) (by simp only; omega) (.string s)).far (p := ⟨gR, 1, none⟩) (by simp only; omega) (.slice (some ⟨g, 0, none⟩) k c')).far (p := ⟨gR, 2, none⟩) (by simp only; omega) (.slice G j d)).far (p := ⟨gR, 3, none⟩) (by simp only; omega) (.int .i64 f))
                generalize ((((w9.setCell ⟨gR, 0, none⟩ (.string s)).setCell ⟨gR, 1, none⟩ (.slice (some ⟨g, 0, none⟩) k c')).setCell ⟨gR, 2, none⟩ (.slice G j d)).setCell ⟨gR, 3, none⟩ (.int .i64 f)) = W9 at B9 U9 P9 Y9 ⊢
                have z0 := (B9 0 _ rfl).1
                have z1 := (B9 1 _ rfl).1
                have z2 := (B9 2 _ rfl).1
                have z3 := (B9 3 _ rfl).1
                refine bodyPost_ret (v := (.tuple #[loV s (some ⟨g, 0, none⟩) k c' G j d f, .int .i64 0])) (by simp [results, Try.f13, go_sem, z0, z1, z2, z3]) rfl ?_
                exact unhide HP0 (unhide hE3) _ _ _ _ W9 (pcs_bxP P9) Y9.eyes U9
              · have hE3 := hide hE2
                go_upto_region 23 with fail
                go_wp2_with (go_at_call 36; (with_reducible refine (unhide HRn _ c' _ d _ hpP hpY hE2).mono ?_); rintro e w9 ⟨rfl, u9⟩; have T9 := hT.ups u9; have r0 := (T9.2.1 0 _ rfl).1; have r1 := (T9.2.1 1 _ rfl).1; have r2 := (T9.2.1 2 _ rfl).1; have r3 := (T9.2.1 3 _ rfl).1; have f0 := (T9.2.1 0 _ rfl).2; have f1 := (T9.2.1 1 _ rfl).2; have f2 := (T9.2.1 2 _ rfl).2; have f3 := (T9.2.1 3 _ rfl).2)
                have B9 := (bx_set (bx_set (bx_set (bx_set T9.2.1 0 (.string { data := #[] })) 1 (.slice none 0 0)) 2 (.slice none 0 0)) 3 (.int .i64 0))
                have U9 := (up_set (up_set (up_set (up_set T9.2.2 (p := ⟨gR, 0, none⟩) (by simp only; omega) (.string { data := #[] })) (p := ⟨gR, 1, none⟩) (by simp only; omega) (.slice none 0 0)) (p := ⟨gR, 2, none⟩) (by simp only; omega) (.slice none 0 0)) (p := ⟨gR, 3, none⟩) (by simp only; omega) (.int .i64 0))
                generalize ((((w9.setCell ⟨gR, 0, none⟩ (.string { data := #[] })).setCell ⟨gR, 1, none⟩ (.slice none 0 0)).setCell ⟨gR, 2, none⟩ (.slice none 0 0)).setCell ⟨gR, 3, none⟩ (.int .i64 0)) = W9 at B9 U9 ⊢
                have z0 := (B9 0 _ rfl).1
                have z1 := (B9 1 _ rfl).1
                have z2 := (B9 2 _ rfl).1
                have z3 := (B9 3 _ rfl).1
                refine bodyPost_ret (v := (.tuple #[lo0L, .int .i64 4])) (by simp [results, Try.f13, go_sem, z0, z1, z2, z3]) rfl ?_
                exact unhide HP4 (unhide hE3) W9 U9
end Go.Proofs.Ytdehnokcjnbjoaa
