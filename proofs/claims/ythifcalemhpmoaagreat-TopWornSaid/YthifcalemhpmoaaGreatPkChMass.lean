/- chain.Mass: what all units weigh. What each axle of each unit carries: the program's. What each unit carries of a mass, and what each axle carries: numbers and lists. Lists of numbers that the call itself has made. Platforms on the ground: the heights of the ground as a list, their sums by groups, bounds. -/
import Derived.Test.YthifcalemhpmoaaGreatPkShares
import Derived.Deep.RegionLaw
import Derived.OwnWalk
import Derived.Test.YthifcalemhpmoaaGreatPkRefVeh
import Derived.Test.YthifcalemhpmoaaGreatPkLever
import Derived.Test.YthifcalemhpmoaaGreatPkMom
import Derived.Deep.OwnRows
import Derived.Test.YthifcalemhpmoaaGreatPkVehC
namespace Go.Proofs.YthifcalemhpmoaaGreat
open Go.RowKit Go.Proofs.Gn
/-- The slice at A holds these numbers. -/
def Ints (w : World) (A : Option Addr) (gs : List Int) : Prop :=
  gs = [] ∨ ∃ b off, A = some ⟨b, off, none⟩ ∧ ∀ k (h : k < gs.length), w.cell? ⟨b, off + k, none⟩ = some (.int .i64 gs[k])
theorem ints_up {w w' : World} {A : Option Addr} {gs : List Int} (h : Ints w A gs) (hu : Up w w') : Ints w' A gs := by
  rcases h with h | ⟨b, off, hA, hc⟩
  · exact .inl h
  · exact .inr ⟨b, off, hA, fun k hk => up_cell hu (hc k hk)⟩
def cG (g : Int) : List (Gs.Sup × Int) → Int
  | [] => 0
  | x :: l => (if x.1.g = g then x.2 else 0) + cG g l
theorem cG_snoc (g : Int) (l : List (Gs.Sup × Int)) (x : Gs.Sup × Int) : cG g (l ++ [x]) = cG g l + (if x.1.g = g then x.2 else 0) := by
  induction l with
  | nil => simp [cG]
  | cons y l ih => simp only [List.cons_append, cG, ih]; omega
theorem cG_take {l : List (Gs.Sup × Int)} {k : Nat} (g : Int) (h : k < l.length) : cG g (l.take (k + 1)) = cG g (l.take k) + (if l[k].1.g = g then l[k].2 else 0) := by
  rw [List.take_succ_eq_append_getElem h, cG_snoc]
/-- The sum of the ground below the first supports of a group. -/
def gk (g : Int) (ps : List Gs.Sup) (gs : List Int) (k : Nat) : Int := cG g ((ps.zip gs).take k)
theorem gk_zero (g : Int) (ps : List Gs.Sup) (gs : List Int) : gk g ps gs 0 = 0 := by unfold gk; simp [cG]
theorem gk_succ (g : Int) {ps : List Gs.Sup} {gs : List Int} {k : Nat} (h : k < ps.length) (h2 : k < gs.length) : gk g ps gs (k + 1) = gk g ps gs k + (if ps[k].g = g then gs[k] else 0) := by
  unfold gk
  have hz : k < (ps.zip gs).length := by rw [List.length_zip]; omega
  rw [cG_take g hz]
  simp
def gsB (gs : List Int) : Bool := gs.all fun x => win x (-16384) 16384
theorem gsB_at {gs : List Int} (h : gsB gs = true) {k : Nat} (hk : k < gs.length) : -16384 ≤ gs[k] ∧ gs[k] ≤ 16384 := (win_iff _ _ _).1 (List.all_eq_true.1 h gs[k] (List.getElem_mem hk))
theorem gsB_take_succ {gs : List Int} {k : Nat} (h : k < gs.length) : gsB (gs.take (k + 1)) = (gsB (gs.take k) && win gs[k] (-16384) 16384) := by
  unfold gsB
  rw [List.take_succ_eq_append_getElem h, List.all_append]
  simp
theorem gsB_no {gs : List Int} {k : Nat} (h : k < gs.length) (hk : win gs[k] (-16384) 16384 = false) : gsB gs = false := by
  cases hb : gsB gs
  · rfl
  · have := List.all_eq_true.1 hb gs[k] (List.getElem_mem h)
    rw [hk] at this; cases this
theorem gk_bd {ps : List Gs.Sup} {gs : List Int} {k : Nat} (hb : gsB (gs.take k) = true) (h : k ≤ ps.length) (h2 : k ≤ gs.length) (g : Int) : -(16384 * (k : Int)) ≤ gk g ps gs k ∧ gk g ps gs k ≤ 16384 * (k : Int) := by
  induction k with
  | zero => rw [gk_zero]; omega
  | succ k ih =>
    rw [gsB_take_succ (by omega), Bool.and_eq_true, win_iff] at hb
    have := ih hb.1 (by omega) (by omega)
    rw [gk_succ g (by omega) (by omega)]
    split <;> omega
theorem prod_bd {a b c : Int} (ha : 0 ≤ a) (hb : 0 ≤ b) (hc : 0 ≤ c) (h : a + b + c ≤ 48) : 0 ≤ b * c ∧ b * c ≤ 576 ∧ 0 ≤ a * (b * c) ∧ a * (b * c) ≤ 27648 := by
  have h1 : 0 ≤ b * c := Int.mul_nonneg hb hc
  have h2 : 0 ≤ (b - c) * (b - c) := by
    rcases Int.le_total c b with x | x
    · exact Int.mul_nonneg (by omega) (by omega)
    · have : (b - c) * (b - c) = (c - b) * (c - b) := by grind
      rw [this]; exact Int.mul_nonneg (by omega) (by omega)
  have h3 : (b + c) * (b + c) ≤ 48 * 48 := (Gs.mb (u := b + c) (v := b + c) (U := 48) (V := 48) (by omega) (by omega) (by omega) (by omega)).2
  have h4 : (b - c) * (b - c) = (b + c) * (b + c) - 4 * (b * c) := by grind
  have h5 : b * c ≤ 576 := by omega
  have h6 := Gs.mb (u := a) (v := b * c) (U := 48) (V := 576) (by omega) (by omega) (by omega) (by omega)
  exact ⟨h1, h5, Int.mul_nonneg ha h1, by omega⟩
theorem m_bd {x y n m : Int} (U V : Int) (_hn : 0 ≤ U) (hx : -(U * n) ≤ x ∧ x ≤ U * n) (hy : -(V * m) ≤ y ∧ y ≤ V * m) : -(U * V * (n * m)) ≤ x * y ∧ x * y ≤ U * V * (n * m) := by
  have h := Gs.mb hx.1 hx.2 hy.1 hy.2
  have e : U * n * (V * m) = U * V * (n * m) := by grind
  rw [e] at h
  exact h
theorem wh_small {ps : List Gs.Sup} (ho : Gs.okA ps = true) (hn : ps.length ≤ 48) : -2849934139195392 ≤ Gs.wh ps ∧ Gs.wh ps ≤ 2849934139195392 := by
  have l := Gs.cN_len ho
  have n0 := Gs.cN_nonneg 0 ps
  have n1 := Gs.cN_nonneg 1 ps
  have n2 := Gs.cN_nonneg 2 ps
  have x0 := Gs.cX_bd 0 ho
  have x1 := Gs.cX_bd 1 ho
  have x2 := Gs.cX_bd 2 ho
  have y0 := Gs.cY_bd 0 ho
  have y1 := Gs.cY_bd 1 ho
  have y2 := Gs.cY_bd 2 ho
  unfold Gs.wh Gs.dt
  generalize Gs.cN 0 ps = a at *
  generalize Gs.cN 1 ps = b at *
  generalize Gs.cN 2 ps = c at *
  generalize Gs.cX 0 ps = xa at *
  generalize Gs.cX 1 ps = xb at *
  generalize Gs.cX 2 ps = xc at *
  generalize Gs.cY 0 ps = ya at *
  generalize Gs.cY 1 ps = yb at *
  generalize Gs.cY 2 ps = yc at *
  obtain ⟨p1, p2, p3, p4⟩ := prod_bd n0 n1 n2 (by omega)
  have q1 := m_bd 131072 131072 (by omega) x1 y2
  have q2 := m_bd 131072 131072 (by omega) y1 x2
  have q3 := m_bd (x := yb) (y := c) (n := b) (m := c) 131072 1 (by omega) y1 (by omega)
  have q4 := m_bd (x := b) (y := yc) (n := b) (m := c) 1 131072 (by omega) (by omega) y2
  have q5 := m_bd (x := b) (y := xc) (n := b) (m := c) 1 131072 (by omega) (by omega) x2
  have q6 := m_bd (x := xb) (y := c) (n := b) (m := c) 131072 1 (by omega) x1 (by omega)
  have r1 := m_bd (x := a) (y := xb * yc - yb * xc) (n := a) (m := b * c) 1 34359738368 (by omega) (by omega) (by omega)
  have r2 := m_bd (x := xa) (y := yb * c - b * yc) (n := a) (m := b * c) 131072 262144 (by omega) x0 (by omega)
  have r3 := m_bd (x := ya) (y := b * xc - xb * c) (n := a) (m := b * c) 131072 262144 (by omega) y0 (by omega)
  omega
theorem paD_bd {ps : List Gs.Sup} (h : chE ps = 0) : 1 ≤ paD ps ∧ paD ps ≤ 2849934139195392 := by
  obtain ⟨o1, o2, o3, o4⟩ := chE_ok h
  have b := wh_small o1 o2
  unfold paD
  rcases Int.lt_or_gt_of_ne o4 with x | x
  · rw [pv_neg x]; omega
  · rw [pv_pos x]; omega
theorem dv_bd {p l D : Int} (hD : 1 ≤ D) (hp : -(1024 * D) ≤ p ∧ p ≤ 1024 * D) (hl : -983040 ≤ l ∧ l ≤ 983040) : -1006632960 ≤ p * l / D ∧ p * l / D ≤ 1006632960 := by
  have h := Gs.mb hp.1 hp.2 hl.1 hl.2
  have e : 1024 * D * 983040 = 1006632960 * D := by omega
  rw [e] at h
  refine ⟨(Int.le_ediv_iff_mul_le (by omega)).2 (by omega), ?_⟩
  have := (Int.ediv_lt_iff_lt_mul (a := p * l) (b := 1006632961) (show 0 < D by omega)).2 (by omega)
  omega
/-- A part is beyond. -/
def ov (p D : Int) : Bool := decide (1024 * D < amt p)
theorem ov_no {p D : Int} (h : ov p D = false) : -(1024 * D) ≤ p ∧ p ≤ 1024 * D := by
  unfold ov at h
  rw [decide_eq_false_iff_not] at h
  unfold amt at h
  split at h <;> omega
def hoB (ps : List Gs.Sup) (X Y : Int) : Bool := ov (pa0 ps X Y) (paD ps) || (ov (pa1 ps X Y) (paD ps) || ov (pa2 ps X Y) (paD ps))
def hoE (ps : List Gs.Sup) (X Y : Int) : Int := if hoB ps X Y then 4 else 0
def hoS (ps : List Gs.Sup) (X Y l0 l1 l2 : Int) : Int := pa0 ps X Y * l0 / paD ps + pa1 ps X Y * l1 / paD ps + pa2 ps X Y * l2 / paD ps
def hoV (ps : List Gs.Sup) (X Y l0 l1 l2 : Int) : Int := if hoB ps X Y then 0 else hoS ps X Y l0 l1 l2
end Go.Proofs.YthifcalemhpmoaaGreat
set_option linter.unusedVariables false
namespace Go.Proofs.YthifcalemhpmoaaGreat
open Go.RowKit Go.Proofs.Gn
theorem own_upI {W W' : World} {base e size n : Nat} {v : Value} {xs : List Value} (h : W.ownsRow base e size v n xs) (hu : Up W W') : W'.ownsRow base e size v n xs := by
  rcases h with ⟨hl, h | ⟨g, cap, cur, rfl, hb, hg, h⟩⟩
  · exact ⟨hl, .inl h⟩
  · refine ⟨hl, .inr ⟨g, cap, cur, rfl, hb, ?_, h⟩⟩
    rw [hu.block g (Array.getElem?_eq_some_iff.1 hg).1]
    exact hg
def cellsI (l : List Int) : List Value := l.map fun x => .int .i64 x
theorem cellsI_snoc (l : List Int) (x : Int) : cellsI (l ++ [x]) = cellsI l ++ [.int .i64 x] := by simp [cellsI]
theorem cellsI_length (l : List Int) : (cellsI l).length = l.length := by simp [cellsI]
theorem info_i64I : (Tryz.prog.info? 2).map (fun i => (i.zero, i.size, i.bytes)) = some (some (.int .i64 0), 1, 8) := by kernel_rfl
theorem one_newI (W : World) (x : Value) (t : TypeId) : ∀ j u, [x][j]? = some u → (W.alloc (.cells #[x] t)).cell? ((⟨W.heap.size, 0, none⟩ : Addr).add j) = some u := by
  intro j u hj
  have b := bx_new W [x] t
  match j, hj with
  | 0, hj => simp at hj; subst hj; exact bx1 b
  | (j + 1), hj => simp at hj
theorem own_ints {W : World} {base e n : Nat} {v : Value} {l : List Int} (h : W.ownsRow base e 1 v n (cellsI l)) : ∃ A cap, v = .slice A l.length cap ∧ Ints W A l := by
  have hn : n = l.length := by
    have hl : (cellsI l).length = n * 1 := h.1
    rw [cellsI_length] at hl
    omega
  subst hn
  rcases h.2 with ⟨h1, h2⟩ | ⟨g, cap, cur, rfl, _⟩
  · have e0 : l = [] := by cases l with
      | nil => rfl
      | cons a l => simp at h2
    subst e0
    exact ⟨_, _, h1, .inl rfl⟩
  · refine ⟨_, _, rfl, .inr ⟨g, 0, rfl, fun k hk => ?_⟩⟩
    rw [Nat.zero_add, h.cellAt k (by omega)]
    simp [cellsI, hk]
theorem own_grown {w W W' w1 : World} {v v' : Value} {k e : Nat} {xs ys : List Value} (ho : W'.ownsRow w.heap.size e 1 v k xs) (hb : Up w W) (hg : W.grownBy w1 v.ownBlock) : Up w w1 :=
  hb.grown hg hb.size fun j hj => (ho.lt j hj).1
/-- K is the first of n steps that fails, or n. -/
def Fsn (n : Nat) (s : Nat → Bool) (K : Nat) : Prop := K ≤ n ∧ (∀ j, j < K → s j = false) ∧ (K < n → s K = true)
theorem fsn_ex (n : Nat) (s : Nat → Bool) : ∃ K, Fsn n s K := by
  have h : ∀ m, m ≤ n → (∃ K, Fsn n s K) ∨ ∀ j, j < m → s j = false := by
    intro m
    induction m with
    | zero => exact fun _ => .inr (fun j hj => absurd hj (by omega))
    | succ m ih =>
      intro hn
      rcases ih (by omega) with h | h
      · exact .inl h
      · cases hs : s m
        · refine .inr (fun j hj => ?_)
          by_cases e : j = m
          · subst e; exact hs
          · exact h j (by omega)
        · exact .inl ⟨m, by omega, h, fun _ => hs⟩
  rcases h n (by omega) with h | h
  · exact h
  · exact ⟨n, by omega, h, fun hx => absurd hx (by omega)⟩
theorem fsn_stop {n : Nat} {s : Nat → Bool} {K k : Nat} (h : Fsn n s K) (hk : k ≤ K) (hs : s k = true) : k = K := by
  by_cases e : k < K
  · rw [h.2.1 k e] at hs; cases hs
  · omega
theorem fsn_go {n : Nat} {s : Nat → Bool} {K k : Nat} (h : Fsn n s K) (hk : k ≤ K) (hl : k < n) (hs : s k = false) : k < K := by
  by_cases e : k < K
  · exact e
  · obtain rfl : k = K := by omega
    rw [h.2.2 hl] at hs; cases hs
theorem at_xi {F : Act → World → Prop} {a : Act} {w : World} (h : ∀ W, W = w → F a W) : F a w := h w rfl
end Go.Proofs.YthifcalemhpmoaaGreat
namespace Go.Proofs.YthifcalemhpmoaaGreat
open Go.RowKit Go.Proofs.Gn
theorem up_bd0 {n d t : Int} (hn : 0 ≤ n) (hd : 1 ≤ d) (ht : 0 ≤ t ∧ t ≤ d) : 0 ≤ up n d t ∧ up n d t ≤ n := by
  unfold up
  have a : n * t ≤ n * d := Int.mul_le_mul_of_nonneg_left ht.2 hn
  have b : 0 ≤ n * t := Int.mul_nonneg hn ht.1
  have e : n * -t = -(n * t) := by rw [Int.mul_neg]
  rw [e]
  have c : -n ≤ -(n * t) / d := (Int.le_ediv_iff_mul_le (by omega)).2 (by rw [Int.neg_mul]; omega)
  have g : -(n * t) / d ≤ 0 := by
    have := Int.ediv_le_ediv (c := d) (by omega) (show -(n * t) ≤ 0 by omega)
    simpa using this
  omega
/-- What unit i carries. -/
def caI (f t : Nat) (m P Q : Int) (i : Nat) : Int := if f = t then (if i = f then m else 0) else (if i = f then P else if i = t then Q else 0)
def rep (n : Nat) : List Value := List.replicate n (.int .i64 0)
def caL (n f t : Nat) (m P Q : Int) : List Value := if f = t then (rep n).set f (.int .i64 m) else ((rep n).set f (.int .i64 P)).set t (.int .i64 Q)
theorem made_rep (n : Nat) : madeCells #[.int .i64 0] n = (rep n).toArray := by
  apply Array.ext
  · simp [size_madeCells, rep]
  · intro i h1 h2
    simp [madeCells, rep, Nat.mod_one]
theorem caL_get {n f t : Nat} {m P Q : Int} {i : Nat} (hi : i < n) (hf : f < n) (ht : t < n) : (caL n f t m P Q)[i]? = some (.int .i64 (caI f t m P Q i)) := by
  unfold caL caI rep
  by_cases h : f = t
  · rw [if_pos h, if_pos h, List.getElem?_set]
    by_cases e : f = i
    · rw [if_pos e, if_pos (by simpa using hf), if_pos e.symm]
    · rw [if_neg e, if_neg (fun x => e x.symm)]; simp [hi]
  · rw [if_neg h, if_neg h, List.getElem?_set, List.getElem?_set]
    by_cases e : t = i
    · rw [if_pos e, if_pos (by simpa using ht), if_neg (fun x => h (x.symm.trans e.symm)), if_pos e.symm]
    · rw [if_neg e]
      by_cases e2 : f = i
      · rw [if_pos e2, if_pos (by simpa using hf), if_pos e2.symm]
      · rw [if_neg e2, if_neg (fun x => e2 x.symm), if_neg (fun x => e x.symm)]; simp [hi]
theorem rep_len (n : Nat) : (rep n).length = n := by unfold rep; simp
theorem bx_at {W : World} {b : Nat} {vs : List Value} (h : Bx W b vs) {i : Nat} (hi : i < vs.length) : W.cell? ⟨b, i, none⟩ = some vs[i] ∧ W.frozen? ⟨b, i, none⟩ = false := h i _ (List.getElem?_eq_getElem hi)
set_option maxRecDepth 100000 in
set_option maxHeartbeats 8000000 in
theorem p_onUnits (s : ByteArray) (A : Option Addr) (n cap f t : Nat) (m L u : Int) (w : World) (hn : n ≤ 12) (hf : f ≤ t) (ht : t < n) (hm : 1 ≤ m ∧ m ≤ 16777216) (hL : 1 ≤ L ∧ L ≤ 16777216) (hu : 0 ≤ u ∧ u ≤ L) :
    Calls Tryz.prog 64 #[veV s A n cap (f : Nat) (t : Nat), .int .i64 m, .int .i64 L, .int .i64 u] w fun e w' => ∃ g : Nat, e = .returned (.slice (some ⟨g, 0, none⟩) n n) ∧ Bx w' g (caL n f t m (up m L (L - u)) (up m L u)) ∧ w.heap.size ≤ g ∧ Up w w' := by
  have HL := hide (fun W => p_lever m L u W hm ⟨hL.1, by omega⟩ hu)
  have hmk : ∀ W : World, (Instr.makeSlice 84 (.int .i64 (n : Int)) (.int .i64 (n : Int))).run Tryz.prog W = .ok (.slice (some ⟨W.heap.size, 0, none⟩) n n) (W.alloc (.cells (rep n).toArray 2)) := fun W => by
    rw [← made_rep]
    exact run_make_row' 84 2 (.int .i64 0) 8 Tryz.underlying84 info_i64I rfl .i64 .i64 n (by omega) (by omega) W
  have g1 : (0 : Int) ≤ f := by omega
  have g2 : (f : Int) < n := by omega
  have g3 : (0 : Int) ≤ t := by omega
  have g4 : (t : Int) < n := by omega
  have g5 : f < n := by omega
  unfold caL
  generalize up m L (L - u) = P at *
  generalize up m L u = Q at *
  clear hm hL hu
  have hr := rep_len n
  obtain ⟨R, hR⟩ : ∃ R, rep n = R := ⟨_, rfl⟩
  rw [hR] at hr hmk ⊢
  clear hR
  have HR := hide hr
  clear hr
  go_enter Tryz.func64, Tryz.ntmps64
  go_upto_region 1 with fail
  refine at_wp (fun W0 hW0 => ?_)
  have U0 : Up w W0 := by rw [hW0]; exact (by repeat' (first | (with_reducible exact up_refl _) | (with_reducible assumption) | (with_reducible refine up_alloc ?_ _) | (with_reducible refine up_drewN ?_ _) | (with_reducible refine up_drew ?_) | (with_reducible refine up_set ?_ (by first | (simp; done) | (simp; omega) | omega) _) | (refine up_trans ?_ (by with_reducible assumption))))
  have B0 : Bx W0 w.heap.size [.string s, .slice A n cap, .int .i64 (f : Nat), .int .i64 (t : Nat)] := by rw [hW0]; exact bx_new w _ 70
  clear hW0
  have c1 := (B0 1 _ rfl).1
  go_upto_region 2 with fail
  refine at_wp (fun W1 hW1 => ?_)
  have u1 : Up W0 W1 := by rw [hW1]; exact (by repeat' (first | (with_reducible exact up_refl _) | (with_reducible assumption) | (with_reducible refine up_alloc ?_ _) | (with_reducible refine up_drewN ?_ _) | (with_reducible refine up_drew ?_) | (with_reducible refine up_set ?_ (by first | (simp; done) | (simp; omega) | omega) _) | (refine up_trans ?_ (by with_reducible assumption))))
  have R1 : Bx W1 W0.heap.size R := by rw [hW1]; exact bx_new W0 R 2
  have B1 := bx_up B0 u1
  have U1 := up_trans U0 u1
  have z0 := bx_lt B0 (by simp)
  clear hW1 u1 B0 c1 hmk
  have c2 := (B1 2 _ rfl).1
  have c3 := (B1 3 _ rfl).1
  have rf := bx_at R1 (i := f) (by rw [unhide HR]; exact g5)
  have rt := bx_at R1 (i := t) (by rw [unhide HR]; omega)
  obtain ⟨rf1, rf2⟩ := rf
  obtain ⟨rt1, rt2⟩ := rt
  generalize R[f]'_ = vf at rf1
  generalize R[t]'_ = vt at rt1
  obtain ⟨G, hG⟩ : ∃ G, W0.heap.size = G := ⟨_, rfl⟩
  rw [hG] at R1 rf1 rf2 rt1 rt2 z0 ⊢
  have zG : w.heap.size ≤ G := by have := up_size U0; omega
  clear hG U0
  by_cases e : f = t
  · subst e
    go_wp2_with fail
    go_ret
    exact ⟨G, rfl, by first | exact bx_set R1 f _ | (rw [if_pos rfl]; exact bx_set R1 f _), zG, up_set U1 zG _⟩
  · have e1 : ((f : Int) == (t : Int)) = false := by simp; omega
    have e2 : ¬ t = f := fun x => e x.symm
    go_upto_region 4 with fail
    go_region_held3 (fun wx => wx.cell? ⟨w.heap.size, 2, none⟩ = some (.int .i64 (f : Nat)) ∧ wx.cell? ⟨w.heap.size, 3, none⟩ = some (.int .i64 (t : Nat)) ∧ Up w wx) ((go_split_ands; refine ⟨?_, ?_, ?_⟩ <;> (first | assumption | go_cell | exact (by repeat' (first | (with_reducible exact up_refl _) | (with_reducible assumption) | (with_reducible refine up_alloc ?_ _) | (with_reducible refine up_drewN ?_ _) | (with_reducible refine up_drew ?_) | (with_reducible refine up_set ?_ (by first | (simp; done) | (simp; omega) | omega) _) | (refine up_trans ?_ (by with_reducible assumption)))))))
      (first
        | (go_at_call 50; (with_reducible refine (unhide HL _).mono ?_); rintro e w2 ⟨rfl, hb2⟩; have k2 := up_cell hb2 (p := ⟨w.heap.size, 2, none⟩) (v := .int .i64 (f : Nat)) (by first | exact c2 | go_cell); have k3 := up_cell hb2 (p := ⟨w.heap.size, 3, none⟩) (v := .int .i64 (t : Nat)) (by first | exact c3 | go_cell); have kf1 := up_cell hb2 (p := ⟨G, f, none⟩) (v := vf) (by first | exact rf1 | go_cell); have kt1 := up_cell hb2 (p := ⟨G, t, none⟩) (v := vt) (by first | exact rt1 | go_cell); have kf2 := up_frozen hb2 (p := ⟨G, f, none⟩) (v := vf) (by first | exact rf1 | go_cell) (by first | exact rf2 | (simp; done) | (go_simp; done)); have kt2 := up_frozen hb2 (p := ⟨G, t, none⟩) (v := vt) (by first | exact rt1 | go_cell) (by first | exact rt2 | (simp; done) | (go_simp; done))))
    all_goals
      have hv := up_trans (up_drew (up_refl W1)) hb2
      have hv2 := up_trans U1 hv
      go_wp2_with fail
      go_ret
      exact ⟨G, rfl, by first | exact bx_set (bx_set (bx_up R1 hv) f _) t _ | (rw [if_neg e]; exact bx_set (bx_set (bx_up R1 hv) f _) t _), zG, up_set (up_set hv2 zG _) zG _⟩
end Go.Proofs.YthifcalemhpmoaaGreat
namespace Go.Proofs.YthifcalemhpmoaaGreat
open Go.RowKit Go.Proofs.Gn
def eaV (us : List Unt) (f t : Nat) (m P Q : Int) (k : Nat) : Int := match us[k]? with
  | some u => up (u.ma + caI f t m P Q k) u.xs.length 1
  | none => 0
def heX (e : Int) (xs : List Axl) : Bool := xs.any fun a => decide (a.lim < e)
def eaN (us : List Unt) (f t : Nat) (m P Q : Int) (k : Nat) : Bool := match us[k]? with
  | some u => heX (eaV us f t m P Q k) u.xs
  | none => false
theorem eaV_at {us : List Unt} {f t : Nat} {m P Q : Int} {k : Nat} (h : k < us.length) : eaV us f t m P Q k = up (us[k].ma + caI f t m P Q k) us[k].xs.length 1 := by
  unfold eaV; rw [List.getElem?_eq_getElem h]
theorem eaN_at {us : List Unt} {f t : Nat} {m P Q : Int} {k : Nat} (h : k < us.length) : eaN us f t m P Q k = heX (eaV us f t m P Q k) us[k].xs := by
  unfold eaN; rw [List.getElem?_eq_getElem h]
theorem heX_step {e : Int} {xs : List Axl} {j : Nat} (h : j < xs.length) : heX e (xs.drop j) = (decide (xs[j].lim < e) || heX e (xs.drop (j + 1))) := any_step h
def axR (us : List Unt) (f t : Nat) (m P Q : Int) (k : Nat) : List Int := (List.range k).map (eaV us f t m P Q)
theorem axR_succ (us : List Unt) (f t : Nat) (m P Q : Int) (k : Nat) : axR us f t m P Q (k + 1) = axR us f t m P Q k ++ [eaV us f t m P Q k] := by
  unfold axR; rw [List.range_succ, List.map_append]; rfl
theorem axR_len (us : List Unt) (f t : Nat) (m P Q : Int) (k : Nat) : (axR us f t m P Q k).length = k := by unfold axR; simp
/-- Which error there is, K being the first unit that is loaded too much. -/
def axF (E m L u : Int) (n K : Nat) : Int := if E = 0 then (if msE m = 0 then (if win L 1 16777216 then (if win u 0 L then (if K < n then 14 else 0) else 19) else 3) else 3) else E
def axLs (E : Int) (us : List Unt) (f t : Nat) (m L u : Int) (K : Nat) : List Int := if axF E m L u us.length K = 0 then axR us f t m (up m L (L - u)) (up m L u) us.length else []
theorem p_winS (n a b : Int) (w : World) : Calls Tryz.prog 49 #[.int .i64 n, .int .i64 a, .int .i64 b] w fun e w' => e = .returned (.bool (win n a b)) ∧ w = w' := p_within n a b w
theorem ve_ok {s : ByteArray} {us : List Unt} {f t : Int} (h : veE s us f t = 0) : us.length ≤ 12 ∧ us.all okU = true ∧ us.any bigU = false ∧ 0 ≤ f ∧ f ≤ t ∧ t < us.length := by
  unfold veE at h
  split at h
  · cases h
  · rename_i h1
    split at h
    · rename_i h2
      simp only [Bool.and_eq_true, win_iff, decide_eq_true_eq, auV] at h2
      unfold tmV at h1
      simp only [Bool.or_eq_true, not_or, decide_eq_true_eq, Bool.not_eq_true] at h1
      obtain ⟨_, ⟨a, _⟩, ⟨b, c⟩, d⟩ := h2
      exact ⟨by omega, a, h1.2, b, c, d⟩
    · cases h
theorem okU_get {us : List Unt} (h : us.all okU = true) {k : Nat} (hk : k < us.length) : (1 ≤ us[k].ma ∧ us[k].ma ≤ 1048576) ∧ 0 < us[k].xs.length := by
  have t := List.all_eq_true.1 h _ (List.getElem_mem hk)
  unfold okU axU at t
  simp only [Bool.and_eq_true, decide_eq_true_eq] at t
  exact ⟨(szU_bd t.1).2.2.2.2.2.2.2.1, t.2.2⟩
theorem big_get {us : List Unt} (h : us.any bigU = false) {k : Nat} (hk : k < us.length) : us[k].xs.length ≤ 24 := by
  rw [List.any_eq_false] at h
  have t := h _ (List.getElem_mem hk)
  unfold bigU at t
  simp only [decide_eq_true_eq] at t
  omega
theorem caI_bd {f t : Nat} {m P Q : Int} (hm : 1 ≤ m ∧ m ≤ 16777216) (hP : 0 ≤ P ∧ P ≤ m) (hQ : 0 ≤ Q ∧ Q ≤ m) (k : Nat) : 0 ≤ caI f t m P Q k ∧ caI f t m P Q k ≤ 16777216 := by
  unfold caI
  split <;> split <;> (try split) <;> omega
theorem ms_ok {m : Int} (h : msE m = 0) : 1 ≤ m ∧ m ≤ 16777216 := by
  unfold msE at h
  split at h
  · rename_i h1; exact (win_iff _ _ _).1 h1
  · cases h
theorem ms_no {m : Int} (h : ¬ msE m = 0) : msE m = 3 := by
  unfold msE at h ⊢
  split
  · rename_i h1; rw [if_pos h1] at h; exact absurd rfl h
  · rfl
theorem ax_len {E : Int} {us : List Unt} {f t : Nat} {m L u : Int} {K : Nat} (h : ¬ axF E m L u us.length K = 0) : axLs E us f t m L u K = [] := by unfold axLs; rw [if_neg h]
set_option maxRecDepth 100000 in
set_option maxHeartbeats 40000000 in
theorem p_Axles (s : ByteArray) (A : Option Addr) (us : List Unt) (cap : Nat) (f t m L u : Int) (K : Nat) (hK : Fsn us.length (eaN us f.toNat t.toNat m (up m L (L - u)) (up m L u)) K) (w : World) (h : Unts w A us) (hn : us.length ≤ 9223372036854775807) :
    Calls Tryz.prog 28 #[veV s A us.length cap f t, .int .i64 m, .int .i64 L, .int .i64 u] w fun e w' => (∃ A' c', e = .returned (.tuple #[.slice A' (axLs (veE s us f t) us f.toNat t.toNat m L u K).length c', .int .i64 (axF (veE s us f t) m L u us.length K)]) ∧ Ints w' A' (axLs (veE s us f t) us f.toNat t.toNat m L u K)) ∧ Up w w' := by
  have HC := hide (fun W (hW : Up w W) => p_CheckV s A us cap f t W (unts_up h hW) hn)
  have HM := hide (fun W => p_checkMass m W)
  have HW1 := hide (fun W => p_winS L 1 16777216 W)
  have HW2 := hide (fun W => p_winS u 0 L W)
  have HV := hide (fun x : veE s us f t = 0 => ve_ok x)
  have HF : ∀ E0, veE s us f t = E0 → axF (veE s us f t) m L u us.length K = axF E0 m L u us.length K := fun E0 x => by rw [x]
  have HA := hide h
  clear h
  by_cases hE : veE s us f t = 0
  rotate_left
  · have hF : axF (veE s us f t) m L u us.length K = veE s us f t := by unfold axF; rw [if_neg hE]
    have hL := ax_len (us := us) (f := f.toNat) (t := t.toNat) (K := K) (show ¬ axF (veE s us f t) m L u us.length K = 0 by rw [hF]; exact hE)
    rw [hL, hF]
    clear hF hL HF HV hK HA
    generalize veE s us f t = E at *
    generalize us.length = n at *
    have ht : (E == 0) = false := by simp [hE]
    have HH := hide hE
    clear hE HM HW1 HW2
    go_enter Tryz.func28, Tryz.ntmps28
    go_upto_region 1 with fail
    refine at_wp (fun W0 hW0 => ?_)
    have U0 : Up w W0 := by rw [hW0]; exact (by repeat' (first | (with_reducible exact up_refl _) | (with_reducible assumption) | (with_reducible refine up_alloc ?_ _) | (with_reducible refine up_drewN ?_ _) | (with_reducible refine up_drew ?_) | (with_reducible refine up_set ?_ (by first | (simp; done) | (simp; omega) | omega) _) | (refine up_trans ?_ (by with_reducible assumption))))
    have B0 : Bx W0 w.heap.size [.string s, .slice A n cap, .int .i64 f, .int .i64 t] := by rw [hW0]; exact bx_new w _ 70
    clear hW0
    have c0 := (B0 0 _ rfl).1
    have c1 := (B0 1 _ rfl).1
    have c2 := (B0 2 _ rfl).1
    have c3 := (B0 3 _ rfl).1
    go_wp2_with (first | (go_at_call 43; (with_reducible refine (unhide HC _ U0).mono ?_); rintro e w1 ⟨rfl, hb1⟩; have U1 := up_trans U0 hb1; have B1 := bx_up B0 hb1; have e0 := (B1 0 _ rfl).1; have e1 := (B1 1 _ rfl).1; have e2 := (B1 2 _ rfl).1; have e3 := (B1 3 _ rfl).1))
    go_ret2
    exact ⟨⟨none, 0, rfl, .inl rfl⟩, U1⟩
  have hV := unhide HV hE
  rw [hE] at HC
  by_cases hM : msE m = 0
  rotate_left
  · have hF : axF (veE s us f t) m L u us.length K = 3 := by unfold axF; rw [if_pos hE, if_neg hM]
    have hL := ax_len (us := us) (f := f.toNat) (t := t.toNat) (K := K) (show ¬ axF (veE s us f t) m L u us.length K = 0 by rw [hF]; decide)
    rw [hL, hF]
    clear hF hL HF HV hK HA
    rw [ms_no hM] at HM
    generalize us.length = n at *
    clear hM HW1 HW2 hV
    go_enter Tryz.func28, Tryz.ntmps28
    go_upto_region 1 with fail
    refine at_wp (fun W0 hW0 => ?_)
    have U0 : Up w W0 := by rw [hW0]; exact (by repeat' (first | (with_reducible exact up_refl _) | (with_reducible assumption) | (with_reducible refine up_alloc ?_ _) | (with_reducible refine up_drewN ?_ _) | (with_reducible refine up_drew ?_) | (with_reducible refine up_set ?_ (by first | (simp; done) | (simp; omega) | omega) _) | (refine up_trans ?_ (by with_reducible assumption))))
    have B0 : Bx W0 w.heap.size [.string s, .slice A n cap, .int .i64 f, .int .i64 t] := by rw [hW0]; exact bx_new w _ 70
    clear hW0
    have c0 := (B0 0 _ rfl).1
    have c1 := (B0 1 _ rfl).1
    have c2 := (B0 2 _ rfl).1
    have c3 := (B0 3 _ rfl).1
    go_wp2_with (first | (go_at_call 43; (with_reducible refine (unhide HC _ U0).mono ?_); rintro e w1 ⟨rfl, hb1⟩; have U1 := up_trans U0 hb1; have B1 := bx_up B0 hb1; have e0 := (B1 0 _ rfl).1; have e1 := (B1 1 _ rfl).1; have e2 := (B1 2 _ rfl).1; have e3 := (B1 3 _ rfl).1) | (go_at_call 48; (with_reducible refine (unhide HM _).mono ?_); rintro e v1 ⟨rfl, rfl⟩))
    go_ret2
    exact ⟨⟨none, 0, rfl, .inl rfl⟩, U1⟩
  rw [hM] at HM
  have hm := ms_ok hM
  cases hW1 : win L 1 16777216
  · rw [hW1] at HW1
    have hF : axF (veE s us f t) m L u us.length K = 3 := by unfold axF; rw [if_pos hE, if_pos hM, if_neg (by rw [hW1]; simp)]
    have hL := ax_len (us := us) (f := f.toNat) (t := t.toNat) (K := K) (show ¬ axF (veE s us f t) m L u us.length K = 0 by rw [hF]; decide)
    rw [hL, hF]
    clear hF hL HF HV hK HA
    generalize us.length = n at *
    clear hM HW2 hV hW1 hm
    go_enter Tryz.func28, Tryz.ntmps28
    go_upto_region 1 with fail
    refine at_wp (fun W0 hW0 => ?_)
    have U0 : Up w W0 := by rw [hW0]; exact (by repeat' (first | (with_reducible exact up_refl _) | (with_reducible assumption) | (with_reducible refine up_alloc ?_ _) | (with_reducible refine up_drewN ?_ _) | (with_reducible refine up_drew ?_) | (with_reducible refine up_set ?_ (by first | (simp; done) | (simp; omega) | omega) _) | (refine up_trans ?_ (by with_reducible assumption))))
    have B0 : Bx W0 w.heap.size [.string s, .slice A n cap, .int .i64 f, .int .i64 t] := by rw [hW0]; exact bx_new w _ 70
    clear hW0
    have c0 := (B0 0 _ rfl).1
    have c1 := (B0 1 _ rfl).1
    have c2 := (B0 2 _ rfl).1
    have c3 := (B0 3 _ rfl).1
    go_wp2_with (first | (go_at_call 43; (with_reducible refine (unhide HC _ U0).mono ?_); rintro e w1 ⟨rfl, hb1⟩; have U1 := up_trans U0 hb1; have B1 := bx_up B0 hb1; have e0 := (B1 0 _ rfl).1; have e1 := (B1 1 _ rfl).1; have e2 := (B1 2 _ rfl).1; have e3 := (B1 3 _ rfl).1) | (go_at_call 48; (with_reducible refine (unhide HM _).mono ?_); rintro e v1 ⟨rfl, rfl⟩) | (go_at_call 49; (with_reducible refine (unhide HW1 _).mono ?_); rintro e v2 ⟨rfl, rfl⟩))
    go_ret2
    exact ⟨⟨none, 0, rfl, .inl rfl⟩, U1⟩
  rw [hW1] at HW1
  have hL1 := (win_iff _ _ _).1 hW1
  cases hW2 : win u 0 L
  · rw [hW2] at HW2
    have hF : axF (veE s us f t) m L u us.length K = 19 := by unfold axF; rw [if_pos hE, if_pos hM, if_pos hW1, if_neg (by rw [hW2]; simp)]
    have hL := ax_len (us := us) (f := f.toNat) (t := t.toNat) (K := K) (show ¬ axF (veE s us f t) m L u us.length K = 0 by rw [hF]; decide)
    rw [hL, hF]
    clear hF hL HF HV hK HA
    generalize us.length = n at *
    clear hM hV hW1 hW2 hm hL1
    go_enter Tryz.func28, Tryz.ntmps28
    go_upto_region 1 with fail
    refine at_wp (fun W0 hW0 => ?_)
    have U0 : Up w W0 := by rw [hW0]; exact (by repeat' (first | (with_reducible exact up_refl _) | (with_reducible assumption) | (with_reducible refine up_alloc ?_ _) | (with_reducible refine up_drewN ?_ _) | (with_reducible refine up_drew ?_) | (with_reducible refine up_set ?_ (by first | (simp; done) | (simp; omega) | omega) _) | (refine up_trans ?_ (by with_reducible assumption))))
    have B0 : Bx W0 w.heap.size [.string s, .slice A n cap, .int .i64 f, .int .i64 t] := by rw [hW0]; exact bx_new w _ 70
    clear hW0
    have c0 := (B0 0 _ rfl).1
    have c1 := (B0 1 _ rfl).1
    have c2 := (B0 2 _ rfl).1
    have c3 := (B0 3 _ rfl).1
    go_wp2_with (first | (go_at_call 43; (with_reducible refine (unhide HC _ U0).mono ?_); rintro e w1 ⟨rfl, hb1⟩; have U1 := up_trans U0 hb1; have B1 := bx_up B0 hb1; have e0 := (B1 0 _ rfl).1; have e1 := (B1 1 _ rfl).1; have e2 := (B1 2 _ rfl).1; have e3 := (B1 3 _ rfl).1) | (go_at_call 48; (with_reducible refine (unhide HM _).mono ?_); rintro e v1 ⟨rfl, rfl⟩) | (go_at_call 49; (with_reducible refine (unhide HW1 _).mono ?_); rintro e v2 ⟨rfl, rfl⟩) | (go_at_call 49; (with_reducible refine (unhide HW2 _).mono ?_); rintro e v3 ⟨rfl, rfl⟩))
    go_ret2
    exact ⟨⟨none, 0, rfl, .inl rfl⟩, U1⟩
  rw [hW2] at HW2
  have hu1 := (win_iff _ _ _).1 hW2
  obtain ⟨n12, hall, hbig, f0, ft, tn⟩ := hV
  have E3 := hide (⟨fun x : K < us.length => by unfold axF; rw [if_pos hE, if_pos hM, if_pos hW1, if_pos hW2, if_pos x], fun x : ¬ K < us.length => by unfold axF; rw [if_pos hE, if_pos hM, if_pos hW1, if_pos hW2, if_neg x]⟩ : (K < us.length → axF (veE s us f t) m L u us.length K = 14) ∧ (¬ K < us.length → axF (veE s us f t) m L u us.length K = 0))
  have E4 := hide (⟨fun x => ax_len x, fun x => by unfold axLs; rw [if_pos x]⟩ : (¬ axF (veE s us f t) m L u us.length K = 0 → axLs (veE s us f t) us f.toNat t.toNat m L u K = []) ∧ (axF (veE s us f t) m L u us.length K = 0 → axLs (veE s us f t) us f.toNat t.toNat m L u K = axR us f.toNat t.toNat m (up m L (L - u)) (up m L u) us.length))
  clear HF HV hE hM hW1 hW2
  generalize axF (veE s us f t) m L u us.length K = F at *
  generalize axLs (veE s us f t) us f.toNat t.toNat m L u K = Ls at *
  obtain ⟨fn, rfl⟩ : ∃ fn : Nat, f = (fn : Int) := ⟨f.toNat, by omega⟩
  obtain ⟨tn', rfl⟩ : ∃ tn : Nat, t = (tn : Int) := ⟨t.toNat, by omega⟩
  simp only [Int.toNat_natCast] at *
  have HOn := hide (fun W => p_onUnits s A us.length cap fn tn' m L u W n12 (by omega) (by omega) hm hL1 hu1)
  have hP := up_bd0 (n := m) (d := L) (t := L - u) (by omega) (by omega) (by omega)
  have hQ := up_bd0 (n := m) (d := L) (t := u) (by omega) (by omega) (by omega)
  generalize up m L (L - u) = P at *
  generalize up m L u = Q at *
  have HU := hide (⟨fun k (hk : k < us.length) => okU_get hall hk, fun k (hk : k < us.length) => big_get hbig hk⟩ : (∀ k (hk : k < us.length), _) ∧ (∀ k (hk : k < us.length), _))
  have HCa := hide (fun k => caI_bd (f := fn) (t := tn') hm hP hQ k)
  have HK := hide hK
  have hK1 := hK.1
  have HG := hide (fun k (hk : k < us.length) => caL_get (n := us.length) (f := fn) (t := tn') (m := m) (P := P) (Q := Q) hk (by omega) (by omega))
  clear hK hall hbig hP hQ hL1 hu1 hm f0 ft
  obtain ⟨i0', hi, hz0, hz1, hz2⟩ := info_parts info_i64I
  have HI := hide hi
  clear hi
  obtain ⟨n, hN⟩ : ∃ n, us.length = n := ⟨_, rfl⟩
  have HN := hide hN
  rw [hN] at HC HOn HK hK1 E3 E4 HG n12 tn ⊢
  clear hN hn
  generalize caL n fn tn' m P Q = CL at *
  go_enter Tryz.func28, Tryz.ntmps28
  go_upto_region 1 with fail
  refine at_wp (fun W0 hW0 => ?_)
  have U0 : Up w W0 := by rw [hW0]; exact (by repeat' (first | (with_reducible exact up_refl _) | (with_reducible assumption) | (with_reducible refine up_alloc ?_ _) | (with_reducible refine up_drewN ?_ _) | (with_reducible refine up_drew ?_) | (with_reducible refine up_set ?_ (by first | (simp; done) | (simp; omega) | omega) _) | (refine up_trans ?_ (by with_reducible assumption))))
  have B0 : Bx W0 w.heap.size [.string s, .slice A n cap, .int .i64 (fn : Nat), .int .i64 (tn' : Nat)] := by rw [hW0]; exact bx_new w _ 70
  clear hW0
  have c0 := (B0 0 _ rfl).1
  have c1 := (B0 1 _ rfl).1
  have c2 := (B0 2 _ rfl).1
  have c3 := (B0 3 _ rfl).1
  go_wp2_with (first | (go_at_call 43; (with_reducible refine (unhide HC _ U0).mono ?_); rintro e w1 ⟨rfl, hb1⟩; have U1 := up_trans U0 hb1; have B1 := bx_up B0 hb1; have e0 := (B1 0 _ rfl).1; have e1 := (B1 1 _ rfl).1; have e2 := (B1 2 _ rfl).1; have e3 := (B1 3 _ rfl).1) | (go_at_call 48; (with_reducible refine (unhide HM _).mono ?_); rintro e v1 ⟨rfl, rfl⟩) | (go_at_call 49; (with_reducible refine (unhide HW1 _).mono ?_); rintro e v2 ⟨rfl, rfl⟩) | (go_at_call 49; (with_reducible refine (unhide HW2 _).mono ?_); rintro e v3 ⟨rfl, rfl⟩) | (go_at_call 64; (with_reducible refine (unhide HOn _).mono ?_); rintro e w2 ⟨g, rfl, hG, hgs, hb2⟩))
  have U2 := up_trans U1 hb2
  have B2 := bx_up B1 hb2
  clear HC HM HW1 HW2 HOn hb1 hb2 c0 c1 c2 c3 e0 e1 e2 e3 B0 B1 U0 U1 hgs tn
  obtain ⟨wo, hwo⟩ : ∃ wo, wo = w2 := ⟨_, rfl⟩
  rw [← hwo] at hG U2 B2 ⊢
  clear hwo
  go_loopw [12, 42] (fun s12 s42 wr => ∃ k : Nat, k ≤ K ∧ s42 = .int .i64 k ∧ wr.ownsRow wo.heap.size 2 1 s12 k (cellsI (axR us fn tn' m P Q k)) ∧ Up wo wr) (fun _ s42 _ => n - (intOf s42).toNat)
  case atStart => exact ⟨0, by omega, rfl, World.ownsRow_nil _ _ _ _, up_refl _⟩
  case round =>
    obtain ⟨k, hk, rfl, hown, hu⟩ := hrel
    have HO := hide hown
    clear hown
    have hu2 := up_trans U2 hu
    by_cases hlt : k < n
    · have hl : k < us.length := by rw [unhide HN]; exact hlt
      rcases unts_up (unhide HA) hu2 with hnil | ⟨b, off, rfl, hc⟩
      · rw [hnil] at hl; simp at hl
      obtain ⟨d0, d1, d2, d3, d4, d5, d6, d7, d8, d9, d10, hX, hXn⟩ := hc k hl
      clear hc
      have kg := (bx_up hG hu k _ (unhide HG k hlt)).1
      have B3 := bx_up B2 hu
      have c1 := (B3 1 _ rfl).1
      have eV := eaV_at (us := us) (f := fn) (t := tn') (m := m) (P := P) (Q := Q) hl
      have eN := eaN_at (us := us) (f := fn) (t := tn') (m := m) (P := P) (Q := Q) hl
      have ub := (unhide HU).1 k hl
      have xb := (unhide HU).2 k hl
      have cb := unhide HCa k
      obtain ⟨xs, hxs⟩ : ∃ xs, us[k].xs = xs := ⟨_, rfl⟩
      rw [hxs] at d10 hX hXn eV eN ub xb
      generalize caI fn tn' m P Q k = ci at *
      obtain ⟨kd, hkd⟩ : ∃ t, us[k].kd = t := ⟨_, rfl⟩
      obtain ⟨le, hle⟩ : ∃ t, us[k].le = t := ⟨_, rfl⟩
      obtain ⟨be, hbe⟩ : ∃ t, us[k].be = t := ⟨_, rfl⟩
      obtain ⟨fro, hfro⟩ : ∃ t, us[k].fr = t := ⟨_, rfl⟩
      obtain ⟨re, hre⟩ : ∃ t, us[k].re = t := ⟨_, rfl⟩
      obtain ⟨wid, hwid⟩ : ∃ t, us[k].wi = t := ⟨_, rfl⟩
      obtain ⟨he, hhe⟩ : ∃ t, us[k].he = t := ⟨_, rfl⟩
      obtain ⟨ma, hma⟩ : ∃ t, us[k].ma = t := ⟨_, rfl⟩
      obtain ⟨st, hst⟩ : ∃ t, us[k].st = t := ⟨_, rfl⟩
      obtain ⟨mo, hmo⟩ : ∃ t, us[k].mo = t := ⟨_, rfl⟩
      rw [hkd] at d0
      rw [hle] at d1
      rw [hbe] at d2
      rw [hfro] at d3
      rw [hre] at d4
      rw [hwid] at d5
      rw [hhe] at d6
      rw [hma] at d7
      rw [hst] at d8
      rw [hmo] at d9
      rw [hma] at eV ub
      obtain ⟨XA, hXA⟩ : ∃ t, us[k].A = t := ⟨_, rfl⟩
      obtain ⟨xc, hxc⟩ : ∃ t, us[k].cap = t := ⟨_, rfl⟩
      rw [hXA] at d10 hX
      rw [hxc] at d10
      clear hxs hXA hxc hkd hle hbe hfro hre hwid hhe hma hst hmo
      obtain ⟨xn, hxn⟩ : ∃ xn, xs.length = xn := ⟨_, rfl⟩
      rw [hxn] at d10 hXn eV ub xb
      have HXn := hide hxn
      have HX := hide hX
      clear hxn hX
      obtain ⟨⟨ub1, ub2⟩, ub3⟩ := ub
      obtain ⟨cb1, cb2⟩ := cb
      obtain ⟨ms, hms⟩ : ∃ ms, ma + ci = ms := ⟨_, rfl⟩
      have hw1 : IntKind.i64.wrap (ma + ci) = ms := by rw [hms]; exact IntWalk.i64_in _ ⟨by omega, by omega⟩
      rw [hms] at eV
      have HUp := hide (fun W => p_up ms xn 1 W (by omega) (by omega) (by omega) (by rw [amt_pos (by omega), amt_pos (by omega)]; omega))
      obtain ⟨ev, hev⟩ : ∃ ev, up ms xn 1 = ev := ⟨_, rfl⟩
      rw [hev] at HUp eV
      have EV := hide eV
      have EN := hide (eN.trans (by rw [eV]))
      have hwk : IntKind.i64.wrap ((k : Int) + 1) = (k : Int) + 1 := IntWalk.i64_in _ ⟨by omega, by omega⟩
      clear eV eN hev ub1 ub2 cb1 cb2 hms
      go_upto_region 17 with (go_at_call 63; (with_reducible refine (unhide HUp _).mono ?_); rintro e w6 ⟨rfl, hb6⟩)
      have NB := bx_up (bx_new wr [.int .i64 kd, .int .i64 le, .int .i64 be, .int .i64 fro, .int .i64 re, .int .i64 wid, .int .i64 he, .int .i64 ma, .int .i64 st, .int .i64 mo, .slice XA xn xc] 108) hb6
      have u6 : Up wr w6 := (by repeat' (first | (with_reducible exact up_refl _) | (with_reducible assumption) | (with_reducible refine up_alloc ?_ _) | (with_reducible refine up_drewN ?_ _) | (with_reducible refine up_drew ?_) | (with_reducible refine up_set ?_ (by first | (simp; done) | (simp; omega) | omega) _) | (refine up_trans ?_ (by with_reducible assumption))))
      have HO6 := hide (own_upI (unhide HO) u6)
      have U6 := up_trans hu u6
      have n10 := (NB 10 _ rfl).1
      clear HUp HO hb6 c1 d0 d1 d2 d3 d4 d5 d6 d7 d8 d9 d10 kg hu hu2 B3 hw1
      have HX6 := hide (axls_up (unhide HX) u6)
      clear HX u6
      go_wp2_with fail
      obtain ⟨wv, hwv⟩ : ∃ wv, wv = w6 := ⟨_, rfl⟩
      rw [← hwv] at HO6 U6 HX6 ⊢
      clear hwv n10 NB
      go_loopw [64] (fun s64 wi => ∃ j : Nat, j ≤ xn ∧ s64 = .int .i64 j ∧ Up wv wi ∧ Hid (heX ev xs = heX ev (xs.drop j))) (fun s64 _ => xn - (intOf s64).toNat)
      case atStart => exact ⟨0, by omega, rfl, up_refl _, rfl⟩
      case round =>
        obtain ⟨j, hj, rfl, hv, ho⟩ := hrel
        by_cases hlt2 : j < xn
        · have hl2 : j < xs.length := by rw [unhide HXn]; exact hlt2
          rcases axls_up (unhide HX6) hv with hnil | ⟨bx, offx, rfl, hcx⟩
          · rw [hnil] at hl2; simp at hl2
          obtain ⟨y0, y1, y2⟩ := hcx j hl2
          clear hcx
          have HS := hide ((unhide ho).trans (heX_step hl2))
          have hwj : IntKind.i64.wrap ((j : Int) + 1) = (j : Int) + 1 := IntWalk.i64_in _ ⟨by omega, by omega⟩
          obtain ⟨lm, hlm⟩ : ∃ t, xs[j].lim = t := ⟨_, rfl⟩
          rw [hlm] at y1
          have HS2 := hide (⟨fun x : lm < ev => (by rw [unhide HS, hlm, decide_eq_true x]; rfl : heX ev xs = true), fun x : ¬ lm < ev => (by rw [unhide HS, hlm, decide_eq_false x]; rfl : heX ev xs = heX ev (xs.drop (j + 1)))⟩ : (lm < ev → _) ∧ (¬ lm < ev → _))
          clear ho HS hlm
          by_cases hb : lm < ev
          · have h1 := (unhide HS2).1 hb
            obtain rfl := fsn_stop (unhide HK) hk (by rw [unhide EN]; exact h1)
            have f1' := (unhide E3).1 hlt
            have f2' := (unhide E4).1 (by rw [f1']; decide)
            subst f1' f2'
            clear HS2 E3 E4 HK h1
            go_wp2_with fail
            go_ret2
            exact ⟨⟨none, 0, rfl, .inl rfl⟩, up_alloc (up_trans U2 (up_trans U6 hv)) _⟩
          · have h2 := hide ((unhide HS2).2 hb)
            have hd : decide (lm < ev) = false := decide_eq_false hb
            clear HS2
            go_wp2_with fail
            go_roundw
            case rel => exact ⟨j + 1, by omega, by first | rfl | trivial | go_num, up_alloc hv _, h2⟩
            case measure => simp [intOf]; omega
        · obtain rfl : j = xn := by omega
          have hfin : heX ev xs = false := by rw [unhide ho, List.drop_of_length_le (by rw [unhide HXn]; omega)]; rfl
          have hkK := fsn_go (unhide HK) hk hlt (by rw [unhide EN]; exact hfin)
          have HO7 := hide (own_upI (unhide HO6) hv)
          have U7 := up_trans U6 hv
          clear ho hfin HK E3 E4 HX6 hv HO6 U6 EN
          go_wp2_with (at_builtin; refine wpList_append_own _ rfl _ _ 84 rfl wo.heap.size 2 i0' _ 1 8 Tryz.underlying84 (unhide HI) hz0 hz1 hz2 rfl (by decide) _ k (cellsI (axR us fn tn' m P Q k)) rfl ((unhide HO7).alloc _) ⟨wr.heap.size, 0, none⟩ 1 1 [.int .i64 ev] rfl rfl (one_newI _ _ _) (by intro u hu; simp at hu; rcases hu with rfl; rfl) (by unfold maxLen; omega) (by omega) (by have := U7.size; simp; omega) ?_; intro v' w8 hown' hgrow _)
          have R1 := own_grown (v' := v') (ys := []) (unhide HO7) (up_alloc U7 _) hgrow
          rw [← cellsI_snoc, ← unhide EV, ← axR_succ] at hown'
          have R2 := hide hown'
          clear hown' hgrow EV HO7 U7
          go_wp2_with fail
          go_roundw
          case rel => exact ⟨k + 1, by omega, by first | rfl | trivial | go_num, unhide R2, R1⟩
          case measure => simp [intOf]; omega
    · obtain rfl : k = n := by omega
      have hKe : K = k := by omega
      have f1' := (unhide E3).2 (by omega)
      have f2' := (unhide E4).2 f1'
      obtain ⟨A', c', hv', hI⟩ := own_ints (unhide HO)
      have hlen' := axR_len us fn tn' m P Q k
      rw [← f2'] at hI hv' hlen'
      clear f2' HO E3 E4 HK
      subst hv' f1'
      go_wp2_with fail
      go_ret2
      exact ⟨⟨A', c', rfl, hI⟩, hu2⟩
end Go.Proofs.YthifcalemhpmoaaGreat
namespace Go.Proofs.YthifcalemhpmoaaGreat
open Go.RowKit Go.Proofs.Gn
set_option linter.unusedVariables false
def mav (us : List Unt) : Int := (us.map (·.ma)).sum
def maV (s : ByteArray) (us : List Unt) (f t : Int) : Int := if veE s us f t = 0 then mav us else 0
theorem mav_take {us : List Unt} {k : Nat} (h : k < us.length) : mav (us.take (k + 1)) = mav (us.take k) + us[k].ma := by
  unfold mav
  rw [List.take_succ_eq_append_getElem h, List.map_append, List.sum_append]
  simp
theorem mav_bd {us : List Unt} (h : us.all okU = true) : ∀ k, k ≤ us.length → 0 ≤ mav (us.take k) ∧ mav (us.take k) ≤ k * 1048576 := by
  intro k
  induction k with
  | zero => intro _; simp [mav]
  | succ k ih =>
    intro hk
    have a := ih (by omega)
    have b := okU_get h (k := k) (by omega)
    rw [mav_take (show k < us.length by omega)]
    omega
end Go.Proofs.YthifcalemhpmoaaGreat
