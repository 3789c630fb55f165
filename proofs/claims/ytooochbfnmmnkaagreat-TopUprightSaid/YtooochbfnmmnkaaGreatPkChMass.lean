/- chain.Mass: what all units weigh. What each axle of each unit carries: the program's. What each unit carries of a mass, and what each axle carries: numbers and lists. Lists of numbers that the call itself has made. Platforms on the ground: the heights of the ground as a list, their sums by groups, bounds. -/
import Derived.Test.YtooochbfnmmnkaaGreatShares
import Derived.Deep.RegionLaw
import Derived.OwnWalk
import Derived.Test.YtooochbfnmmnkaaGreatPkHulls
import Derived.Test.YtooochbfnmmnkaaGreatPkPartsP
import Derived.Test.YtooochbfnmmnkaaGreatPkCompact
import Derived.Deep.OwnRows
import Derived.Test.YtooochbfnmmnkaaGreatVehC
namespace Go.Proofs.YtooochbfnmmnkaaGreat
open Go.RowKit Go.Proofs.Gn
/-- The slice at A holds these numbers. -/
def Ints (w : World) (A : Option Addr) (gs : List Int) : Prop :=
  gs = [] ∨ ∃ b off, A = some ⟨b, off, none⟩ ∧ ∀ k (h : k < gs.length), w.cell? ⟨b, off + k, none⟩ = some (.int .i64 gs[k])
theorem ints_up {w w' : World} {A : Option Addr} {gs : List Int} (h : Ints w A gs) (hu : Up w w') : Ints w' A gs := by
  rcases h with h | ⟨b, off, hA, hc⟩
  · exact .inl h
  · exact .inr ⟨b, off, hA, fun k hk => up_cell hu (hc k hk)⟩
def cG (g : Int) : List (Gs.Sup × Int) → Int
  | [] => 0
  | x :: l => (if x.1.g = g then x.2 else 0) + cG g l
theorem cG_snoc (g : Int) (l : List (Gs.Sup × Int)) (x : Gs.Sup × Int) : cG g (l ++ [x]) = cG g l + (if x.1.g = g then x.2 else 0) := by
  induction l with
  | nil => simp [cG]
  | cons y l ih => simp only [List.cons_append, cG, ih]; omega
theorem cG_take {l : List (Gs.Sup × Int)} {k : Nat} (g : Int) (h : k < l.length) : cG g (l.take (k + 1)) = cG g (l.take k) + (if l[k].1.g = g then l[k].2 else 0) := by
  rw [List.take_succ_eq_append_getElem h, cG_snoc]
/-- The sum of the ground below the first supports of a group. -/
def gk (g : Int) (ps : List Gs.Sup) (gs : List Int) (k : Nat) : Int := cG g ((ps.zip gs).take k)
theorem gk_zero (g : Int) (ps : List Gs.Sup) (gs : List Int) : gk g ps gs 0 = 0 := by unfold gk; simp [cG]
theorem gk_succ (g : Int) {ps : List Gs.Sup} {gs : List Int} {k : Nat} (h : k < ps.length) (h2 : k < gs.length) : gk g ps gs (k + 1) = gk g ps gs k + (if ps[k].g = g then gs[k] else 0) := by
  unfold gk
  have hz : k < (ps.zip gs).length := by rw [List.length_zip]; omega
  rw [cG_take g hz]
  simp
def gsB (gs : List Int) : Bool := gs.all fun x => win x (-16384) 16384
theorem gsB_at {gs : List Int} (h : gsB gs = true) {k : Nat} (hk : k < gs.length) : -16384 ≤ gs[k] ∧ gs[k] ≤ 16384 := (win_iff _ _ _).1 (List.all_eq_true.1 h gs[k] (List.getElem_mem hk))
theorem gsB_take_succ {gs : List Int} {k : Nat} (h : k < gs.length) : gsB (gs.take (k + 1)) = (gsB (gs.take k) && win gs[k] (-16384) 16384) := by
  unfold gsB
  rw [List.take_succ_eq_append_getElem h, List.all_append]
  simp
theorem gsB_no {gs : List Int} {k : Nat} (h : k < gs.length) (hk : win gs[k] (-16384) 16384 = false) : gsB gs = false := by
  cases hb : gsB gs
  · rfl
  · have := List.all_eq_true.1 hb gs[k] (List.getElem_mem h)
    rw [hk] at this; cases this
theorem gk_bd {ps : List Gs.Sup} {gs : List Int} {k : Nat} (hb : gsB (gs.take k) = true) (h : k ≤ ps.length) (h2 : k ≤ gs.length) (g : Int) : -(16384 * (k : Int)) ≤ gk g ps gs k ∧ gk g ps gs k ≤ 16384 * (k : Int) := by
  induction k with
  | zero => rw [gk_zero]; omega
  | succ k ih =>
    rw [gsB_take_succ (by omega), Bool.and_eq_true, win_iff] at hb
    have := ih hb.1 (by omega) (by omega)
    rw [gk_succ g (by omega) (by omega)]
    split <;> omega
theorem prod_bd {a b c : Int} (ha : 0 ≤ a) (hb : 0 ≤ b) (hc : 0 ≤ c) (h : a + b + c ≤ 48) : 0 ≤ b * c ∧ b * c ≤ 576 ∧ 0 ≤ a * (b * c) ∧ a * (b * c) ≤ 27648 := by
  have h1 : 0 ≤ b * c := Int.mul_nonneg hb hc
  have h2 : 0 ≤ (b - c) * (b - c) := by
    rcases Int.le_total c b with x | x
    · exact Int.mul_nonneg (by omega) (by omega)
    · have : (b - c) * (b - c) = (c - b) * (c - b) := by grind
      rw [this]; exact Int.mul_nonneg (by omega) (by omega)
  have h3 : (b + c) * (b + c) ≤ 48 * 48 := (Gs.mb (u := b + c) (v := b + c) (U := 48) (V := 48) (by omega) (by omega) (by omega) (by omega)).2
  have h4 : (b - c) * (b - c) = (b + c) * (b + c) - 4 * (b * c) := by grind
  have h5 : b * c ≤ 576 := by omega
  have h6 := Gs.mb (u := a) (v := b * c) (U := 48) (V := 576) (by omega) (by omega) (by omega) (by omega)
  exact ⟨h1, h5, Int.mul_nonneg ha h1, by omega⟩
theorem m_bd {x y n m : Int} (U V : Int) (_hn : 0 ≤ U) (hx : -(U * n) ≤ x ∧ x ≤ U * n) (hy : -(V * m) ≤ y ∧ y ≤ V * m) : -(U * V * (n * m)) ≤ x * y ∧ x * y ≤ U * V * (n * m) := by
  have h := Gs.mb hx.1 hx.2 hy.1 hy.2
  have e : U * n * (V * m) = U * V * (n * m) := by grind
  rw [e] at h
  exact h
theorem wh_small {ps : List Gs.Sup} (ho : Gs.okA ps = true) (hn : ps.length ≤ 48) : -2849934139195392 ≤ Gs.wh ps ∧ Gs.wh ps ≤ 2849934139195392 := by
  have l := Gs.cN_len ho
  have n0 := Gs.cN_nonneg 0 ps
  have n1 := Gs.cN_nonneg 1 ps
  have n2 := Gs.cN_nonneg 2 ps
  have x0 := Gs.cX_bd 0 ho
  have x1 := Gs.cX_bd 1 ho
  have x2 := Gs.cX_bd 2 ho
  have y0 := Gs.cY_bd 0 ho
  have y1 := Gs.cY_bd 1 ho
  have y2 := Gs.cY_bd 2 ho
  unfold Gs.wh Gs.dt
  generalize Gs.cN 0 ps = a at *
  generalize Gs.cN 1 ps = b at *
  generalize Gs.cN 2 ps = c at *
  generalize Gs.cX 0 ps = xa at *
  generalize Gs.cX 1 ps = xb at *
  generalize Gs.cX 2 ps = xc at *
  generalize Gs.cY 0 ps = ya at *
  generalize Gs.cY 1 ps = yb at *
  generalize Gs.cY 2 ps = yc at *
  obtain ⟨p1, p2, p3, p4⟩ := prod_bd n0 n1 n2 (by omega)
  have q1 := m_bd 131072 131072 (by omega) x1 y2
  have q2 := m_bd 131072 131072 (by omega) y1 x2
  have q3 := m_bd (x := yb) (y := c) (n := b) (m := c) 131072 1 (by omega) y1 (by omega)
  have q4 := m_bd (x := b) (y := yc) (n := b) (m := c) 1 131072 (by omega) (by omega) y2
  have q5 := m_bd (x := b) (y := xc) (n := b) (m := c) 1 131072 (by omega) (by omega) x2
  have q6 := m_bd (x := xb) (y := c) (n := b) (m := c) 131072 1 (by omega) x1 (by omega)
  have r1 := m_bd (x := a) (y := xb * yc - yb * xc) (n := a) (m := b * c) 1 34359738368 (by omega) (by omega) (by omega)
  have r2 := m_bd (x := xa) (y := yb * c - b * yc) (n := a) (m := b * c) 131072 262144 (by omega) x0 (by omega)
  have r3 := m_bd (x := ya) (y := b * xc - xb * c) (n := a) (m := b * c) 131072 262144 (by omega) y0 (by omega)
  omega
theorem paD_bd {ps : List Gs.Sup} (h : chE ps = 0) : 1 ≤ paD ps ∧ paD ps ≤ 2849934139195392 := by
  obtain ⟨o1, o2, o3, o4⟩ := chE_ok h
  have b := wh_small o1 o2
  unfold paD
  rcases Int.lt_or_gt_of_ne o4 with x | x
  · rw [pv_neg x]; omega
  · rw [pv_pos x]; omega
theorem dv_bd {p l D : Int} (hD : 1 ≤ D) (hp : -(1024 * D) ≤ p ∧ p ≤ 1024 * D) (hl : -983040 ≤ l ∧ l ≤ 983040) : -1006632960 ≤ p * l / D ∧ p * l / D ≤ 1006632960 := by
  have h := Gs.mb hp.1 hp.2 hl.1 hl.2
  have e : 1024 * D * 983040 = 1006632960 * D := by omega
  rw [e] at h
  refine ⟨(Int.le_ediv_iff_mul_le (by omega)).2 (by omega), ?_⟩
  have := (Int.ediv_lt_iff_lt_mul (a := p * l) (b := 1006632961) (show 0 < D by omega)).2 (by omega)
  omega
/-- A part is beyond. -/
def ov (p D : Int) : Bool := decide (1024 * D < amt p)
theorem ov_no {p D : Int} (h : ov p D = false) : -(1024 * D) ≤ p ∧ p ≤ 1024 * D := by
  unfold ov at h
  rw [decide_eq_false_iff_not] at h
  unfold amt at h
  split at h <;> omega
def hoB (ps : List Gs.Sup) (X Y : Int) : Bool := ov (pa0 ps X Y) (paD ps) || (ov (pa1 ps X Y) (paD ps) || ov (pa2 ps X Y) (paD ps))
def hoE (ps : List Gs.Sup) (X Y : Int) : Int := if hoB ps X Y then 4 else 0
def hoS (ps : List Gs.Sup) (X Y l0 l1 l2 : Int) : Int := pa0 ps X Y * l0 / paD ps + pa1 ps X Y * l1 / paD ps + pa2 ps X Y * l2 / paD ps
def hoV (ps : List Gs.Sup) (X Y l0 l1 l2 : Int) : Int := if hoB ps X Y then 0 else hoS ps X Y l0 l1 l2
end Go.Proofs.YtooochbfnmmnkaaGreat
set_option linter.unusedVariables false
namespace Go.Proofs.YtooochbfnmmnkaaGreat
open Go.RowKit Go.Proofs.Gn
theorem own_upI {W W' : World} {base e size n : Nat} {v : Value} {xs : List Value} (h : W.ownsRow base e size v n xs) (hu : Up W W') : W'.ownsRow base e size v n xs := by
  rcases h with ⟨hl, h | ⟨g, cap, cur, rfl, hb, hg, h⟩⟩
  · exact ⟨hl, .inl h⟩
  · refine ⟨hl, .inr ⟨g, cap, cur, rfl, hb, ?_, h⟩⟩
    rw [hu.block g (Array.getElem?_eq_some_iff.1 hg).1]
    exact hg
def cellsI (l : List Int) : List Value := l.map fun x => .int .i64 x
theorem cellsI_snoc (l : List Int) (x : Int) : cellsI (l ++ [x]) = cellsI l ++ [.int .i64 x] := by simp [cellsI]
theorem cellsI_length (l : List Int) : (cellsI l).length = l.length := by simp [cellsI]
theorem info_i64I : (Tryz.prog.info? 2).map (fun i => (i.zero, i.size, i.bytes)) = some (some (.int .i64 0), 1, 8) := by kernel_rfl
theorem one_newI (W : World) (x : Value) (t : TypeId) : ∀ j u, [x][j]? = some u → (W.alloc (.cells #[x] t)).cell? ((⟨W.heap.size, 0, none⟩ : Addr).add j) = some u := by
  intro j u hj
  have b := bx_new W [x] t
  match j, hj with
  | 0, hj => simp at hj; subst hj; exact bx1 b
  | (j + 1), hj => simp at hj
theorem own_ints {W : World} {base e n : Nat} {v : Value} {l : List Int} (h : W.ownsRow base e 1 v n (cellsI l)) : ∃ A cap, v = .slice A l.length cap ∧ Ints W A l := by
  have hn : n = l.length := by
    have hl : (cellsI l).length = n * 1 := h.1
    rw [cellsI_length] at hl
    omega
  subst hn
  rcases h.2 with ⟨h1, h2⟩ | ⟨g, cap, cur, rfl, _⟩
  · have e0 : l = [] := by cases l with
      | nil => rfl
      | cons a l => simp at h2
    subst e0
    exact ⟨_, _, h1, .inl rfl⟩
  · refine ⟨_, _, rfl, .inr ⟨g, 0, rfl, fun k hk => ?_⟩⟩
    rw [Nat.zero_add, h.cellAt k (by omega)]
    simp [cellsI, hk]
theorem own_grown {w W W' w1 : World} {v v' : Value} {k e : Nat} {xs ys : List Value} (ho : W'.ownsRow w.heap.size e 1 v k xs) (hb : Up w W) (hg : W.grownBy w1 v.ownBlock) : Up w w1 :=
  hb.grown hg hb.size fun j hj => (ho.lt j hj).1
/-- K is the first of n steps that fails, or n. -/
def Fsn (n : Nat) (s : Nat → Bool) (K : Nat) : Prop := K ≤ n ∧ (∀ j, j < K → s j = false) ∧ (K < n → s K = true)
theorem fsn_ex (n : Nat) (s : Nat → Bool) : ∃ K, Fsn n s K := by
  have h : ∀ m, m ≤ n → (∃ K, Fsn n s K) ∨ ∀ j, j < m → s j = false := by
    intro m
    induction m with
    | zero => exact fun _ => .inr (fun j hj => absurd hj (by omega))
    | succ m ih =>
      intro hn
      rcases ih (by omega) with h | h
      · exact .inl h
      · cases hs : s m
        · refine .inr (fun j hj => ?_)
          by_cases e : j = m
          · subst e; exact hs
          · exact h j (by omega)
        · exact .inl ⟨m, by omega, h, fun _ => hs⟩
  rcases h n (by omega) with h | h
  · exact h
  · exact ⟨n, by omega, h, fun hx => absurd hx (by omega)⟩
theorem fsn_stop {n : Nat} {s : Nat → Bool} {K k : Nat} (h : Fsn n s K) (hk : k ≤ K) (hs : s k = true) : k = K := by
  by_cases e : k < K
  · rw [h.2.1 k e] at hs; cases hs
  · omega
theorem fsn_go {n : Nat} {s : Nat → Bool} {K k : Nat} (h : Fsn n s K) (hk : k ≤ K) (hl : k < n) (hs : s k = false) : k < K := by
  by_cases e : k < K
  · exact e
  · obtain rfl : k = K := by omega
    rw [h.2.2 hl] at hs; cases hs
theorem at_xi {F : Act → World → Prop} {a : Act} {w : World} (h : ∀ W, W = w → F a W) : F a w := h w rfl
end Go.Proofs.YtooochbfnmmnkaaGreat
namespace Go.Proofs.YtooochbfnmmnkaaGreat
open Go.RowKit Go.Proofs.Gn
theorem up_bd0 {n d t : Int} (hn : 0 ≤ n) (hd : 1 ≤ d) (ht : 0 ≤ t ∧ t ≤ d) : 0 ≤ up n d t ∧ up n d t ≤ n := by
  unfold up
  have a : n * t ≤ n * d := Int.mul_le_mul_of_nonneg_left ht.2 hn
  have b : 0 ≤ n * t := Int.mul_nonneg hn ht.1
  have e : n * -t = -(n * t) := by rw [Int.mul_neg]
  rw [e]
  have c : -n ≤ -(n * t) / d := (Int.le_ediv_iff_mul_le (by omega)).2 (by rw [Int.neg_mul]; omega)
  have g : -(n * t) / d ≤ 0 := by
    have := Int.ediv_le_ediv (c := d) (by omega) (show -(n * t) ≤ 0 by omega)
    simpa using this
  omega
/-- What unit i carries. -/
def caI (f t : Nat) (m P Q : Int) (i : Nat) : Int := if f = t then (if i = f then m else 0) else (if i = f then P else if i = t then Q else 0)
def rep (n : Nat) : List Value := List.replicate n (.int .i64 0)
def caL (n f t : Nat) (m P Q : Int) : List Value := if f = t then (rep n).set f (.int .i64 m) else ((rep n).set f (.int .i64 P)).set t (.int .i64 Q)
theorem made_rep (n : Nat) : madeCells #[.int .i64 0] n = (rep n).toArray := by
  apply Array.ext
  · simp [size_madeCells, rep]
  · intro i h1 h2
    simp [madeCells, rep, Nat.mod_one]
theorem caL_get {n f t : Nat} {m P Q : Int} {i : Nat} (hi : i < n) (hf : f < n) (ht : t < n) : (caL n f t m P Q)[i]? = some (.int .i64 (caI f t m P Q i)) := by
  unfold caL caI rep
  by_cases h : f = t
  · rw [if_pos h, if_pos h, List.getElem?_set]
    by_cases e : f = i
    · rw [if_pos e, if_pos (by simpa using hf), if_pos e.symm]
    · rw [if_neg e, if_neg (fun x => e x.symm)]; simp [hi]
  · rw [if_neg h, if_neg h, List.getElem?_set, List.getElem?_set]
    by_cases e : t = i
    · rw [if_pos e, if_pos (by simpa using ht), if_neg (fun x => h (x.symm.trans e.symm)), if_pos e.symm]
    · rw [if_neg e]
      by_cases e2 : f = i
      · rw [if_pos e2, if_pos (by simpa using hf), if_pos e2.symm]
      · rw [if_neg e2, if_neg (fun x => e2 x.symm), if_neg (fun x => e x.symm)]; simp [hi]
theorem rep_len (n : Nat) : (rep n).length = n := by unfold rep; simp
theorem bx_at {W : World} {b : Nat} {vs : List Value} (h : Bx W b vs) {i : Nat} (hi : i < vs.length) : W.cell? ⟨b, i, none⟩ = some vs[i] ∧ W.frozen? ⟨b, i, none⟩ = false := h i _ (List.getElem?_eq_getElem hi)
end Go.Proofs.YtooochbfnmmnkaaGreat
namespace Go.Proofs.YtooochbfnmmnkaaGreat
open Go.RowKit Go.Proofs.Gn
def eaV (us : List Unt) (f t : Nat) (m P Q : Int) (k : Nat) : Int := match us[k]? with
  | some u => up (u.ma + caI f t m P Q k) u.xs.length 1
  | none => 0
def heX (e : Int) (xs : List Axl) : Bool := xs.any fun a => decide (a.lim < e)
def eaN (us : List Unt) (f t : Nat) (m P Q : Int) (k : Nat) : Bool := match us[k]? with
  | some u => heX (eaV us f t m P Q k) u.xs
  | none => false
theorem eaV_at {us : List Unt} {f t : Nat} {m P Q : Int} {k : Nat} (h : k < us.length) : eaV us f t m P Q k = up (us[k].ma + caI f t m P Q k) us[k].xs.length 1 := by
  unfold eaV; rw [List.getElem?_eq_getElem h]
theorem eaN_at {us : List Unt} {f t : Nat} {m P Q : Int} {k : Nat} (h : k < us.length) : eaN us f t m P Q k = heX (eaV us f t m P Q k) us[k].xs := by
  unfold eaN; rw [List.getElem?_eq_getElem h]
theorem heX_step {e : Int} {xs : List Axl} {j : Nat} (h : j < xs.length) : heX e (xs.drop j) = (decide (xs[j].lim < e) || heX e (xs.drop (j + 1))) := any_step h
def axR (us : List Unt) (f t : Nat) (m P Q : Int) (k : Nat) : List Int := (List.range k).map (eaV us f t m P Q)
theorem axR_succ (us : List Unt) (f t : Nat) (m P Q : Int) (k : Nat) : axR us f t m P Q (k + 1) = axR us f t m P Q k ++ [eaV us f t m P Q k] := by
  unfold axR; rw [List.range_succ, List.map_append]; rfl
theorem axR_len (us : List Unt) (f t : Nat) (m P Q : Int) (k : Nat) : (axR us f t m P Q k).length = k := by unfold axR; simp
/-- Which error there is, K being the first unit that is loaded too much. -/
def axF (E m L u : Int) (n K : Nat) : Int := if E = 0 then (if msE m = 0 then (if win L 1 16777216 then (if win u 0 L then (if K < n then 14 else 0) else 19) else 3) else 3) else E
def axLs (E : Int) (us : List Unt) (f t : Nat) (m L u : Int) (K : Nat) : List Int := if axF E m L u us.length K = 0 then axR us f t m (up m L (L - u)) (up m L u) us.length else []
theorem p_winS (n a b : Int) (w : World) : Calls Tryz.prog 37 #[.int .i64 n, .int .i64 a, .int .i64 b] w fun e w' => e = .returned (.bool (win n a b)) ∧ w = w' := p_within n a b w
theorem ve_ok {s : ByteArray} {us : List Unt} {f t : Int} (h : veE s us f t = 0) : us.length ≤ 12 ∧ us.all okU = true ∧ us.any bigU = false ∧ 0 ≤ f ∧ f ≤ t ∧ t < us.length := by
  unfold veE at h
  split at h
  · cases h
  · rename_i h1
    split at h
    · rename_i h2
      simp only [Bool.and_eq_true, win_iff, decide_eq_true_eq, auV] at h2
      unfold tmV at h1
      simp only [Bool.or_eq_true, not_or, decide_eq_true_eq, Bool.not_eq_true] at h1
      obtain ⟨_, ⟨a, _⟩, ⟨b, c⟩, d⟩ := h2
      exact ⟨by omega, a, h1.2, b, c, d⟩
    · cases h
theorem okU_get {us : List Unt} (h : us.all okU = true) {k : Nat} (hk : k < us.length) : (1 ≤ us[k].ma ∧ us[k].ma ≤ 1048576) ∧ 0 < us[k].xs.length := by
  have t := List.all_eq_true.1 h _ (List.getElem_mem hk)
  unfold okU axU at t
  simp only [Bool.and_eq_true, decide_eq_true_eq] at t
  exact ⟨(szU_bd t.1).2.2.2.2.2.2.2.1, t.2.2⟩
theorem big_get {us : List Unt} (h : us.any bigU = false) {k : Nat} (hk : k < us.length) : us[k].xs.length ≤ 24 := by
  rw [List.any_eq_false] at h
  have t := h _ (List.getElem_mem hk)
  unfold bigU at t
  simp only [decide_eq_true_eq] at t
  omega
theorem caI_bd {f t : Nat} {m P Q : Int} (hm : 1 ≤ m ∧ m ≤ 16777216) (hP : 0 ≤ P ∧ P ≤ m) (hQ : 0 ≤ Q ∧ Q ≤ m) (k : Nat) : 0 ≤ caI f t m P Q k ∧ caI f t m P Q k ≤ 16777216 := by
  unfold caI
  split <;> split <;> (try split) <;> omega
theorem ms_ok {m : Int} (h : msE m = 0) : 1 ≤ m ∧ m ≤ 16777216 := by
  unfold msE at h
  split at h
  · rename_i h1; exact (win_iff _ _ _).1 h1
  · cases h
theorem ms_no {m : Int} (h : ¬ msE m = 0) : msE m = 3 := by
  unfold msE at h ⊢
  split
  · rename_i h1; rw [if_pos h1] at h; exact absurd rfl h
  · rfl
theorem ax_len {E : Int} {us : List Unt} {f t : Nat} {m L u : Int} {K : Nat} (h : ¬ axF E m L u us.length K = 0) : axLs E us f t m L u K = [] := by unfold axLs; rw [if_neg h]
end Go.Proofs.YtooochbfnmmnkaaGreat
namespace Go.Proofs.YtooochbfnmmnkaaGreat
open Go.RowKit Go.Proofs.Gn
set_option linter.unusedVariables false
def mav (us : List Unt) : Int := (us.map (·.ma)).sum
def maV (s : ByteArray) (us : List Unt) (f t : Int) : Int := if veE s us f t = 0 then mav us else 0
theorem mav_take {us : List Unt} {k : Nat} (h : k < us.length) : mav (us.take (k + 1)) = mav (us.take k) + us[k].ma := by
  unfold mav
  rw [List.take_succ_eq_append_getElem h, List.map_append, List.sum_append]
  simp
theorem mav_bd {us : List Unt} (h : us.all okU = true) : ∀ k, k ≤ us.length → 0 ≤ mav (us.take k) ∧ mav (us.take k) ≤ k * 1048576 := by
  intro k
  induction k with
  | zero => intro _; simp [mav]
  | succ k ih =>
    intro hk
    have a := ih (by omega)
    have b := okU_get h (k := k) (by omega)
    rw [mav_take (show k < us.length by omega)]
    omega
end Go.Proofs.YtooochbfnmmnkaaGreat
