/- Platforms on the ground: the heights of the ground as a list, their sums by groups, bounds. -/
import Derived.Test.YtepblnnebeglbaaShares
namespace Go.Proofs.Ytepblnnebeglbaa
open Go.RowKit Go.Proofs.Gn
/-- The slice at A holds these numbers. -/
def Ints (w : World) (A : Option Addr) (gs : List Int) : Prop :=
  gs = [] ∨ ∃ b off, A = some ⟨b, off, none⟩ ∧ ∀ k (h : k < gs.length), w.cell? ⟨b, off + k, none⟩ = some (.int .i64 gs[k])
theorem ints_up {w w' : World} {A : Option Addr} {gs : List Int} (h : Ints w A gs) (hu : Up w w') : Ints w' A gs := by
  rcases h with h | ⟨b, off, hA, hc⟩
  · exact .inl h
  · exact .inr ⟨b, off, hA, fun k hk => up_cell hu (hc k hk)⟩
def cG (g : Int) : List (Gs.Sup × Int) → Int
  | [] => 0
  | x :: l => (if x.1.g = g then x.2 else 0) + cG g l
theorem cG_snoc (g : Int) (l : List (Gs.Sup × Int)) (x : Gs.Sup × Int) : cG g (l ++ [x]) = cG g l + (if x.1.g = g then x.2 else 0) := by
  induction l with
  | nil => simp [cG]
  | cons y l ih => simp only [List.cons_append, cG, ih]; omega
theorem cG_take {l : List (Gs.Sup × Int)} {k : Nat} (g : Int) (h : k < l.length) : cG g (l.take (k + 1)) = cG g (l.take k) + (if l[k].1.g = g then l[k].2 else 0) := by
  rw [List.take_succ_eq_append_getElem h, cG_snoc]
/-- The sum of the ground below the first supports of a group. -/
def gk (g : Int) (ps : List Gs.Sup) (gs : List Int) (k : Nat) : Int := cG g ((ps.zip gs).take k)
theorem gk_zero (g : Int) (ps : List Gs.Sup) (gs : List Int) : gk g ps gs 0 = 0 := by unfold gk; simp [cG]
theorem gk_succ (g : Int) {ps : List Gs.Sup} {gs : List Int} {k : Nat} (h : k < ps.length) (h2 : k < gs.length) : gk g ps gs (k + 1) = gk g ps gs k + (if ps[k].g = g then gs[k] else 0) := by
  unfold gk
  have hz : k < (ps.zip gs).length := by rw [List.length_zip]; omega
  rw [cG_take g hz]
  simp
def gsB (gs : List Int) : Bool := gs.all fun x => win x (-16384) 16384
theorem gsB_at {gs : List Int} (h : gsB gs = true) {k : Nat} (hk : k < gs.length) : -16384 ≤ gs[k] ∧ gs[k] ≤ 16384 := (win_iff _ _ _).1 (List.all_eq_true.1 h gs[k] (List.getElem_mem hk))
theorem gsB_take_succ {gs : List Int} {k : Nat} (h : k < gs.length) : gsB (gs.take (k + 1)) = (gsB (gs.take k) && win gs[k] (-16384) 16384) := by
  unfold gsB
  rw [List.take_succ_eq_append_getElem h, List.all_append]
  simp
theorem gsB_no {gs : List Int} {k : Nat} (h : k < gs.length) (hk : win gs[k] (-16384) 16384 = false) : gsB gs = false := by
  cases hb : gsB gs
  · rfl
  · have := List.all_eq_true.1 hb gs[k] (List.getElem_mem h)
    rw [hk] at this; cases this
theorem gk_bd {ps : List Gs.Sup} {gs : List Int} {k : Nat} (hb : gsB (gs.take k) = true) (h : k ≤ ps.length) (h2 : k ≤ gs.length) (g : Int) : -(16384 * (k : Int)) ≤ gk g ps gs k ∧ gk g ps gs k ≤ 16384 * (k : Int) := by
  induction k with
  | zero => rw [gk_zero]; omega
  | succ k ih =>
    rw [gsB_take_succ (by omega), Bool.and_eq_true, win_iff] at hb
    have := ih hb.1 (by omega) (by omega)
    rw [gk_succ g (by omega) (by omega)]
    split <;> omega
theorem prod_bd {a b c : Int} (ha : 0 ≤ a) (hb : 0 ≤ b) (hc : 0 ≤ c) (h : a + b + c ≤ 48) : 0 ≤ b * c ∧ b * c ≤ 576 ∧ 0 ≤ a * (b * c) ∧ a * (b * c) ≤ 27648 := by
  have h1 : 0 ≤ b * c := Int.mul_nonneg hb hc
  have h2 : 0 ≤ (b - c) * (b - c) := by
    rcases Int.le_total c b with x | x
    · exact Int.mul_nonneg (by omega) (by omega)
    · have : (b - c) * (b - c) = (c - b) * (c - b) := by grind
      rw [this]; exact Int.mul_nonneg (by omega) (by omega)
  have h3 : (b + c) * (b + c) ≤ 48 * 48 := (Gs.mb (u := b + c) (v := b + c) (U := 48) (V := 48) (by omega) (by omega) (by omega) (by omega)).2
  have h4 : (b - c) * (b - c) = (b + c) * (b + c) - 4 * (b * c) := by grind
  have h5 : b * c ≤ 576 := by omega
  have h6 := Gs.mb (u := a) (v := b * c) (U := 48) (V := 576) (by omega) (by omega) (by omega) (by omega)
  exact ⟨h1, h5, Int.mul_nonneg ha h1, by omega⟩
theorem m_bd {x y n m : Int} (U V : Int) (_hn : 0 ≤ U) (hx : -(U * n) ≤ x ∧ x ≤ U * n) (hy : -(V * m) ≤ y ∧ y ≤ V * m) : -(U * V * (n * m)) ≤ x * y ∧ x * y ≤ U * V * (n * m) := by
  have h := Gs.mb hx.1 hx.2 hy.1 hy.2
  have e : U * n * (V * m) = U * V * (n * m) := by grind
  rw [e] at h
  exact h
theorem wh_small {ps : List Gs.Sup} (ho : Gs.okA ps = true) (hn : ps.length ≤ 48) : -2849934139195392 ≤ Gs.wh ps ∧ Gs.wh ps ≤ 2849934139195392 := by
  have l := Gs.cN_len ho
  have n0 := Gs.cN_nonneg 0 ps
  have n1 := Gs.cN_nonneg 1 ps
  have n2 := Gs.cN_nonneg 2 ps
  have x0 := Gs.cX_bd 0 ho
  have x1 := Gs.cX_bd 1 ho
  have x2 := Gs.cX_bd 2 ho
  have y0 := Gs.cY_bd 0 ho
  have y1 := Gs.cY_bd 1 ho
  have y2 := Gs.cY_bd 2 ho
  unfold Gs.wh Gs.dt
  generalize Gs.cN 0 ps = a at *
  generalize Gs.cN 1 ps = b at *
  generalize Gs.cN 2 ps = c at *
  generalize Gs.cX 0 ps = xa at *
  generalize Gs.cX 1 ps = xb at *
  generalize Gs.cX 2 ps = xc at *
  generalize Gs.cY 0 ps = ya at *
  generalize Gs.cY 1 ps = yb at *
  generalize Gs.cY 2 ps = yc at *
  obtain ⟨p1, p2, p3, p4⟩ := prod_bd n0 n1 n2 (by omega)
  have q1 := m_bd 131072 131072 (by omega) x1 y2
  have q2 := m_bd 131072 131072 (by omega) y1 x2
  have q3 := m_bd (x := yb) (y := c) (n := b) (m := c) 131072 1 (by omega) y1 (by omega)
  have q4 := m_bd (x := b) (y := yc) (n := b) (m := c) 1 131072 (by omega) (by omega) y2
  have q5 := m_bd (x := b) (y := xc) (n := b) (m := c) 1 131072 (by omega) (by omega) x2
  have q6 := m_bd (x := xb) (y := c) (n := b) (m := c) 131072 1 (by omega) x1 (by omega)
  have r1 := m_bd (x := a) (y := xb * yc - yb * xc) (n := a) (m := b * c) 1 34359738368 (by omega) (by omega) (by omega)
  have r2 := m_bd (x := xa) (y := yb * c - b * yc) (n := a) (m := b * c) 131072 262144 (by omega) x0 (by omega)
  have r3 := m_bd (x := ya) (y := b * xc - xb * c) (n := a) (m := b * c) 131072 262144 (by omega) y0 (by omega)
  omega
theorem paD_bd {ps : List Gs.Sup} (h : chE ps = 0) : 1 ≤ paD ps ∧ paD ps ≤ 2849934139195392 := by
  obtain ⟨o1, o2, o3, o4⟩ := chE_ok h
  have b := wh_small o1 o2
  unfold paD
  rcases Int.lt_or_gt_of_ne o4 with x | x
  · rw [pv_neg x]; omega
  · rw [pv_pos x]; omega
theorem dv_bd {p l D : Int} (hD : 1 ≤ D) (hp : -(1024 * D) ≤ p ∧ p ≤ 1024 * D) (hl : -983040 ≤ l ∧ l ≤ 983040) : -1006632960 ≤ p * l / D ∧ p * l / D ≤ 1006632960 := by
  have h := Gs.mb hp.1 hp.2 hl.1 hl.2
  have e : 1024 * D * 983040 = 1006632960 * D := by omega
  rw [e] at h
  refine ⟨(Int.le_ediv_iff_mul_le (by omega)).2 (by omega), ?_⟩
  have := (Int.ediv_lt_iff_lt_mul (a := p * l) (b := 1006632961) (show 0 < D by omega)).2 (by omega)
  omega
/-- A part is beyond. -/
def ov (p D : Int) : Bool := decide (1024 * D < amt p)
theorem ov_no {p D : Int} (h : ov p D = false) : -(1024 * D) ≤ p ∧ p ≤ 1024 * D := by
  unfold ov at h
  rw [decide_eq_false_iff_not] at h
  unfold amt at h
  split at h <;> omega
def hoB (ps : List Gs.Sup) (X Y : Int) : Bool := ov (pa0 ps X Y) (paD ps) || (ov (pa1 ps X Y) (paD ps) || ov (pa2 ps X Y) (paD ps))
def hoE (ps : List Gs.Sup) (X Y : Int) : Int := if hoB ps X Y then 4 else 0
def hoS (ps : List Gs.Sup) (X Y l0 l1 l2 : Int) : Int := pa0 ps X Y * l0 / paD ps + pa1 ps X Y * l1 / paD ps + pa2 ps X Y * l2 / paD ps
def hoV (ps : List Gs.Sup) (X Y l0 l1 l2 : Int) : Int := if hoB ps X Y then 0 else hoS ps X Y l0 l1 l2
end Go.Proofs.Ytepblnnebeglbaa
