/- Mathematics. -/
namespace Gs
/-! Supports, the sums of their groups, determinants. -/
structure Sup where
  x : Int
  y : Int
  g : Int
  lim : Int
  lo : Int
  hi : Int
instance : Inhabited Sup := ⟨⟨0, 0, 0, 0, 0, 0⟩⟩
def okS (s : Sup) : Bool := decide ((-131072 ≤ s.x ∧ s.x ≤ 131072) ∧ (-131072 ≤ s.y ∧ s.y ≤ 131072) ∧ (0 ≤ s.g ∧ s.g ≤ 2) ∧ (1 ≤ s.lim ∧ s.lim ≤ 1048576) ∧ (0 ≤ s.lo ∧ s.lo ≤ s.hi) ∧ (0 ≤ s.hi ∧ s.hi ≤ 4096))
theorem okS_yes {s : Sup} (h : okS s = true) : (-131072 ≤ s.x ∧ s.x ≤ 131072) ∧ (-131072 ≤ s.y ∧ s.y ≤ 131072) ∧ (0 ≤ s.g ∧ s.g ≤ 2) ∧ (1 ≤ s.lim ∧ s.lim ≤ 1048576) ∧ (0 ≤ s.lo ∧ s.lo ≤ s.hi) ∧ (0 ≤ s.hi ∧ s.hi ≤ 4096) := of_decide_eq_true h
def okA (ps : List Sup) : Bool := ps.all okS
theorem okA_take_succ {ps : List Sup} {k : Nat} (h : k < ps.length) : okA (ps.take (k + 1)) = (okA (ps.take k) && okS ps[k]) := by
  unfold okA
  rw [List.take_succ_eq_append_getElem h, List.all_append]
  simp
theorem okA_at {ps : List Sup} {k : Nat} (h : k < ps.length) (hk : okS ps[k] = false) : okA ps = false := by
  unfold okA
  rw [List.all_eq_false]
  exact ⟨ps[k], List.getElem_mem h, by simp [hk]⟩
theorem okA_get {ps : List Sup} (h : okA ps = true) {k : Nat} (hk : k < ps.length) : okS ps[k] = true := List.all_eq_true.1 h ps[k] (List.getElem_mem hk)
/-- How many supports a group has, and the sums of their coordinates. -/
def cN (g : Int) : List Sup → Int
  | [] => 0
  | s :: t => (if s.g = g then 1 else 0) + cN g t
def cX (g : Int) : List Sup → Int
  | [] => 0
  | s :: t => (if s.g = g then s.x else 0) + cX g t
def cY (g : Int) : List Sup → Int
  | [] => 0
  | s :: t => (if s.g = g then s.y else 0) + cY g t
theorem cN_snoc (g : Int) (l : List Sup) (s : Sup) : cN g (l ++ [s]) = cN g l + (if s.g = g then 1 else 0) := by
  induction l with
  | nil => simp [cN]
  | cons a t ih => simp only [List.cons_append, cN, ih]; omega
theorem cX_snoc (g : Int) (l : List Sup) (s : Sup) : cX g (l ++ [s]) = cX g l + (if s.g = g then s.x else 0) := by
  induction l with
  | nil => simp [cX]
  | cons a t ih => simp only [List.cons_append, cX, ih]; omega
theorem cY_snoc (g : Int) (l : List Sup) (s : Sup) : cY g (l ++ [s]) = cY g l + (if s.g = g then s.y else 0) := by
  induction l with
  | nil => simp [cY]
  | cons a t ih => simp only [List.cons_append, cY, ih]; omega
theorem cN_take {ps : List Sup} {k : Nat} (g : Int) (h : k < ps.length) : cN g (ps.take (k + 1)) = cN g (ps.take k) + (if ps[k].g = g then 1 else 0) := by rw [List.take_succ_eq_append_getElem h, cN_snoc]
theorem cX_take {ps : List Sup} {k : Nat} (g : Int) (h : k < ps.length) : cX g (ps.take (k + 1)) = cX g (ps.take k) + (if ps[k].g = g then ps[k].x else 0) := by rw [List.take_succ_eq_append_getElem h, cX_snoc]
theorem cY_take {ps : List Sup} {k : Nat} (g : Int) (h : k < ps.length) : cY g (ps.take (k + 1)) = cY g (ps.take k) + (if ps[k].g = g then ps[k].y else 0) := by rw [List.take_succ_eq_append_getElem h, cY_snoc]
theorem cN_nonneg (g : Int) (l : List Sup) : 0 ≤ cN g l := by
  induction l with
  | nil => simp [cN]
  | cons a t ih => simp only [cN]; split <;> omega
theorem cN_len {l : List Sup} (h : okA l = true) : cN 0 l + cN 1 l + cN 2 l = l.length := by
  induction l with
  | nil => simp [cN]
  | cons a t ih =>
    simp only [okA, List.all_cons, Bool.and_eq_true] at h
    have i := ih h.2
    have o := (okS_yes h.1).2.2.1
    simp only [cN, List.length_cons]
    rcases (show a.g = 0 ∨ a.g = 1 ∨ a.g = 2 by omega) with e | e | e <;> simp [e] <;> omega
theorem cX_bd {l : List Sup} (g : Int) (h : okA l = true) : -(131072 * cN g l) ≤ cX g l ∧ cX g l ≤ 131072 * cN g l := by
  induction l with
  | nil => simp [cN, cX]
  | cons a t ih =>
    simp only [okA, List.all_cons, Bool.and_eq_true] at h
    have i := ih h.2
    have o := (okS_yes h.1).1
    simp only [cN, cX]
    split <;> omega
theorem cY_bd {l : List Sup} (g : Int) (h : okA l = true) : -(131072 * cN g l) ≤ cY g l ∧ cY g l ≤ 131072 * cN g l := by
  induction l with
  | nil => simp [cN, cY]
  | cons a t ih =>
    simp only [okA, List.all_cons, Bool.and_eq_true] at h
    have i := ih h.2
    have o := (okS_yes h.1).2.1
    simp only [cN, cY]
    split <;> omega
/-- The determinant of three rows. -/
def dt (a0 a1 a2 b0 b1 b2 c0 c1 c2 : Int) : Int := a0 * (b1 * c2 - b2 * c1) + a1 * (b2 * c0 - b0 * c2) + a2 * (b0 * c1 - b1 * c0)
theorem mb {u v U V : Int} (h1 : -U ≤ u) (h2 : u ≤ U) (h3 : -V ≤ v) (h4 : v ≤ V) : -(U * V) ≤ u * v ∧ u * v ≤ U * V := by
  have a : 0 ≤ (u + U) * (v + V) := Int.mul_nonneg (by omega) (by omega)
  have b : 0 ≤ (U - u) * (V - v) := Int.mul_nonneg (by omega) (by omega)
  have c : 0 ≤ (u + U) * (V - v) := Int.mul_nonneg (by omega) (by omega)
  have d : 0 ≤ (U - u) * (v + V) := Int.mul_nonneg (by omega) (by omega)
  simp only [Int.add_mul, Int.mul_add, Int.sub_mul, Int.mul_sub] at a b c d
  omega
/-- A row of sums. -/
def Row (n x y : Int) : Prop := (-48 ≤ n ∧ n ≤ 48) ∧ (-6291456 ≤ x ∧ x ≤ 6291456) ∧ (-6291456 ≤ y ∧ y ≤ 6291456)
def wh (l : List Sup) : Int := dt (cN 0 l) (cX 0 l) (cY 0 l) (cN 1 l) (cX 1 l) (cY 1 l) (cN 2 l) (cX 2 l) (cY 2 l)
def q0 (l : List Sup) (X Y : Int) : Int := dt 1 X Y (cN 1 l) (cX 1 l) (cY 1 l) (cN 2 l) (cX 2 l) (cY 2 l)
def q1 (l : List Sup) (X Y : Int) : Int := dt (cN 0 l) (cX 0 l) (cY 0 l) 1 X Y (cN 2 l) (cX 2 l) (cY 2 l)
def q2 (l : List Sup) (X Y : Int) : Int := dt (cN 0 l) (cX 0 l) (cY 0 l) (cN 1 l) (cX 1 l) (cY 1 l) 1 X Y
theorem cramN (l : List Sup) (X Y : Int) : q0 l X Y * cN 0 l + q1 l X Y * cN 1 l + q2 l X Y * cN 2 l = wh l := by
  unfold q0 q1 q2 wh dt; grind
theorem cramX (l : List Sup) (X Y : Int) : q0 l X Y * cX 0 l + q1 l X Y * cX 1 l + q2 l X Y * cX 2 l = wh l * X := by
  unfold q0 q1 q2 wh dt; grind
theorem cramY (l : List Sup) (X Y : Int) : q0 l X Y * cY 0 l + q1 l X Y * cY 1 l + q2 l X Y * cY 2 l = wh l * Y := by
  unfold q0 q1 q2 wh dt; grind
theorem row_of {l : List Sup} (h : okA l = true) (hn : l.length ≤ 48) (g : Int) (hg : g = 0 ∨ g = 1 ∨ g = 2) : Row (cN g l) (cX g l) (cY g l) := by
  have e := cN_len h
  have a0 := cN_nonneg 0 l
  have a1 := cN_nonneg 1 l
  have a2 := cN_nonneg 2 l
  have b := cX_bd g h
  have c := cY_bd g h
  unfold Row
  rcases hg with rfl | rfl | rfl <;> omega
theorem dt_bd {a0 a1 a2 b0 b1 b2 c0 c1 c2 : Int} (ha : Row a0 a1 a2) (hb : Row b0 b1 b2) (hc : Row c0 c1 c2) : -11399736556781568 ≤ dt a0 a1 a2 b0 b1 b2 c0 c1 c2 ∧ dt a0 a1 a2 b0 b1 b2 c0 c1 c2 ≤ 11399736556781568 := by
  obtain ⟨⟨p1, p2⟩, ⟨p3, p4⟩, p5, p6⟩ := ha
  obtain ⟨⟨r1, r2⟩, ⟨r3, r4⟩, r5, r6⟩ := hb
  obtain ⟨⟨s1, s2⟩, ⟨s3, s4⟩, s5, s6⟩ := hc
  have m1 := mb r3 r4 s5 s6
  have m2 := mb r5 r6 s3 s4
  have m3 := mb r5 r6 s1 s2
  have m4 := mb r1 r2 s5 s6
  have m5 := mb r1 r2 s3 s4
  have m6 := mb r3 r4 s1 s2
  have n1 := mb (u := a0) (v := b1 * c2 - b2 * c1) (U := 48) (V := 79164837199872) p1 p2 (by omega) (by omega)
  have n2 := mb (u := a1) (v := b2 * c0 - b0 * c2) (U := 6291456) (V := 603979776) p3 p4 (by omega) (by omega)
  have n3 := mb (u := a2) (v := b0 * c1 - b1 * c0) (U := 6291456) (V := 603979776) p5 p6 (by omega) (by omega)
  unfold dt
  omega
/-- Without a support a group has no sums; so each group of a platform that can stand has one. -/
theorem no_sup {l : List Sup} (h : okA l = true) {g : Int} (hn : cN g l = 0) : cX g l = 0 ∧ cY g l = 0 := by
  have b := cX_bd g h
  have c := cY_bd g h
  omega
theorem wh_pos {l : List Sup} (h : okA l = true) (hw : wh l ≠ 0) : 1 ≤ cN 0 l ∧ 1 ≤ cN 1 l ∧ 1 ≤ cN 2 l := by
  have a0 := cN_nonneg 0 l
  have a1 := cN_nonneg 1 l
  have a2 := cN_nonneg 2 l
  refine ⟨?_, ?_, ?_⟩ <;> apply Decidable.byContradiction <;> intro hn <;> apply hw
  · obtain ⟨e1, e2⟩ := no_sup h (show cN 0 l = 0 by omega)
    unfold wh dt; rw [e1, e2, show cN 0 l = 0 by omega]; simp
  · obtain ⟨e1, e2⟩ := no_sup h (show cN 1 l = 0 by omega)
    unfold wh dt; rw [e1, e2, show cN 1 l = 0 by omega]; simp
  · obtain ⟨e1, e2⟩ := no_sup h (show cN 2 l = 0 by omega)
    unfold wh dt; rw [e1, e2, show cN 2 l = 0 by omega]; simp
end Gs
