/- Divisions: the order of the supports is one; the division with the least load, with and without stopping early; no load is less than the mass over all supports. -/
import Derived.Test.YtepblnnebeglbaaRefDvd
import Derived.Test.YtepblnnebeglbaaHeavy
namespace Go.Proofs.Ytepblnnebeglbaa
open Go.RowKit Go.Proofs.Gn
def xA (ps : List Gs.Sup) (i : Nat) : Int := (ps[i]?.map (·.x)).getD 0
/-- Support i comes before support j. -/
def ltS (ps : List Gs.Sup) (i j : Nat) : Prop := xA ps i < xA ps j ∨ (xA ps i = xA ps j ∧ (yA ps i < yA ps j ∨ (yA ps i = yA ps j ∧ i < j)))
theorem ltS_irrefl (ps : List Gs.Sup) (i : Nat) : ¬ ltS ps i i := by unfold ltS; omega
theorem ltS_trans {ps : List Gs.Sup} {i j k : Nat} (h1 : ltS ps i j) (h2 : ltS ps j k) : ltS ps i k := by unfold ltS at *; omega
theorem ltS_tri (ps : List Gs.Sup) (i j : Nat) : ltS ps i j ∨ i = j ∨ ltS ps j i := by unfold ltS; omega
theorem ord_unique {ps : List Gs.Sup} : ∀ {l1 l2 : List Nat}, l1.Perm l2 → l1.Pairwise (ltS ps) → l2.Pairwise (ltS ps) → l1 = l2
  | [], l2, hp, _, _ => hp.nil_eq
  | a :: l1, [], hp, _, _ => absurd hp.length_eq (by simp)
  | a :: l1, b :: l2, hp, h1, h2 => by
    have ha := List.pairwise_cons.1 h1
    have hb := List.pairwise_cons.1 h2
    have e : a = b := by
      have m1 : a ∈ b :: l2 := hp.mem_iff.1 (by simp)
      have m2 : b ∈ a :: l1 := hp.mem_iff.2 (by simp)
      rcases List.mem_cons.1 m1 with r | r
      · exact r
      · rcases List.mem_cons.1 m2 with s | s
        · exact s.symm
        · exact absurd (ltS_trans (ha.1 b s) (hb.1 a r)) (ltS_irrefl ps a)
    subst e
    rw [ord_unique (List.Perm.cons_inv hp) ha.2 hb.2]
/-- The groups of a division as a list. -/
def dvI (ps : List Gs.Sup) (is : List Nat) : List Int := (List.range ps.length).map (dvG ps is)
def rdI (ps : List Gs.Sup) (fs : List Nat) : List Int := (List.range ps.length).map (rdG ps fs)
theorem rd_dvI {ps : List Gs.Sup} {fs is : List Nat} (h : (fs ++ is).Perm (List.range ps.length)) : rdI ps fs = dvI ps is := by
  unfold rdI dvI
  exact List.map_congr_left fun i hi => rd_dv h i (List.mem_range.1 hi)
theorem cut_perm {l : List Nat} {n : Nat} (h : l.Perm (List.range n)) (k : Nat) : (l.take k ++ l.drop k).Perm (List.range n) ∧ (l.drop k ++ l.take k).Perm (List.range n) := by
  have e : l.take k ++ l.drop k = l := List.take_append_drop k l
  exact ⟨by rw [e]; exact h, List.perm_append_comm.trans (by rw [e]; exact h)⟩
/-- All divisions, in order. -/
def dvs (ps : List Gs.Sup) (l : List Nat) : List (List Int) := (List.range (ps.length - 2)).flatMap fun k => [dvI ps (l.drop (k + 1)), dvI ps (l.take (ps.length - (k + 1)))]
/-! ### The least load -/
abbrev Best := Option (List Int × Int)
/-- What becomes of the best division so far at one with this load (if it is possible). -/
def bStep (b : Best) (d : List Int) (ok : Bool) (v : Int) : Best := if ok = true ∧ (b = none ∨ ∀ c, b = some c → v < c.2) then some (d, v) else b
def bAll (ok : List Int → Bool) (v : List Int → Int) (b : Best) (D : List (List Int)) : Best := D.foldl (fun b d => bStep b d (ok d) (v d)) b
theorem bAll_cons (ok : List Int → Bool) (v : List Int → Int) (b : Best) (d : List Int) (D : List (List Int)) : bAll ok v b (d :: D) = bAll ok v (bStep b d (ok d) (v d)) D := rfl
theorem bStep_no (b : Best) (d : List Int) (v : Int) : bStep b d false v = b := by unfold bStep; rw [if_neg (by simp)]
theorem bStep_none (d : List Int) (v : Int) : bStep none d true v = some (d, v) := by unfold bStep; rw [if_pos ⟨rfl, .inl rfl⟩]
theorem bStep_lt {c : List Int × Int} {d : List Int} {v : Int} (h : v < c.2) : bStep (some c) d true v = some (d, v) := by
  unfold bStep; rw [if_pos ⟨rfl, .inr fun x hx => by injection hx with hx; subst hx; exact h⟩]
theorem bStep_ge {c : List Int × Int} {d : List Int} {v : Int} (h : ¬ v < c.2) : bStep (some c) d true v = some c := by
  unfold bStep; rw [if_neg]; rintro ⟨_, x | x⟩
  · cases x
  · exact h (x c rfl)
/-- A best division with the least load of all stays. -/
theorem bAll_least {ok : List Int → Bool} {v : List Int → Int} {c : List Int × Int} : ∀ {D : List (List Int)}, (∀ d ∈ D, ok d = true → c.2 ≤ v d) → bAll ok v (some c) D = some c
  | [], _ => rfl
  | d :: D, h => by
    rw [bAll_cons]
    cases ho : ok d
    · rw [bStep_no]; exact bAll_least fun x hx => h x (by simp [hx])
    · rw [bStep_ge (by have := h d (by simp) ho; omega)]; exact bAll_least fun x hx => h x (by simp [hx])
/-- Where a load is the least that there may be, all is decided. -/
theorem bAll_stop {ok : List Int → Bool} {v : List Int → Int} {b : Best} {d : List Int} {D : List (List Int)} {least : Int} (hb : ∀ c, b = some c → least < c.2) (ho : ok d = true) (hv : v d = least) (h : ∀ x ∈ D, ok x = true → least ≤ v x) : bAll ok v b (d :: D) = some (d, least) := by
  rw [bAll_cons, ho, hv]
  have : bStep b d true least = some (d, least) := by
    cases b with
    | none => exact bStep_none _ _
    | some c => exact bStep_lt (hb c rfl)
  rw [this]
  exact bAll_least h
/-! ### No load is less than the mass over all supports -/
theorem up_ge {n d t : Int} (hd : 0 < d) : n * t ≤ up n d t * d := by
  unfold up
  have h := Int.ediv_mul_le (n * -t) (show d ≠ 0 by omega)
  have e : n * -t = -(n * t) := by rw [Int.mul_neg]
  rw [e] at h ⊢
  rw [Int.neg_mul]
  omega
theorem up_le {n d v : Int} (hd : 0 < d) (h : n ≤ v * d) : up n d 1 ≤ v := by
  unfold up
  have e : n * -1 = -n := by omega
  rw [e]
  have : -v ≤ -n / d := (Int.le_ediv_iff_mul_le hd).2 (by rw [Int.neg_mul]; omega)
  omega
theorem cN_all (l : List Gs.Sup) (h : Gs.okA l = true) : Gs.cN 0 l + Gs.cN 1 l + Gs.cN 2 l = l.length := by
  have key : ∀ k, k ≤ l.length → Gs.cN 0 (l.take k) + Gs.cN 1 (l.take k) + Gs.cN 2 (l.take k) = k := by
    intro k
    induction k with
    | zero => intro _; simp [Gs.cN]
    | succ k ih =>
      intro hk
      have hl : k < l.length := by omega
      have g := (Gs.okS_yes (Gs.okA_get h hl)).2.2.1
      have i := ih (by omega)
      rw [Gs.cN_take 0 hl, Gs.cN_take 1 hl, Gs.cN_take 2 hl]
      rcases (show l[k].g = 0 ∨ l[k].g = 1 ∨ l[k].g = 2 by omega) with e | e | e <;> rw [e] <;> simp <;> omega
  have t := key l.length (Nat.le_refl _)
  rwa [List.take_length] at t
theorem load_least {q : List Gs.Sup} {m X Y : Int} (h : shE q m X Y = 0) : up m q.length 1 ≤ max (shV q m X Y (up m (paD q) (pa0 q X Y))) (max (shV q m X Y (up m (paD q) (pa1 q X Y))) (shV q m X Y (up m (paD q) (pa2 q X Y)))) := by
  have hv : ∀ v, shV q m X Y v = v := fun v => by unfold shV; rw [if_pos h]
  rw [hv, hv, hv]
  unfold shE at h
  split at h
  · rename_i hb
    obtain ⟨ha, hm1, _⟩ := boE_ok hb
    obtain ⟨o1, o2, o3, o4⟩ := chE_ok (atE_ok ha).1
    obtain ⟨hD, hs, _, _⟩ := pa_sum o4 X Y
    obtain ⟨n0', n1', n2'⟩ := Gs.wh_pos o1 o4
    have n0 : 0 ≤ Gs.cN 0 q := by omega
    have n1 : 0 ≤ Gs.cN 1 q := by omega
    have n2 : 0 ≤ Gs.cN 2 q := by omega
    clear n0' n1' n2'
    have hc := cN_all q o1
    have u0 := up_ge (n := m) (t := pa0 q X Y) hD
    have u1 := up_ge (n := m) (t := pa1 q X Y) hD
    have u2 := up_ge (n := m) (t := pa2 q X Y) hD
    generalize up m (paD q) (pa0 q X Y) = r0 at *
    generalize up m (paD q) (pa1 q X Y) = r1 at *
    generalize up m (paD q) (pa2 q X Y) = r2 at *
    generalize pa0 q X Y = p0 at *
    generalize pa1 q X Y = p1 at *
    generalize pa2 q X Y = p2 at *
    generalize paD q = D at *
    generalize Gs.cN 0 q = c0 at *
    generalize Gs.cN 1 q = c1 at *
    generalize Gs.cN 2 q = c2 at *
    obtain ⟨V, hV⟩ : ∃ V, max r0 (max r1 r2) = V := ⟨_, rfl⟩
    have e0 : r0 ≤ V := by omega
    have e1 : r1 ≤ V := by omega
    have e2 : r2 ≤ V := by omega
    rw [hV]
    refine up_le (by omega) ?_
    have a0 : r0 * c0 ≤ V * c0 := Int.mul_le_mul_of_nonneg_right e0 n0
    have a1 : r1 * c1 ≤ V * c1 := Int.mul_le_mul_of_nonneg_right e1 n1
    have a2 : r2 * c2 ≤ V * c2 := Int.mul_le_mul_of_nonneg_right e2 n2
    have b0 : m * p0 * c0 ≤ r0 * D * c0 := Int.mul_le_mul_of_nonneg_right u0 n0
    have b1 : m * p1 * c1 ≤ r1 * D * c1 := Int.mul_le_mul_of_nonneg_right u1 n1
    have b2 : m * p2 * c2 ≤ r2 * D * c2 := Int.mul_le_mul_of_nonneg_right u2 n2
    have s1 : m * D ≤ (r0 * c0 + r1 * c1 + r2 * c2) * D := by
      have e : m * D = m * p0 * c0 + m * p1 * c1 + m * p2 * c2 := by rw [← hs]; grind
      have f : (r0 * c0 + r1 * c1 + r2 * c2) * D = r0 * D * c0 + r1 * D * c1 + r2 * D * c2 := by grind
      rw [e, f]; omega
    have s2 : m ≤ r0 * c0 + r1 * c1 + r2 * c2 := Int.le_of_mul_le_mul_right s1 hD
    have s3 : V * (q.length : Int) = V * c0 + V * c1 + V * c2 := by rw [← hc]; grind
    rw [s3]; omega
  · exact absurd h (by assumption)
end Go.Proofs.Ytepblnnebeglbaa
