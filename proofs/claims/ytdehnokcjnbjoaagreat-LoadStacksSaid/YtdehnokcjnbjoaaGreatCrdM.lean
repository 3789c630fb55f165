/- What a piece carries: mathematics. -/
import Derived.Test.YtdehnokcjnbjoaaGreatRst
import Derived.Test.YtdehnokcjnbjoaaGreatPkOwnN
namespace Go.Proofs.YtdehnokcjnbjoaaGreat
open Go.RowKit Go.Proofs.Gn
set_option linter.unusedVariables false
abbrev pc0 : Pce := ⟨0, 0, 0, 0, 0, 0, 0⟩
/-- u rests on v. -/
def rsN (ps : List Pce) (u v : Nat) : Bool := rsP (ps.getD u pc0) (ps.getD v pc0)
theorem rsN_at (ps : List Pce) {u v : Nat} (hu : u < ps.length) (hv : v < ps.length) : rsN ps u v = rsP ps[u] ps[v] := by
  unfold rsN
  rw [List.getD_eq_getElem?_getD, List.getD_eq_getElem?_getD, List.getElem?_eq_getElem hu, List.getElem?_eq_getElem hv]
  rfl
/-- What i carries. -/
inductive Rch (ps : List Pce) (i : Nat) : Nat → Prop
  | start : Rch ps i i
  | step {v u : Nat} (h : Rch ps i v) (hu : u < ps.length) (hr : rsN ps u v = true) : Rch ps i u
open Classical in
noncomputable def cdN (ps : List Pce) (i : Nat) : List Nat := (List.range ps.length).filter fun k => decide (Rch ps i k)
def inN (l : List Nat) : List Int := l.map fun k : Nat => (k : Int)
noncomputable def cdL (ps : List Pce) (i : Nat) : List Int := inN (cdN ps i)
theorem cdN_mem {ps : List Pce} {i k : Nat} : k ∈ cdN ps i ↔ k < ps.length ∧ Rch ps i k := by
  unfold cdN
  simp
theorem cdN_pw (ps : List Pce) (i : Nat) : (cdN ps i).Pairwise (· < ·) := by
  unfold cdN
  exact List.Pairwise.filter _ List.pairwise_lt_range
theorem pw_uniqI {α : Type} {R : α → α → Prop} (asy : ∀ x y, R x y → ¬ R y x) : ∀ a b : List α, a.Pairwise R → b.Pairwise R → (∀ q, q ∈ a ↔ q ∈ b) → a = b := by
  have irr : ∀ x, ¬ R x x := fun x h => asy x x h h
  intro a
  induction a with
  | nil =>
    intro b _ _ h
    cases b with
    | nil => rfl
    | cons y b => exact absurd ((h y).2 (by simp)) (by simp)
  | cons x a ih =>
    intro b pa pb h
    cases b with
    | nil => exact absurd ((h x).1 (by simp)) (by simp)
    | cons y b =>
      obtain ⟨xa, pa2⟩ := List.pairwise_cons.1 pa
      obtain ⟨yb, pb2⟩ := List.pairwise_cons.1 pb
      have hxy : x = y := by
        rcases List.mem_cons.1 ((h x).1 (by simp)) with e | e
        · exact e
        · rcases List.mem_cons.1 ((h y).2 (by simp)) with e' | e'
          · exact e'.symm
          · exact absurd (xa y e') (asy _ _ (yb x e))
      subst hxy
      rw [ih b pa2 pb2 fun q => ⟨fun hq => by
        rcases List.mem_cons.1 ((h q).1 (List.mem_cons_of_mem _ hq)) with e | e
        · subst e; exact absurd (xa q hq) (irr q)
        · exact e, fun hq => by
        rcases List.mem_cons.1 ((h q).2 (List.mem_cons_of_mem _ hq)) with e | e
        · subst e; exact absurd (yb q hq) (irr q)
        · exact e⟩]
theorem nodup_lt : ∀ (n : Nat) (F : List Nat), F.Nodup → (∀ u ∈ F, u < n) → F.length ≤ n := by
  intro n
  induction n with
  | zero =>
    intro F _ h
    cases F with
    | nil => exact Nat.le_refl _
    | cons a F => exact absurd (h a (by simp)) (by omega)
  | succ n ih =>
    intro F hn h
    have q := ih (F.erase n) (hn.erase n) (fun u hu => by
      have h1 := (hn.mem_erase_iff).1 hu
      have := h u h1.2
      have := h1.1
      omega)
    have := List.length_erase (a := n) (l := F)
    split at this <;> omega
/-- What is found: with the first q of them also what rests on them. -/
structure Fnd (ps : List Pce) (i : Nat) (F : List Nat) (q : Nat) : Prop where
  nd : F.Nodup
  lt : ∀ u ∈ F, u < ps.length
  rch : ∀ u ∈ F, Rch ps i u
  ini : i ∈ F
  clo : ∀ j (h : j < F.length), j < q → ∀ u, u < ps.length → rsN ps u F[j] = true → u ∈ F
theorem fnd_start {ps : List Pce} {i : Nat} (hi : i < ps.length) : Fnd ps i [i] 0 where
  nd := by simp
  lt u hu := by simp at hu; subst hu; exact hi
  rch u hu := by simp at hu; subst hu; exact .start
  ini := by simp
  clo j _ h := by omega
theorem Fnd.len {ps : List Pce} {i : Nat} {F : List Nat} {q : Nat} (h : Fnd ps i F q) : F.length ≤ ps.length := nodup_lt _ F h.nd h.lt
theorem Fnd.add {ps : List Pce} {i : Nat} {F : List Nat} {q u : Nat} (h : Fnd ps i F q) (hq : q < F.length) (hu : u < ps.length) (hr : rsN ps u F[q] = true) (hn : ¬ u ∈ F) : Fnd ps i (F ++ [u]) q where
  nd := by
    rw [List.nodup_append]
    refine ⟨h.nd, by simp, fun a ha b hb e => ?_⟩
    simp at hb
    subst hb
    subst e
    exact hn ha
  lt a ha := by
    rcases List.mem_append.1 ha with ha | ha
    · exact h.lt a ha
    · simp at ha; subst ha; exact hu
  rch a ha := by
    rcases List.mem_append.1 ha with ha | ha
    · exact h.rch a ha
    · simp at ha; subst ha; exact .step (h.rch _ (List.getElem_mem hq)) hu hr
  ini := List.mem_append_left _ h.ini
  clo j hj hjq a ha hra := by
    have hj' : j < F.length := by omega
    rw [List.getElem_append_left hj'] at hra
    exact List.mem_append_left _ (h.clo j hj' hjq a ha hra)
theorem Fnd.next {ps : List Pce} {i : Nat} {F : List Nat} {q : Nat} (h : Fnd ps i F q) (hq : q < F.length) (hc : ∀ u, u < ps.length → rsN ps u F[q] = true → u ∈ F) : Fnd ps i F (q + 1) :=
  ⟨h.nd, h.lt, h.rch, h.ini, fun j hj hjq u hu hr => by
    by_cases e : j < q
    · exact h.clo j hj e u hu hr
    · obtain rfl : j = q := by omega
      exact hc u hu hr⟩
theorem Fnd.mem {ps : List Pce} {i : Nat} {F : List Nat} (h : Fnd ps i F F.length) (hi : i < ps.length) (k : Nat) : k ∈ F ↔ k ∈ cdN ps i := by
  rw [cdN_mem]
  constructor
  · exact fun hk => ⟨h.lt k hk, h.rch k hk⟩
  · rintro ⟨_, hr⟩
    induction hr with
    | start => exact h.ini
    | @step v u hv hu hr ih =>
      have hvl : v < ps.length := by
        cases hv with
        | start => exact hi
        | step _ h _ => exact h
      obtain ⟨j, hj, e⟩ := List.getElem_of_mem (ih hvl)
      exact h.clo j hj hj u hu (by rw [e]; exact hr)
theorem Fnd.sorted {ps : List Pce} {i : Nat} {F : List Nat} (h : Fnd ps i F F.length) (hi : i < ps.length) : (inN F).mergeSort (fun x y => decide (x ≤ y)) = cdL ps i := by
  have hp := List.mergeSort_perm (inN F) (fun x y => decide (x ≤ y))
  have hs : ((inN F).mergeSort (fun x y => decide (x ≤ y))).Pairwise (fun x y => decide (x ≤ y) = true) := List.pairwise_mergeSort (by intro a b c; simp; omega) (by intro a b; simp; omega) _
  have hd : ((inN F).mergeSort (fun x y => decide (x ≤ y))).Nodup := by
    rw [hp.nodup_iff]
    exact List.Pairwise.map _ (fun a b hab e => hab (by omega)) h.nd
  refine pw_uniqI (R := fun x y : Int => x < y) (fun x y a b => by omega) _ _ ?_ ?_ fun q => ?_
  · exact (hs.and hd).imp fun ⟨a, b⟩ => by simp at a; omega
  · exact List.Pairwise.map _ (fun a b hab => by omega) (cdN_pw ps i)
  · rw [hp.mem_iff]
    unfold cdL inN
    simp only [List.mem_map]
    constructor
    · rintro ⟨k, hk, rfl⟩; exact ⟨k, (h.mem hi k).1 hk, rfl⟩
    · rintro ⟨k, hk, rfl⟩; exact ⟨k, (h.mem hi k).2 hk, rfl⟩
end Go.Proofs.YtdehnokcjnbjoaaGreat
