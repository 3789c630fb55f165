/- Sorted lists of points in which each is once: there is one with given points. -/
import Derived.Test.YtihckoenfklhpaaHullQ
namespace Go.Proofs.Gx
/-- Equal neighbours become one. -/
def dedup : List P2 → List P2
  | a :: b :: t => if a = b then dedup (b :: t) else a :: dedup (b :: t)
  | l => l
theorem dedup_mem (q : P2) : ∀ l, q ∈ dedup l ↔ q ∈ l := by
  intro l
  induction l with
  | nil => exact Iff.rfl
  | cons a l ih =>
    match l, ih with
    | [], _ => exact Iff.rfl
    | b :: t, ih =>
      unfold dedup
      split
      · rename_i h
        subst h
        rw [ih]
        simp
      · rw [List.mem_cons, ih, List.mem_cons (a := q) (b := a)]
theorem dedup_incr : ∀ l : List P2, l.Pairwise le2 → Incr (dedup l) := by
  intro l
  induction l with
  | nil => intro _; exact List.Pairwise.nil
  | cons a l ih =>
    intro h
    match l, ih, h with
    | [], _, _ => exact List.pairwise_singleton _ _
    | b :: t, ih, h =>
      have h1 := List.pairwise_cons.1 h
      have h2 := List.pairwise_cons.1 h1.2
      unfold dedup
      split
      · exact ih h1.2
      · rename_i hne
        refine List.pairwise_cons.2 ⟨fun q hq => ?_, ih h1.2⟩
        have hab : lt2 a b := (h1.1 b (by simp)).resolve_left hne
        rcases List.mem_cons.1 ((dedup_mem q _).1 hq) with rfl | hq
        · exact hab
        · exact lt2_le2 hab (h2.1 q hq)
theorem incr_unique : ∀ a b : List P2, Incr a → Incr b → (∀ q, q ∈ a ↔ q ∈ b) → a = b := by
  intro a
  induction a with
  | nil =>
    intro b _ _ h
    match b with
    | [] => rfl
    | y :: t => exact absurd ((h y).2 (by simp)) (by simp)
  | cons x a ih =>
    intro b ha hb h
    match b, hb, h with
    | [], _, h => exact absurd ((h x).1 (by simp)) (by simp)
    | y :: t, hb, h =>
      have a1 := List.pairwise_cons.1 ha
      have b1 := List.pairwise_cons.1 hb
      have hxy : x = y := by
        rcases List.mem_cons.1 ((h x).1 (by simp)) with e | e
        · exact e
        · rcases List.mem_cons.1 ((h y).2 (by simp)) with e' | e'
          · exact e'.symm
          · exact absurd (a1.1 y e') (lt2_asymm (b1.1 x e))
      subst hxy
      have : a = t := ih t a1.2 b1.2 fun q => by
        constructor
        · intro hq
          rcases List.mem_cons.1 ((h q).1 (List.mem_cons_of_mem _ hq)) with e | e
          · subst e; exact absurd (a1.1 q hq) (lt2_irrefl q)
          · exact e
        · intro hq
          rcases List.mem_cons.1 ((h q).2 (List.mem_cons_of_mem _ hq)) with e | e
          · subst e; exact absurd (b1.1 q hq) (lt2_irrefl q)
          · exact e
      rw [this]
def insU (p : P2) : List P2 → List P2
  | [] => [p]
  | q :: t => if lt2 q p then q :: insU p t else if q = p then q :: t else p :: q :: t
theorem insU_mem (p q : P2) : ∀ l, q ∈ insU p l ↔ q = p ∨ q ∈ l := by
  intro l
  induction l with
  | nil => simp [insU]
  | cons a l ih =>
    unfold insU
    split
    · rw [List.mem_cons, ih, List.mem_cons]
      constructor
      · rintro (h | h | h)
        · exact .inr (.inl h)
        · exact .inl h
        · exact .inr (.inr h)
      · rintro (h | h | h)
        · exact .inr (.inl h)
        · exact .inl h
        · exact .inr (.inr h)
    · split
      · rename_i h
        subst h
        simp
      · simp
theorem insU_incr (p : P2) : ∀ l, Incr l → Incr (insU p l) := by
  intro l
  induction l with
  | nil => intro _; exact List.pairwise_singleton _ _
  | cons a l ih =>
    intro h
    have h1 := List.pairwise_cons.1 h
    unfold insU
    split
    · rename_i hap
      refine List.pairwise_cons.2 ⟨fun q hq => ?_, ih h1.2⟩
      rcases (insU_mem p q l).1 hq with rfl | hq
      · exact hap
      · exact h1.1 q hq
    · split
      · exact h
      · rename_i h2 h3
        have hpa : lt2 p a := by
          rcases lt2_tri p a with k | k | k
          · exact k
          · exact absurd k.symm h3
          · exact absurd k h2
        refine List.pairwise_cons.2 ⟨fun q hq => ?_, h⟩
        rcases List.mem_cons.1 hq with rfl | hq
        · exact hpa
        · exact lt2_trans hpa (h1.1 q hq)
/-- The points in order, each one once. -/
def sortU (l : List P2) : List P2 := l.foldl (fun s p => insU p s) []
theorem sortU_snoc (l : List P2) (p : P2) : sortU (l ++ [p]) = insU p (sortU l) := by simp [sortU]
theorem sortU_ok : ∀ l : List P2, Incr (sortU l) ∧ ∀ q, q ∈ sortU l ↔ q ∈ l := by
  intro l
  generalize hr : l.reverse = r
  induction r generalizing l with
  | nil =>
    have : l = [] := by simpa using hr
    subst this
    exact ⟨List.Pairwise.nil, fun q => Iff.rfl⟩
  | cons p r ih =>
    have e : l = r.reverse ++ [p] := by rw [← List.reverse_reverse l, hr]; simp
    have h := ih r.reverse (by simp)
    subst e
    rw [sortU_snoc]
    refine ⟨insU_incr p _ h.1, fun q => ?_⟩
    rw [insU_mem, h.2, List.mem_append, List.mem_singleton]
    exact Or.comm
theorem sortU_ne {l : List P2} (h : l ≠ []) : sortU l ≠ [] := by
  intro e
  match l, h with
  | a :: t, _ =>
    have := ((sortU_ok (a :: t)).2 a).2 (by simp)
    rw [e] at this
    simp at this
theorem sort_unique {l s : List P2} (hs : Incr s) (hm : ∀ q, q ∈ s ↔ q ∈ l) : s = sortU l :=
  incr_unique s (sortU l) hs (sortU_ok l).1 fun q => by rw [hm, (sortU_ok l).2]
/-- The hull of points. -/
def hullF (l : List P2) : List P2 := hullS (sortU l)
theorem hullF_same {a b : List P2} (h : ∀ q, q ∈ a ↔ q ∈ b) : hullF a = hullF b := by
  have e : sortU a = sortU b := sort_unique (sortU_ok a).1 (fun q => by rw [(sortU_ok a).2, h])
  unfold hullF
  rw [e]
theorem hullF_poly {l : List P2} (h : l ≠ []) : Poly (hullF l) ∧ (∀ q ∈ l, SC (hullF l) q) ∧ (∀ r ∈ hullF l, r ∈ l) := by
  obtain ⟨h1, h2, h3, _⟩ := hull_poly (sortU_ok l).1 (sortU_ne h)
  exact ⟨h1, fun q hq => h2 q (((sortU_ok l).2 q).2 hq), fun r hr => ((sortU_ok l).2 r).1 (h3 r hr)⟩
theorem dedup_sort {l s : List P2} (hp : s.Perm l) (hs : s.Pairwise le2) : dedup s = sortU l :=
  sort_unique (dedup_incr s hs) fun q => by rw [dedup_mem, hp.mem_iff]
end Go.Proofs.Gx
