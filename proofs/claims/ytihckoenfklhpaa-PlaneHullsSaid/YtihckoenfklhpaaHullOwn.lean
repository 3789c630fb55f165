/- Lists that are put together from others, and their hulls. -/
import Derived.Test.YtihckoenfklhpaaLeastM
import Derived.Test.YtihckoenfklhpaaFew
namespace Go.Proofs.Ytihckoenfklhpaa
open Go.RowKit Go.Proofs.Gn
theorem own_p {W : World} {base e n cap g : Nat} {ps : Pl} (h : W.ownsRow base e 2 (.slice (some ⟨g, 0, none⟩) n cap) n (cellsPl ps)) : Pts W (some ⟨g, 0, none⟩) ps := by
  obtain rfl := own_len h
  exact .inr ⟨g, 0, rfl, own_cells h⟩
/-- A new list without anything. -/
theorem own_empty (W : World) (e B : Nat) (hB : B ≤ W.heap.size) : (W.alloc (.cells #[] e)).ownsRow B e 2 (.slice (some ⟨W.heap.size, 0, none⟩) 0 0) 0 [] :=
  ⟨rfl, .inr ⟨W.heap.size, 0, #[], rfl, hB, World.alloc_heap_new W _, Nat.le_refl _, Nat.zero_le _, rfl, rfl⟩⟩
theorem own_emptyD (W : World) (e B : Nat) (hB : B ≤ W.heap.size) : (W.alloc (.cells #[] e)).drew.ownsRow B e 2 (.slice (some ⟨W.heap.size, 0, none⟩) 0 0) 0 [] := own_empty W e B hB
theorem one_cells (ps : Pl) : ∀ u ∈ cellsPl ps, u.oneCell' = true := by
  intro u hu
  unfold cellsPl at hu
  obtain ⟨p, _, hp⟩ := List.mem_flatMap.1 hu
  simp at hp
  rcases hp with rfl | rfl <;> rfl
theorem pts_news {W : World} {g o : Nat} {ps : Pl} (h : Pts W (some ⟨g, o, none⟩) ps) : ∀ j u, (cellsPl ps)[j]? = some u → W.cell? ((⟨g, o, none⟩ : Addr).add j) = some u := by
  intro j u hj
  have hlt : j < (cellsPl ps).length := (List.getElem?_eq_some_iff.1 hj).1
  rw [cellsPl_length] at hlt
  obtain ⟨q, hq⟩ : ∃ q, j = q * 2 ∨ j = q * 2 + 1 := ⟨j / 2, by omega⟩
  have hk : q < ps.length := by omega
  obtain ⟨g', o', he, hc⟩ := h.resolve_left (by intro e; rw [e] at hk; simp at hk)
  obtain ⟨rfl, rfl⟩ : g = g' ∧ o = o' := by simpa using he
  obtain ⟨c0, c1⟩ := cellsPl_at hk
  have ea : (⟨g, o, none⟩ : Addr).add j = ⟨g, o + j, none⟩ := by unfold Addr.add; split <;> simp_all
  rw [ea]
  rcases hq with rfl | rfl
  · rw [c0] at hj
    cases hj
    exact (hc q hk).1
  · rw [c1] at hj
    cases hj
    rw [← Nat.add_assoc]
    exact (hc q hk).2
theorem pts_take {W : World} {g o : Nat} {ps : Pl} (h : Pts W (some ⟨g, o, none⟩) ps) (k : Nat) : Pts W (some ⟨g, o, none⟩) (ps.take k) := by
  rcases h with h | ⟨g', o', he, hc⟩
  · exact .inl (by rw [h]; simp)
  · exact .inr ⟨g', o', he, fun j hj => by
      rw [List.length_take] at hj
      rw [List.getElem_take]
      exact hc j (by omega)⟩
theorem pts_drop {W : World} {g o : Nat} {ps : Pl} (h : Pts W (some ⟨g, o, none⟩) ps) (k : Nat) : Pts W (some ⟨g, o + k * 2, none⟩) (ps.drop k) := by
  rcases h with h | ⟨g', o', he, hc⟩
  · exact .inl (by rw [h]; simp)
  · obtain ⟨rfl, rfl⟩ : g = g' ∧ o = o' := by simpa using he
    exact .inr ⟨g, o + k * 2, rfl, fun j hj => by
      rw [List.length_drop] at hj
      rw [List.getElem_drop]
      have := hc (k + j) (by omega)
      rw [show o + k * 2 + j * 2 = o + (k + j) * 2 by omega]
      exact this⟩
/-- The hull of an own list. -/
theorem hull_own {ps : Pl} (h0 : 0 < ps.length) (hl : ps.length ≤ 256) (ho : okL ps = true) {B c : Nat} {xs : List Value} (hx : xs = cellsPl ps) (v : Value) (W : World) (hown : W.ownsRow B 24 2 v c xs) :
    Calls Try.prog 9 #[v] W fun e w' => ∃ gg cg, e = .returned (.tuple #[.slice (some ⟨gg, 0, none⟩) (Gx.hullF ps).length cg, .int .i64 0]) ∧ (Gx.hullF ps).length ≤ cg ∧ cg ≤ 9223372036854775807 ∧ Pts w' (some ⟨gg, 0, none⟩) (Gx.hullF ps) ∧ Up W w' := by
  subst hx
  obtain ⟨A, cap, rfl, hp⟩ := own_pts hown
  refine (p_Hull A ps cap W hp h0 hl ho).mono fun e w' ⟨v, he, ho', hb⟩ => ?_
  obtain ⟨g, cap, rfl, _, h1, h2⟩ := own_some ho' (hullOf (List.ne_nil_of_length_pos h0)).pos
  exact ⟨g, cap, he, h1, h2, own_p ho', hb⟩
theorem own_grow {B : Nat} {w W w1 : World} {v : Value} {e n : Nat} {xs : List Value} (ho : W.ownsRow B e 2 v n xs) (hB : B ≤ w.heap.size) (hb : Below B w W) (hg : W.grownBy w1 v.ownBlock) : Below B w w1 := hb.grown hg (Nat.le_trans hB hb.size) fun j hj => (ho.lt j hj).1
end Go.Proofs.Ytihckoenfklhpaa
