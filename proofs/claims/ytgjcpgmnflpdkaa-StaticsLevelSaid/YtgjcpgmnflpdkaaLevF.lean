/- Platforms on level and on raised ground: what the lengths of their cylinders are. -/
import Derived.Test.YtgjcpgmnflpdkaaLevM
namespace Go.Proofs.Ytgjcpgmnflpdkaa
open Go.RowKit Go.Proofs.Gn
def lst (f : Nat → Int) (n : Nat) : List Int := (List.range n).map f
theorem lst_len (f : Nat → Int) (n : Nat) : (lst f n).length = n := by unfold lst; simp
theorem lst_at (f : Nat → Int) {n k : Nat} (h : k < (lst f n).length) : (lst f n)[k] = f k := by simp [lst]
theorem lst_succ (f : Nat → Int) (n : Nat) : lst f (n + 1) = lst f n ++ [f n] := by unfold lst; rw [List.range_succ, List.map_append]; rfl
theorem lst_gsB {f : Nat → Int} {n : Nat} (h : ∀ k, -16384 ≤ f k ∧ f k ≤ 16384) : gsB (lst f n) = true := by
  unfold gsB lst
  rw [List.all_eq_true]
  intro x hx
  obtain ⟨k, _, rfl⟩ := List.mem_map.1 hx
  exact (win_iff _ _ _).2 (h k)
theorem fill_bd {ps : List Gs.Sup} (hc : chE ps = 0) {c : Int} (h : 1000 ≤ c ∧ c ≤ 1255) (g : Int) (hg : g = 0 ∨ g = 1 ∨ g = 2) : 0 ≤ c * Gs.cN g ps ∧ c * Gs.cN g ps ≤ 196608 := by
  obtain ⟨a, b, _, _⟩ := chE_ok hc
  have r := Gs.row_of a b g hg
  unfold Gs.Row at r
  have n0 := Gs.cN_nonneg g ps
  have m := Gs.mb (u := c) (v := Gs.cN g ps) (U := 1255) (V := 48) (by omega) (by omega) (by omega) (by omega)
  exact ⟨Int.mul_nonneg (by omega) n0, by omega⟩
theorem lev_la {ps : List Gs.Sup} (hc : chE ps = 0) {c : Int} (h : 1000 ≤ c ∧ c ≤ 1255) {f : Nat → Int} (hf : ∀ k, -16384 ≤ f k ∧ f k ≤ 16384) : laE (ps.map md) (lst f ps.length) (c * Gs.cN 0 ps) (c * Gs.cN 1 ps) (c * Gs.cN 2 ps) = 0 := by
  unfold laE
  rw [if_pos (md_chE hc), if_pos (by rw [lst_len, List.length_map]), if_pos, if_pos (lst_gsB hf)]
  unfold flB
  rw [Bool.and_eq_true, Bool.and_eq_true, win_iff, win_iff, win_iff]
  exact ⟨fill_bd hc h 0 (.inl rfl), fill_bd hc h 1 (.inr (.inl rfl)), fill_bd hc h 2 (.inr (.inr rfl))⟩
section
variable {ps : List Gs.Sup} {c : Int} {f : Nat → Int}
abbrev hoQ (ps : List Gs.Sup) (i : Nat) : Bool := match (ps.map md)[i]? with
  | some s => hoB (ps.map md) s.x s.y
  | none => false
abbrev heQ (ps : List Gs.Sup) (c : Int) (f : Nat → Int) (i : Nat) : Int := match (ps.map md)[i]? with
  | some s => heV (ps.map md) (lst f ps.length) (c * Gs.cN 0 ps) (c * Gs.cN 1 ps) (c * Gs.cN 2 ps) s.x s.y
  | none => 0
theorem stE_q {i : Nat} (hi : i < ps.length) : stE (ps.map md) (lst f ps.length) (c * Gs.cN 0 ps) (c * Gs.cN 1 ps) (c * Gs.cN 2 ps) i = if hoQ ps i then 4 else if win (heQ ps c f i - f i) 0 4096 then 0 else 14 := by
  have h1 : i < (ps.map md).length := by rw [List.length_map]; exact hi
  have h2 : i < (lst f ps.length).length := by rw [lst_len]; exact hi
  rw [stE_at h1 h2]
  unfold hoQ heQ
  rw [List.getElem?_eq_getElem h1, lst_at]
  simp [md]
theorem stV_q {i : Nat} (hi : i < ps.length) : stV (ps.map md) (lst f ps.length) (c * Gs.cN 0 ps) (c * Gs.cN 1 ps) (c * Gs.cN 2 ps) i = heQ ps c f i - f i := by
  have h1 : i < (ps.map md).length := by rw [List.length_map]; exact hi
  have h2 : i < (lst f ps.length).length := by rw [lst_len]; exact hi
  rw [stV_at h1 h2]
  unfold heQ
  rw [List.getElem?_eq_getElem h1, lst_at]
/-- What Strokes returns, by whether a part is beyond anywhere. -/
theorem st_q (hc : chE ps = 0) (h : 1000 ≤ c ∧ c ≤ 1255) (hf : ∀ k, -16384 ≤ f k ∧ f k ≤ 16384) {K : Nat} (hK : Fsn (ps.map md).length (stN (ps.map md) (lst f ps.length) (c * Gs.cN 0 ps) (c * Gs.cN 1 ps) (c * Gs.cN 2 ps)) K) :
    (stF (ps.map md) (lst f ps.length) (c * Gs.cN 0 ps) (c * Gs.cN 1 ps) (c * Gs.cN 2 ps) K = 0 ∧ stL (ps.map md) (lst f ps.length) (c * Gs.cN 0 ps) (c * Gs.cN 1 ps) (c * Gs.cN 2 ps) K = lst (fun i => heQ ps c f i - f i) ps.length ∧ ∀ i, i < ps.length → hoQ ps i = false ∧ 0 ≤ heQ ps c f i - f i ∧ heQ ps c f i - f i ≤ 4096) ∨
    (∃ i, i < ps.length ∧ ((hoQ ps i = true ∧ stF (ps.map md) (lst f ps.length) (c * Gs.cN 0 ps) (c * Gs.cN 1 ps) (c * Gs.cN 2 ps) K = 4) ∨ (hoQ ps i = false ∧ win (heQ ps c f i - f i) 0 4096 = false ∧ stF (ps.map md) (lst f ps.length) (c * Gs.cN 0 ps) (c * Gs.cN 1 ps) (c * Gs.cN 2 ps) K = 14))) := by
  have hla := lev_la hc h hf
  rcases st_cases (ps.map md) (lst f ps.length) (c * Gs.cN 0 ps) (c * Gs.cN 1 ps) (c * Gs.cN 2 ps) K hK.1 with ⟨a, _⟩ | ⟨_, e1, e2, e3⟩
  · exact absurd hla a
  · rw [List.length_map] at e1 e2 e3 hK
    by_cases hk : K < ps.length
    · right
      refine ⟨K, hk, ?_⟩
      have hn := hK.2.2 hk
      unfold stN at hn
      rw [e1 hk]
      rw [stE_q hk] at hn ⊢
      cases ho : hoQ ps K
      · rw [ho] at hn
        simp only [Bool.false_eq_true, if_false] at hn ⊢
        cases hw : win (heQ ps c f K - f K) 0 4096
        · simp
        · rw [hw] at hn; simp at hn
      · simp
    · left
      obtain rfl : K = ps.length := by have := hK.1; omega
      obtain ⟨f1, f2⟩ := e3 rfl
      refine ⟨f1, ?_, fun i hi => ?_⟩
      · rw [f2]
        unfold stR lst
        refine List.map_congr_left fun i hi => ?_
        exact stV_q (List.mem_range.1 hi)
      · have hn := hK.2.1 i hi
        unfold stN at hn
        rw [stE_q hi] at hn
        cases ho : hoQ ps i
        · rw [ho] at hn
          simp only [Bool.false_eq_true, if_false] at hn
          cases hw : win (heQ ps c f i - f i) 0 4096
          · rw [hw] at hn; simp at hn
          · exact ⟨rfl, (win_iff _ _ _).1 hw⟩
        · rw [ho] at hn; simp at hn
end
theorem heQ_level {ps : List Gs.Sup} (hc : chE ps = 0) {c : Int} {i : Nat} (hi : i < ps.length) : c + 498 ≤ heQ ps c (fun _ => 500) i ∧ heQ ps c (fun _ => 500) i ≤ c + 500 := by
  have h1 : i < (ps.map md).length := by rw [List.length_map]; exact hi
  unfold heQ
  rw [List.getElem?_eq_getElem h1]
  have g : ∀ g, gk g (ps.map md) (lst (fun _ => 500) ps.length) (ps.map md).length = 500 * Gs.cN g ps := by
    intro g
    rw [gk_const (v := 500) (by rw [lst_len, List.length_map]) (fun k hk => lst_at _ hk) g _ (Nat.le_refl _), List.take_length, (md_cN g ps).1]
  have t := he_level (ps := ps.map md) (gs := lst (fun _ => 500) ps.length) (f0 := c * Gs.cN 0 ps) (f1 := c * Gs.cN 1 ps) (f2 := c * Gs.cN 2 ps) (X := (ps.map md)[i].x) (Y := (ps.map md)[i].y) (s := c + 500) (md_chE hc)
    (by rw [g 0, (md_cN 0 ps).1, Int.add_mul]) (by rw [g 1, (md_cN 1 ps).1, Int.add_mul]) (by rw [g 2, (md_cN 2 ps).1, Int.add_mul])
  dsimp only
  omega
theorem heQ_plus {ps : List Gs.Sup} (hc : chE ps = 0) {c r : Int} {f : Nat → Int} {i : Nat} (hi : i < ps.length) : heQ ps c f i + r - 2 ≤ heQ ps c (fun k => f k + r) i ∧ heQ ps c (fun k => f k + r) i ≤ heQ ps c f i + r + 2 := by
  have h1 : i < (ps.map md).length := by rw [List.length_map]; exact hi
  unfold heQ
  rw [List.getElem?_eq_getElem h1]
  refine he_plus (md_chE hc) fun g => ?_
  rw [gk_plus (v := r) (gs := lst f ps.length) (by rw [lst_len, List.length_map]) (by rw [lst_len, List.length_map]) (fun k hk hk' => by rw [lst_at, lst_at]) g _ (Nat.le_refl _), List.take_length]
/-- What the statement asks. -/
theorem lev_all {ps : List Gs.Sup} (hc : chE ps = 0) {c r : Int} (h : 1000 ≤ c ∧ c ≤ 1255) (hr : 0 ≤ r ∧ r ≤ 255) {f : Nat → Int} (hf : ∀ k, -999 ≤ f k ∧ f k ≤ 999) :
    ∃ (K0 K1 K2 : Nat) (E0 E1 E2 : Int) (u v : Nat → Int),
      Fsn (ps.map md).length (stN (ps.map md) (lst (fun _ => 500) ps.length) (c * Gs.cN 0 ps) (c * Gs.cN 1 ps) (c * Gs.cN 2 ps)) K0 ∧ Fsn (ps.map md).length (stN (ps.map md) (lst f ps.length) (c * Gs.cN 0 ps) (c * Gs.cN 1 ps) (c * Gs.cN 2 ps)) K1 ∧ Fsn (ps.map md).length (stN (ps.map md) (lst (fun k => f k + r) ps.length) (c * Gs.cN 0 ps) (c * Gs.cN 1 ps) (c * Gs.cN 2 ps)) K2 ∧
      stF (ps.map md) (lst (fun _ => 500) ps.length) (c * Gs.cN 0 ps) (c * Gs.cN 1 ps) (c * Gs.cN 2 ps) K0 = E0 ∧ stF (ps.map md) (lst f ps.length) (c * Gs.cN 0 ps) (c * Gs.cN 1 ps) (c * Gs.cN 2 ps) K1 = E1 ∧ stF (ps.map md) (lst (fun k => f k + r) ps.length) (c * Gs.cN 0 ps) (c * Gs.cN 1 ps) (c * Gs.cN 2 ps) K2 = E2 ∧
      (E0 = 4 ∨ (E0 = 0 ∧ (∃ z : Nat → Int, stL (ps.map md) (lst (fun _ => 500) ps.length) (c * Gs.cN 0 ps) (c * Gs.cN 1 ps) (c * Gs.cN 2 ps) K0 = lst z ps.length ∧ ∀ i, i < ps.length → c - 3 ≤ z i ∧ z i ≤ c + 3) ∧
        (E1 = 14 ∨ (E1 = 0 ∧ stL (ps.map md) (lst f ps.length) (c * Gs.cN 0 ps) (c * Gs.cN 1 ps) (c * Gs.cN 2 ps) K1 = lst u ps.length)) ∧ (E2 = 14 ∨ (E2 = 0 ∧ stL (ps.map md) (lst (fun k => f k + r) ps.length) (c * Gs.cN 0 ps) (c * Gs.cN 1 ps) (c * Gs.cN 2 ps) K2 = lst v ps.length)) ∧
        (E1 = 0 → E2 = 0 → ∀ i, i < ps.length → (0 ≤ u i ∧ u i ≤ 4096) ∧ (0 ≤ v i ∧ v i ≤ 4096) ∧ u i - v i ≤ 3 ∧ v i - u i ≤ 3))) := by
  obtain ⟨K0, k0⟩ := fsn_ex (ps.map md).length (stN (ps.map md) (lst (fun _ => 500) ps.length) (c * Gs.cN 0 ps) (c * Gs.cN 1 ps) (c * Gs.cN 2 ps))
  obtain ⟨K1, k1⟩ := fsn_ex (ps.map md).length (stN (ps.map md) (lst f ps.length) (c * Gs.cN 0 ps) (c * Gs.cN 1 ps) (c * Gs.cN 2 ps))
  obtain ⟨K2, k2⟩ := fsn_ex (ps.map md).length (stN (ps.map md) (lst (fun k => f k + r) ps.length) (c * Gs.cN 0 ps) (c * Gs.cN 1 ps) (c * Gs.cN 2 ps))
  refine ⟨K0, K1, K2, _, _, _, fun i => heQ ps c f i - f i, fun i => heQ ps c (fun k => f k + r) i - (f i + r), k0, k1, k2, rfl, rfl, rfl, ?_⟩
  rcases st_q hc h (fun k => by omega) k0 with ⟨a1, a2, a3⟩ | ⟨i, hi, ⟨_, a1⟩ | ⟨_, a2, _⟩⟩
  · right
    refine ⟨a1, ⟨_, a2, fun i hi => ?_⟩, ?_, ?_, fun b1 b2 i hi => ?_⟩
    · have := heQ_level hc (c := c) hi
      try dsimp only
      omega
    · rcases st_q hc h (fun k => by have := hf k; omega) k1 with ⟨b1, b2, _⟩ | ⟨i, hi, ⟨b1, _⟩ | ⟨_, _, b1⟩⟩
      · exact .inr ⟨b1, b2⟩
      · rw [(a3 i hi).1] at b1; cases b1
      · exact .inl b1
    · rcases st_q hc h (f := fun k => f k + r) (fun k => by have := hf k; omega) k2 with ⟨b1, b2, _⟩ | ⟨i, hi, ⟨b1, _⟩ | ⟨_, _, b1⟩⟩
      · exact .inr ⟨b1, b2⟩
      · rw [(a3 i hi).1] at b1; cases b1
      · exact .inl b1
    · rcases st_q hc h (fun k => by have := hf k; omega) k1 with ⟨_, _, d1⟩ | ⟨j, _, ⟨_, d1⟩ | ⟨_, _, d1⟩⟩
      · rcases st_q hc h (f := fun k => f k + r) (fun k => by have := hf k; omega) k2 with ⟨_, _, d2⟩ | ⟨j, _, ⟨_, d2⟩ | ⟨_, _, d2⟩⟩
        · have p := heQ_plus hc (c := c) (r := r) (f := f) hi
          have q1 := (d1 i hi).2
          have q2 := (d2 i hi).2
          (try dsimp only at q2 ⊢)
          omega
        · rw [b2] at d2; cases d2
        · rw [b2] at d2; cases d2
      · rw [b1] at d1; cases d1
      · rw [b1] at d1; cases d1
  · exact .inl a1
  · exfalso
    have := heQ_level hc (c := c) hi
    have hw : win (heQ ps c (fun _ => 500) i - 500) 0 4096 = true := (win_iff _ _ _).2 (by omega)
    rw [hw] at a2; cases a2
end Go.Proofs.Ytgjcpgmnflpdkaa
