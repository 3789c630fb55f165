/- Two loads on a platform, and both together: numbers. -/
import Derived.Test.YthifcalemhpmoaaGreatTopU
import Derived.Test.YthifcalemhpmoaaGreatPkShares
namespace Go.Proofs.YthifcalemhpmoaaGreat
open Go.RowKit Go.Proofs.Gn
set_option linter.unusedVariables false
/-- A number that changes evenly over the plane. -/
def Aff (f : Int → Int → Int) : Prop := ∃ a b c : Int, ∀ X Y, f X Y = c + a * X + b * Y
theorem aff_pv {f : Int → Int → Int} (h : Aff f) (D : Int) : Aff fun X Y => pv D (f X Y) := by
  obtain ⟨a, b, c, h⟩ := h
  by_cases h1 : D < 0
  · exact ⟨-a, -b, -c, fun X Y => by dsimp only; rw [pv_neg h1, h]; grind⟩
  · by_cases h2 : 0 < D
    · exact ⟨a, b, c, fun X Y => by dsimp only; rw [pv_pos h2, h]⟩
    · exact ⟨0, 0, 0, fun X Y => by dsimp only; unfold pv; rw [if_neg h1, if_neg h2]; omega⟩
theorem aff_0 (ps : List Gs.Sup) : Aff (pa0 ps) := by
  refine aff_pv (f := Gs.q0 ps) ?_ (Gs.wh ps)
  unfold Gs.q0 Gs.dt
  exact ⟨Gs.cY 1 ps * Gs.cN 2 ps - Gs.cN 1 ps * Gs.cY 2 ps, Gs.cN 1 ps * Gs.cX 2 ps - Gs.cX 1 ps * Gs.cN 2 ps, Gs.cX 1 ps * Gs.cY 2 ps - Gs.cY 1 ps * Gs.cX 2 ps, fun X Y => by grind⟩
theorem aff_1 (ps : List Gs.Sup) : Aff (pa1 ps) := by
  refine aff_pv (f := Gs.q1 ps) ?_ (Gs.wh ps)
  unfold Gs.q1 Gs.dt
  exact ⟨Gs.cN 0 ps * Gs.cY 2 ps - Gs.cY 0 ps * Gs.cN 2 ps, Gs.cX 0 ps * Gs.cN 2 ps - Gs.cN 0 ps * Gs.cX 2 ps, Gs.cY 0 ps * Gs.cX 2 ps - Gs.cX 0 ps * Gs.cY 2 ps, fun X Y => by grind⟩
theorem aff_2 (ps : List Gs.Sup) : Aff (pa2 ps) := by
  refine aff_pv (f := Gs.q2 ps) ?_ (Gs.wh ps)
  unfold Gs.q2 Gs.dt
  exact ⟨Gs.cY 0 ps * Gs.cN 1 ps - Gs.cN 0 ps * Gs.cY 1 ps, Gs.cN 0 ps * Gs.cX 1 ps - Gs.cX 0 ps * Gs.cN 1 ps, Gs.cX 0 ps * Gs.cY 1 ps - Gs.cY 0 ps * Gs.cX 1 ps, fun X Y => by grind⟩
theorem sgn (a : Int) : ∃ s : Int, 0 ≤ s ∧ (a = s ∨ a = -s) := ⟨if 0 ≤ a then a else -a, by split <;> omega, by split <;> omega⟩
theorem prod_lo {a s r R : Int} (hs : 0 ≤ s) (ha : a = s ∨ a = -s) (hr : -R ≤ r ∧ r ≤ R) : -(s * R) ≤ a * r := by
  rcases ha with rfl | rfl
  · have := Int.mul_le_mul_of_nonneg_left hr.1 hs
    rw [Int.mul_neg] at this
    exact this
  · have := Int.mul_le_mul_of_nonneg_left hr.2 hs
    rw [Int.neg_mul]
    omega
/-- At all four corners of a square about a point. -/
def Cor (P : Int → Int → Prop) (X Y : Int) : Prop := P (X - 2) (Y - 2) ∧ P (X + 2) (Y - 2) ∧ P (X - 2) (Y + 2) ∧ P (X + 2) (Y + 2)
theorem aff_join {f : Int → Int → Int} (hf : Aff f) {M N X1 Y1 X2 Y2 X3 Y3 rX rY : Int} (hM : 1 ≤ M) (hN : 1 ≤ N) (h1 : Cor (fun X Y => 0 ≤ f X Y) X1 Y1) (h2 : Cor (fun X Y => 0 ≤ f X Y) X2 Y2)
    (hX : 2 * (M + N) * X3 = 2 * M * X1 + 2 * N * X2 + rX) (hY : 2 * (M + N) * Y3 = 2 * M * Y1 + 2 * N * Y2 + rY) (hrX : -(2 * (M + N)) ≤ rX ∧ rX ≤ 2 * (M + N)) (hrY : -(2 * (M + N)) ≤ rY ∧ rY ≤ 2 * (M + N)) : 0 ≤ f X3 Y3 := by
  obtain ⟨a, b, c, h⟩ := hf
  unfold Cor at h1 h2
  simp only [h] at h1 h2 ⊢
  obtain ⟨s, hs, ha⟩ := sgn a
  obtain ⟨t, ht, hb⟩ := sgn b
  have e1 : 2 * s + 2 * t ≤ c + a * X1 + b * Y1 := by
    obtain ⟨c1, c2, c3, c4⟩ := h1
    rw [Int.mul_sub, Int.mul_sub] at c1
    rw [Int.mul_add, Int.mul_sub] at c2
    rw [Int.mul_sub, Int.mul_add] at c3
    rw [Int.mul_add, Int.mul_add] at c4
    rcases ha with rfl | rfl <;> rcases hb with rfl | rfl <;> omega
  have e2 : 2 * s + 2 * t ≤ c + a * X2 + b * Y2 := by
    obtain ⟨c1, c2, c3, c4⟩ := h2
    rw [Int.mul_sub, Int.mul_sub] at c1
    rw [Int.mul_add, Int.mul_sub] at c2
    rw [Int.mul_sub, Int.mul_add] at c3
    rw [Int.mul_add, Int.mul_add] at c4
    rcases ha with rfl | rfl <;> rcases hb with rfl | rfl <;> omega
  have p1 := prod_lo hs ha hrX
  have p2 := prod_lo ht hb hrY
  have m1 := Int.mul_le_mul_of_nonneg_left e1 (show 0 ≤ 2 * M by omega)
  have m2 := Int.mul_le_mul_of_nonneg_left e2 (show 0 ≤ 2 * N by omega)
  have key : 2 * (M + N) * (c + a * X3 + b * Y3) = 2 * M * (c + a * X1 + b * Y1) + 2 * N * (c + a * X2 + b * Y2) + a * rX + b * rY := by
    have q1 : a * (2 * (M + N) * X3) = a * (2 * M * X1 + 2 * N * X2 + rX) := by rw [hX]
    have q2 : b * (2 * (M + N) * Y3) = b * (2 * M * Y1 + 2 * N * Y2 + rY) := by rw [hY]
    grind
  have l1 : 2 * M * (2 * s + 2 * t) + 2 * N * (2 * s + 2 * t) - s * (2 * (M + N)) - t * (2 * (M + N)) = 2 * (M + N) * (s + t) := by grind
  have l2 : 0 ≤ 2 * (M + N) * (s + t) := Int.mul_nonneg (by omega) (by omega)
  have fin : 0 ≤ 2 * (M + N) * (c + a * X3 + b * Y3) := by omega
  apply Decidable.byContradiction
  intro hn
  have : 2 * (M + N) * (c + a * X3 + b * Y3) ≤ 2 * (M + N) * (-1) := Int.mul_le_mul_of_nonneg_left (by omega) (by omega)
  omega
theorem ce_near {n k : Int} (hk : 1 ≤ k ∧ k ≤ 16777216) (h : -(262144 * k) ≤ n ∧ n ≤ 262144 * k) : -k ≤ n - 2 * k * ceV n k ∧ n - 2 * k * ceV n k ≤ k := by
  unfold ceV neV
  have hq : inQ n (2 * k) = true := by
    unfold inQ
    exact decide_eq_true (by omega)
  rw [if_pos hq]
  unfold near
  have a := Int.mul_ediv_add_emod (2 * n + 2 * k) (2 * (2 * k))
  have b := Int.emod_nonneg (2 * n + 2 * k) (show 2 * (2 * k) ≠ 0 by omega)
  have c := Int.emod_lt_of_pos (2 * n + 2 * k) (show 0 < 2 * (2 * k) by omega)
  generalize (2 * n + 2 * k) / (2 * (2 * k)) = q at *
  generalize (2 * n + 2 * k) % (2 * (2 * k)) = r at *
  have e : 2 * (2 * k) * q = 2 * (2 * k * q) := by grind
  rw [e] at a
  generalize 2 * k * q = y at *
  omega
/-- The centre of two together lies between both, but for rounding. -/
theorem ce_join {A B M N : Int} (hM : 1 ≤ M ∧ M ≤ 4194304) (hN : 1 ≤ N ∧ N ≤ 4194304) (hA : -(262144 * M) ≤ A ∧ A ≤ 262144 * M) (hB : -(262144 * N) ≤ B ∧ B ≤ 262144 * N) :
    ∃ r, 2 * (M + N) * ceV (A + B) (M + N) = 2 * M * ceV A M + 2 * N * ceV B N + r ∧ (-(2 * (M + N)) ≤ r ∧ r ≤ 2 * (M + N)) := by
  have a := ce_near (n := A) (k := M) (by omega) hA
  have b := ce_near (n := B) (k := N) (by omega) hB
  have c := ce_near (n := A + B) (k := M + N) (by omega) (by omega)
  exact ⟨2 * (M + N) * ceV (A + B) (M + N) - 2 * M * ceV A M - 2 * N * ceV B N, by omega, by omega, by omega⟩
theorem tiE5 {S : List Gs.Sup} (hC : chE S = 0) {X Y : Int} (h : tiE S X Y = 5) : 0 ≤ pa0 S X Y ∧ 0 ≤ pa1 S X Y ∧ 0 ≤ pa2 S X Y := by
  unfold tiE at h
  split at h
  · split at h
    · cases h
    · rename_i h2
      exact lif_none h2
  · unfold atE at h
    rw [if_pos hC] at h
    unfold ptE at h
    split at h <;> cases h
theorem tiE5_of {S : List Gs.Sup} (hC : chE S = 0) {X Y : Int} (hX : -131072 ≤ X ∧ X ≤ 131072) (hY : -131072 ≤ Y ∧ Y ≤ 131072) (h : 0 ≤ pa0 S X Y ∧ 0 ≤ pa1 S X Y ∧ 0 ≤ pa2 S X Y) : tiE S X Y = 5 := by
  have ha : atE S X Y = 0 := by
    unfold atE
    rw [if_pos hC]
    unfold ptE ptB
    rw [(win_iff X (-262144) 262144).2 (by omega), (win_iff Y (-262144) 262144).2 (by omega)]
    rfl
  unfold tiE
  rw [if_pos ha, if_neg]
  unfold lf lif
  rw [if_neg (by omega), if_neg (by omega), if_neg (by omega)]
  decide
theorem tog {S : List Gs.Sup} (hC : chE S = 0) {a b : List Bxe} (ha : ∀ k (h : k < a.length), okBxe a[k]) (hb : ∀ k (h : k < b.length), okBxe b[k]) (a0 : a ≠ []) (b0 : b ≠ [])
    (h1 : Cor (fun X Y => tiE S X Y = 5) (ceV (mo fX (cgL a)) (mas (cgL a))) (ceV (mo fY (cgL a)) (mas (cgL a)))) (h2 : Cor (fun X Y => tiE S X Y = 5) (ceV (mo fX (cgL b)) (mas (cgL b))) (ceV (mo fY (cgL b)) (mas (cgL b)))) :
    tiE S (ceV (mo fX (cgL a ++ cgL b)) (mas (cgL a ++ cgL b))) (ceV (mo fY (cgL a ++ cgL b)) (mas (cgL a ++ cgL b))) = 5 := by
  rw [mo_append, mo_append, mas_append]
  have m1 := cgL_mas ha
  have m2 := cgL_mas hb
  have n1 := cgL_len a
  have n2 := cgL_len b
  have n1' := n1.2 a0
  have n2' := n2.2 b0
  have xA := mo_mas fX_bm (cgL_ok ha)
  have xB := mo_mas fX_bm (cgL_ok hb)
  have yA := mo_mas fY_bm (cgL_ok ha)
  have yB := mo_mas fY_bm (cgL_ok hb)
  generalize mas (cgL a) = M at *
  generalize mas (cgL b) = N at *
  generalize mo fX (cgL a) = A1 at *
  generalize mo fX (cgL b) = A2 at *
  generalize mo fY (cgL a) = B1 at *
  generalize mo fY (cgL b) = B2 at *
  obtain ⟨rX, hX, qX⟩ := ce_join (A := A1) (B := A2) (M := M) (N := N) (by omega) (by omega) xA xB
  obtain ⟨rY, hY, qY⟩ := ce_join (A := B1) (B := B2) (M := M) (N := N) (by omega) (by omega) yA yB
  have bX := ce_bd (n := A1 + A2) (M := M + N) (by omega) (by omega)
  have bY := ce_bd (n := B1 + B2) (M := M + N) (by omega) (by omega)
  obtain ⟨c1, c2, c3, c4⟩ := h1
  obtain ⟨d1, d2, d3, d4⟩ := h2
  have c1 := tiE5 hC c1
  have c2 := tiE5 hC c2
  have c3 := tiE5 hC c3
  have c4 := tiE5 hC c4
  have d1 := tiE5 hC d1
  have d2 := tiE5 hC d2
  have d3 := tiE5 hC d3
  have d4 := tiE5 hC d4
  exact tiE5_of hC bX bY ⟨aff_join (aff_0 S) (by omega) (by omega) ⟨c1.1, c2.1, c3.1, c4.1⟩ ⟨d1.1, d2.1, d3.1, d4.1⟩ hX hY qX qY, aff_join (aff_1 S) (by omega) (by omega) ⟨c1.2.1, c2.2.1, c3.2.1, c4.2.1⟩ ⟨d1.2.1, d2.2.1, d3.2.1, d4.2.1⟩ hX hY qX qY, aff_join (aff_2 S) (by omega) (by omega) ⟨c1.2.2, c2.2.2, c3.2.2, c4.2.2⟩ ⟨d1.2.2, d2.2.2, d3.2.2, d4.2.2⟩ hX hY qX qY⟩
theorem p_massG (L : List Pce) (P : Option Addr) (cp : Nat) (w : World) (h : Pcs w P L) (hn : L.length ≤ 100) (hE : loE cgN L [] 300 = 0) :
    Calls Tryz.prog 10 #[loV cgN P L.length cp none 0 0 300] w fun e w' => e = .returned (.tuple #[.int .i64 (mas L), .int .i64 0]) ∧ Up w w' := by
  have q := p_MassL cgN P L cp none [] 0 300 w h (.inl rfl) (by omega) (by simp)
  unfold loM at q
  rw [hE, if_pos rfl] at q
  exact q
theorem p_centreG (L : List Pce) (P : Option Addr) (cp : Nat) (w : World) (h : Pcs w P L) (hn : L.length ≤ 100) (hE : loE cgN L [] 300 = 0) :
    Calls Tryz.prog 6 #[loV cgN P L.length cp none 0 0 300] w fun e w' => e = .returned (.tuple #[.agg #[.int .i64 (ceV (mo fX L) (mas L)), .int .i64 (ceV (mo fY L) (mas L)), .int .i64 (ceV (mo fZ L) (mas L))], .int .i64 0]) ∧ Up w w' := by
  have q := p_CentreL cgN P L cp none [] 0 300 w h (.inl rfl) (by omega) (by simp)
  unfold loC at q
  simp only [hE, if_true] at q
  exact q
theorem cg_loJ {a b : List Bxe} (ha : ∀ k (h : k < a.length), okBxe a[k]) (hb : ∀ k (h : k < b.length), okBxe b[k]) (a0 : a ≠ []) (b0 : b ≠ []) : loE cgN (cgL a ++ cgL b) [] 300 = 0 := by
  have m1 := cgL_mas ha
  have m2 := cgL_mas hb
  have n1 := cgL_len a
  have n2 := cgL_len b
  have n1' := n1.2 a0
  have n2' := n2.2 b0
  have ok : okPs (cgL a ++ cgL b) = true := by
    have o1 := cgL_ok ha
    have o2 := cgL_ok hb
    unfold okPs at o1 o2 ⊢
    rw [List.all_append, o1, o2]
    rfl
  have hm := mas_append (cgL a) (cgL b)
  have hl : (cgL a ++ cgL b).length = (cgL a).length + (cgL b).length := List.length_append
  unfold loE
  rw [if_pos ⟨by omega, by omega, by simp⟩, if_pos ⟨nm_cgN, by decide, by rw [ok]; rfl, (win_iff _ _ _).2 (by omega)⟩]
theorem ceG_bd {a : List Bxe} (ha : ∀ k (h : k < a.length), okBxe a[k]) (a0 : a ≠ []) : (-131072 ≤ ceV (mo fX (cgL a)) (mas (cgL a)) ∧ ceV (mo fX (cgL a)) (mas (cgL a)) ≤ 131072) ∧ (-131072 ≤ ceV (mo fY (cgL a)) (mas (cgL a)) ∧ ceV (mo fY (cgL a)) (mas (cgL a)) ≤ 131072) := by
  have m1 := cgL_mas ha
  have n1 := cgL_len a
  have n1' := n1.2 a0
  exact ⟨ce_bd (by omega) (mo_mas fX_bm (cgL_ok ha)), ce_bd (by omega) (mo_mas fY_bm (cgL_ok ha))⟩
end Go.Proofs.YthifcalemhpmoaaGreat
