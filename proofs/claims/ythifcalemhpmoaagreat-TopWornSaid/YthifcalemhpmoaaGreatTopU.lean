/- A load of boxes on a platform: numbers. -/
import Derived.Test.YthifcalemhpmoaaGreatTopM
import Derived.Test.YthifcalemhpmoaaGreatPkStands
import Derived.Test.YthifcalemhpmoaaGreatPkFeetB
import Derived.Test.YthifcalemhpmoaaGreatPkPlatf
namespace Go.Proofs.YthifcalemhpmoaaGreat
open Go.RowKit Go.Proofs.Gn
set_option linter.unusedVariables false
theorem ce_bd {n M : Int} (hM : 1 ≤ M ∧ M ≤ 16777216) (h : -(262144 * M) ≤ n ∧ n ≤ 262144 * M) : -131072 ≤ ceV n M ∧ ceV n M ≤ 131072 := by
  unfold ceV neV
  split
  · unfold near
    constructor
    · exact Int.le_ediv_of_mul_le (by omega) (by omega)
    · have : (2 * n + 2 * M) / (2 * (2 * M)) < 131073 := Int.ediv_lt_of_lt_mul (by omega) (by omega)
      omega
  · omega
theorem mid_bd {m t : Int} (hm : 0 ≤ m) (ht : -262144 ≤ t ∧ t ≤ 262144) : -(262144 * m) ≤ m * t ∧ m * t ≤ 262144 * m := by
  have a := Int.mul_le_mul_of_nonneg_left ht.1 hm
  have b := Int.mul_le_mul_of_nonneg_left ht.2 hm
  omega
theorem fX_bm (p : Pce) (h : okP p = true) : -(262144 * p.m) ≤ fX p ∧ fX p ≤ 262144 * p.m := by
  rw [okP_iff] at h
  unfold okPp at h
  exact mid_bd (by omega) (by omega)
theorem fY_bm (p : Pce) (h : okP p = true) : -(262144 * p.m) ≤ fY p ∧ fY p ≤ 262144 * p.m := by
  rw [okP_iff] at h
  unfold okPp at h
  exact mid_bd (by omega) (by omega)
theorem fZ_bm (p : Pce) (h : okP p = true) : -(262144 * p.m) ≤ fZ p ∧ fZ p ≤ 262144 * p.m := by
  rw [okP_iff] at h
  unfold okPp at h
  exact mid_bd (by omega) (by omega)
theorem mo_mas {f : Pce → Int} (hf : ∀ p, okP p = true → -(262144 * p.m) ≤ f p ∧ f p ≤ 262144 * p.m) {ps : List Pce} (h : okPs ps = true) : -(262144 * mas ps) ≤ mo f ps ∧ mo f ps ≤ 262144 * mas ps := by
  induction ps with
  | nil => simp [mo, mas]
  | cons p ps ih =>
    unfold okPs at h ih
    rw [List.all_cons, Bool.and_eq_true] at h
    have a := hf p h.1
    have b := ih h.2
    simp only [mo, mas]
    omega
def upK (f : Pce → Int) (bs : List Bxe) : Int := loC cgN (cgL bs) [] 300 f
def upR (S : List Gs.Sup) (bs : List Bxe) (g : List Gs.Sup → Int → Int → Int) : Int := sdV S cgN (cgL bs) [] 300 0 0 0 0 g
def upG (S : List Gs.Sup) (bs : List Bxe) : Int := sdE S cgN (cgL bs) [] 300 0 0 0 0
theorem upK_bd {f : Pce → Int} (hf : ∀ p, okP p = true → -(262144 * p.m) ≤ f p ∧ f p ≤ 262144 * p.m) {bs : List Bxe} (hb : ∀ k (h : k < bs.length), okBxe bs[k]) (h0 : bs ≠ []) : -131072 ≤ upK f bs ∧ upK f bs ≤ 131072 := by
  unfold upK loC
  rw [if_pos (cg_lo0 hb h0)]
  have h1 := cgL_len bs
  have h2 := cgL_mas hb
  have h3 := h1.2 h0
  exact ce_bd (by omega) (mo_mas hf (cgL_ok hb))
theorem up_G1 {S : List Gs.Sup} {bs : List Bxe} (h : ¬ chE S = 0) : upG S bs = chE S := by
  unfold upG sdE stE
  rw [if_neg h]
theorem up_G2 {S : List Gs.Sup} (h : chE S = 0) : upG S [] = 6 := by
  unfold upG sdE stE
  rw [if_pos h, cg_lo6, if_neg (by decide)]
theorem ft_zero (c h : Int) : ft c h 0 0 = c := by
  unfold ft
  rw [Int.add_zero, Int.mul_zero]
  have : neV 0 1000 = 0 := by decide +kernel
  omega
theorem up_ln {bs : List Bxe} (hb : ∀ k (h : k < bs.length), okBxe bs[k]) (h0 : bs ≠ []) : lnB (upK fX bs) (upK fY bs) (upK fZ bs) 0 0 0 0 = true := by
  have a := upK_bd fX_bm hb h0
  have b := upK_bd fY_bm hb h0
  have c := upK_bd fZ_bm hb h0
  unfold lnB ceB slB
  rw [(win_iff _ _ _).2 a, (win_iff _ _ _).2 b, (win_iff _ _ _).2 c]
  decide
theorem up_G3 {S : List Gs.Sup} {bs : List Bxe} (hb : ∀ k (h : k < bs.length), okBxe bs[k]) (h0 : bs ≠ []) (h : chE S = 0) :
    upG S bs = shE S (mas (cgL bs)) (upK fX bs) (upK fY bs) ∧ ∀ g, upR S bs g = shV S (mas (cgL bs)) (upK fX bs) (upK fY bs) (up (mas (cgL bs)) (paD S) (g S (upK fX bs) (upK fY bs))) := by
  have hl := up_ln hb h0
  have hM : loM cgN (cgL bs) [] 300 = mas (cgL bs) := by unfold loM; rw [if_pos (cg_lo0 hb h0)]
  have hx : sdX cgN (cgL bs) [] 300 0 0 0 0 = upK fX bs := by
    unfold sdX foV
    show (if lnB (upK fX bs) (upK fY bs) (upK fZ bs) 0 0 0 0 = true then _ else _) = _
    rw [if_pos hl, ft_zero]
    rfl
  have hy : sdY cgN (cgL bs) [] 300 0 0 0 0 = upK fY bs := by
    unfold sdY foV
    show (if lnB (upK fX bs) (upK fY bs) (upK fZ bs) 0 0 0 0 = true then _ else _) = _
    rw [if_pos hl, ft_zero]
    rfl
  have hL : sdL cgN (cgL bs) [] 300 0 0 0 0 = 0 := by
    unfold sdL lnE
    show (if lnB (upK fX bs) (upK fY bs) (upK fZ bs) 0 0 0 0 = true then _ else _) = _
    rw [if_pos hl]
  refine ⟨?_, fun g => ?_⟩
  · unfold upG sdE stE
    rw [if_pos h, if_pos (cg_lo0 hb h0), hL, if_pos rfl, hM, hx, hy]
  · unfold upR sdV stV
    rw [if_pos h, if_pos (cg_lo0 hb h0), hL, if_pos rfl, hM, hx, hy]
/-- What supports carry, together. -/
def psS (u0 u1 u2 : Int) (ps : List Gs.Sup) : Int := (ps.map fun s => sel s.g u0 u1 u2).sum
theorem psS_take {u0 u1 u2 : Int} {ps : List Gs.Sup} {k : Nat} (h : k < ps.length) : psS u0 u1 u2 (ps.take (k + 1)) = psS u0 u1 u2 (ps.take k) + sel ps[k].g u0 u1 u2 := by
  unfold psS
  rw [List.take_succ_eq_append_getElem h, List.map_append, List.sum_append]
  simp
theorem sel_bd {g u0 u1 u2 m : Int} (h0 : 0 ≤ u0 ∧ u0 ≤ m) (h1 : 0 ≤ u1 ∧ u1 ≤ m) (h2 : 0 ≤ u2 ∧ u2 ≤ m) : 0 ≤ sel g u0 u1 u2 ∧ sel g u0 u1 u2 ≤ m := by
  unfold sel
  split
  · exact h0
  · split
    · exact h1
    · exact h2
theorem psS_bd {u0 u1 u2 m : Int} (h0 : 0 ≤ u0 ∧ u0 ≤ m) (h1 : 0 ≤ u1 ∧ u1 ≤ m) (h2 : 0 ≤ u2 ∧ u2 ≤ m) (ps : List Gs.Sup) : 0 ≤ psS u0 u1 u2 ps ∧ psS u0 u1 u2 ps ≤ m * ps.length := by
  induction ps with
  | nil => simp [psS]
  | cons p ps ih =>
    have a := sel_bd (g := p.g) h0 h1 h2
    unfold psS at ih ⊢
    simp only [List.map_cons, List.sum_cons, List.length_cons]
    rw [show ((ps.length + 1 : Nat) : Int) = (ps.length : Int) + 1 by omega, Int.mul_add, Int.mul_one]
    omega
theorem psS_cN {u0 u1 u2 : Int} {ps : List Gs.Sup} (h : Gs.okA ps = true) : psS u0 u1 u2 ps = u0 * Gs.cN 0 ps + u1 * Gs.cN 1 ps + u2 * Gs.cN 2 ps := by
  induction ps with
  | nil => simp [psS, Gs.cN]
  | cons p ps ih =>
    unfold Gs.okA at h ih
    rw [List.all_cons, Bool.and_eq_true] at h
    have a := ih h.2
    have b := h.1
    unfold Gs.okS at b
    simp only [decide_eq_true_eq] at b
    obtain ⟨_, _, ⟨g1, g2⟩, _⟩ := b
    unfold psS at a ⊢
    simp only [List.map_cons, List.sum_cons, Gs.cN]
    rw [a]
    unfold sel
    have hg : p.g = 0 ∨ p.g = 1 ∨ p.g = 2 := by omega
    rcases hg with e | e | e <;> simp [e, Int.mul_add] <;> omega
theorem pfL_len (ls : List Lgg) : (pfL ls).length ≤ 12 := by
  unfold pfL
  rw [List.length_map, List.length_take]
  omega
theorem p_standsC (A : Option Addr) (S : List Gs.Sup) (cap : Nat) (P : Option Addr) (bs : List Bxe) (cp : Nat) (hl : S.length ≤ 12) (w : World) (hS : Sups w A S) (hP : Pcs w P (cgL bs)) :
    Calls Tryz.prog 9 #[.slice A S.length cap, loV cgN P (cgL bs).length cp none 0 0 300, pt 0 0, pt 0 0] w fun e w' => e = .returned (.tuple #[.agg #[.int .i64 (upR S bs pa0), .int .i64 (upR S bs pa1), .int .i64 (upR S bs pa2)], .int .i64 (upG S bs)]) ∧ Up w w' :=
  p_Stands A S cap cgN P (cgL bs) cp none [] 0 300 0 0 0 0 w hS hP (.inl rfl) (by omega) (by have := cgL_len bs; omega) (by simp)
theorem p_centreC (bs : List Bxe) (P : Option Addr) (cp : Nat) (w : World) (h : Pcs w P (cgL bs)) :
    Calls Tryz.prog 6 #[loV cgN P (cgL bs).length cp none 0 0 300] w fun e w' => e = .returned (.tuple #[.agg #[.int .i64 (upK fX bs), .int .i64 (upK fY bs), .int .i64 (upK fZ bs)], .int .i64 (loE cgN (cgL bs) [] 300)]) ∧ Up w w' :=
  p_CentreL cgN P (cgL bs) cp none [] 0 300 w h (.inl rfl) (by have := cgL_len bs; omega) (by simp)
end Go.Proofs.YthifcalemhpmoaaGreat
