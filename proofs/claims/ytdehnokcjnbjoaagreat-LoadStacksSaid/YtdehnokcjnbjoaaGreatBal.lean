/- Whether the centre of pieces is above a base: mathematics. -/
import Derived.Test.YtdehnokcjnbjoaaGreatHpd
import Derived.Test.YtdehnokcjnbjoaaGreatPkMom
namespace Go.Proofs.YtdehnokcjnbjoaaGreat
open Go.RowKit Go.Proofs.Gn
attribute [local go_sem] Oper.semAt_some
set_option linter.unusedVariables false
/-- The side k of a base, and the centre. -/
def blS (h : Pl) (X Y S : Int) (k : Nat) : Int := ((h.getD ((k + 1) % h.length) (0, 0)).1 - (h.getD k (0, 0)).1) * (Y - S * (h.getD k (0, 0)).2) - ((h.getD ((k + 1) % h.length) (0, 0)).2 - (h.getD k (0, 0)).2) * (X - S * (h.getD k (0, 0)).1)
def blB (h : Pl) (X Y S : Int) : Bool := (List.range h.length).all fun k => decide (0 ≤ blS h X Y S k)
theorem mo_mas (f : Pce → Int) {ps : List Pce} (hf : ∀ p, okP p = true → -(262144 * p.m) ≤ f p ∧ f p ≤ 262144 * p.m) (h : okPs ps = true) : -(262144 * mas ps) ≤ mo f ps ∧ mo f ps ≤ 262144 * mas ps := by
  induction ps with
  | nil => exact ⟨by simp [mas, mo], by simp [mas, mo]⟩
  | cons p ps ih =>
    unfold okPs at h
    rw [List.all_cons, Bool.and_eq_true] at h
    have a := hf p h.1
    have b := ih h.2
    show -(262144 * (p.m + mas ps)) ≤ f p + mo f ps ∧ f p + mo f ps ≤ 262144 * (p.m + mas ps)
    omega
theorem ms_bd {m s : Int} (hm : 0 ≤ m) (hs : -262144 ≤ s ∧ s ≤ 262144) : -(262144 * m) ≤ m * s ∧ m * s ≤ 262144 * m := by
  have a := Int.mul_le_mul_of_nonneg_left hs.1 hm
  have b := Int.mul_le_mul_of_nonneg_left hs.2 hm
  omega
theorem fX_mas (p : Pce) (h : okP p = true) : -(262144 * p.m) ≤ fX p ∧ fX p ≤ 262144 * p.m := by
  have q := (okP_iff p).1 h
  unfold okPp at q
  exact ms_bd (by omega) (by omega)
theorem fY_mas (p : Pce) (h : okP p = true) : -(262144 * p.m) ≤ fY p ∧ fY p ≤ 262144 * p.m := by
  have q := (okP_iff p).1 h
  unfold okPp at q
  exact ms_bd (by omega) (by omega)
/-- All products are small. -/
theorem bl_small {S X Y a1 a2 b1 b2 : Int} (hS : 0 ≤ S ∧ S ≤ 33554432) (hX : -4398046511104 ≤ X ∧ X ≤ 4398046511104) (hY : -4398046511104 ≤ Y ∧ Y ≤ 4398046511104) (ha : Nr 131072 (a1, a2)) (hb : Nr 131072 (b1, b2)) :
    ((-4398046511104 ≤ S * a1 ∧ S * a1 ≤ 4398046511104) ∧ (-4398046511104 ≤ S * a2 ∧ S * a2 ≤ 4398046511104)) ∧
    (-2305843009213693952 ≤ (b1 - a1) * (Y - S * a2) ∧ (b1 - a1) * (Y - S * a2) ≤ 2305843009213693952) ∧ (-2305843009213693952 ≤ (b2 - a2) * (X - S * a1) ∧ (b2 - a2) * (X - S * a1) ≤ 2305843009213693952) := by
  unfold Nr at ha hb
  dsimp only at ha hb
  have mb : ∀ {x y A B : Int}, 0 ≤ A → 0 ≤ B → -A ≤ x → x ≤ A → -B ≤ y → y ≤ B → -(A * B) ≤ x * y ∧ x * y ≤ A * B := fun {x y A B} hA hB h1 h2 h3 h4 => by
    have p1 : 0 ≤ (A - x) * (B - y) := Int.mul_nonneg (by omega) (by omega)
    have p2 : 0 ≤ (A + x) * (B + y) := Int.mul_nonneg (by omega) (by omega)
    have p3 : 0 ≤ (A - x) * (B + y) := Int.mul_nonneg (by omega) (by omega)
    have p4 : 0 ≤ (A + x) * (B - y) := Int.mul_nonneg (by omega) (by omega)
    constructor <;> grind
  have s1 := mb (x := S) (y := a1) (A := 33554432) (B := 131072) (by omega) (by omega) (by omega) (by omega) (by omega) (by omega)
  have s2 := mb (x := S) (y := a2) (A := 33554432) (B := 131072) (by omega) (by omega) (by omega) (by omega) (by omega) (by omega)
  have q1 := mb (x := b1 - a1) (y := Y - S * a2) (A := 262144) (B := 8796093022208) (by omega) (by omega) (by omega) (by omega) (by omega) (by omega)
  have q2 := mb (x := b2 - a2) (y := X - S * a1) (A := 262144) (B := 8796093022208) (by omega) (by omega) (by omega) (by omega) (by omega) (by omega)
  exact ⟨⟨⟨by omega, by omega⟩, ⟨by omega, by omega⟩⟩, ⟨by omega, by omega⟩, ⟨by omega, by omega⟩⟩
end Go.Proofs.YtdehnokcjnbjoaaGreat
