/- A region of open order whose operations and callees write new memory at most, up to its last operation, which may write: walked once. -/
import Derived.Test.YtdehnokcjnbjoaaGreatLate
import Derived.Test.YtdehnokcjnbjoaaGreatBx
namespace Go.Proofs.YtdehnokcjnbjoaaGreat
open Go.RowKit Go.Proofs.Gn
theorem wpQuiet_imp {P : Program} {ops : Array Oper} {C : World → Prop} {Q Q' : Act → Prop} (hq : ∀ b, Q b → Q' b) : ∀ (l : List Oper) (a : Act), wpQuiet P ops C Q l a → wpQuiet P ops C Q' l a
  | [], a, h => hq a h
  | o :: l, a, h => by
    unfold wpQuiet at h ⊢
    split
    · rename_i hw
      rw [if_pos hw] at h
      obtain ⟨v, h1, h2⟩ := h
      exact ⟨v, h1, wpQuiet_imp hq l _ h2⟩
    · rename_i hw
      rw [if_neg hw] at h
      exact wpQuiet_imp hq l _ h
theorem wp_late {P : Program} {id : Nat} {Q : Exit → Act → World → Prop} {a : Act} {w : World} {ops l : List Oper} {oL : Oper} (L : Nat) (hm : P.follows .mixedOrders = true) (hB : Hin.lateB .any ops.toArray L = true) (hl : ops.take L = l) (hL : ops[L]? = some oL)
    (h : wpQuiet P ops.toArray (fun w' => ∃ p : UpW w, w' = p.v) (fun b => Region.wanted oL (yielded ops.toArray b.tmps) = true ∧ ∀ p : UpW w, oL.wpIn Fence.wide 0 P b p.v (fun c u => Q .normal c u) Q) l a) : (Code.region id ops.toArray true).wp P Q a w := by
  refine wpIn_wide.1 (Hin.wpIn_region_late (F := Fence.wide) (n := 0) (S := fun w' => ∃ p : UpW w, w' = p.v) L Hin.open_wide hm hB hl hL ⟨⟨_, up_drew (up_refl _)⟩, rfl⟩ ?_)
  refine wpQuiet_imp ?_ l a h
  rintro b ⟨h1, h2⟩
  exact ⟨h1, fun w' ⟨p, e⟩ => by subst e; exact h2 p⟩
theorem bqf {w : World} {b i : Nat} {v : Value} {vs : List Value} (h : Bx w b vs) (hv : vs[i]? = some v) : ∀ p : UpW w, p.v.frozen? ⟨b, i, none⟩ = false := fun p => (bx_up h p.up i _ hv).2
end Go.Proofs.YtdehnokcjnbjoaaGreat
