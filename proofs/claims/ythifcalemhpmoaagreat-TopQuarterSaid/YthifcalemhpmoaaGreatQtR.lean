/- Two rows of supports that grow side by side. -/
import Derived.Test.YthifcalemhpmoaaGreatQtM
import Derived.Test.YthifcalemhpmoaaGreatPkChR
import Derived.Maps.AppendAt
namespace Go.Proofs.YthifcalemhpmoaaGreat
open Go.RowKit Go.Proofs.Gn
set_option linter.unusedVariables false
def ApQ (a b : Value) : Prop := ∀ g, a.ownBlock = some g → b.ownBlock = some g → False
theorem apQ_nil (b : Value) : ApQ (.slice none 0 0) b := fun g h => by simp [Value.ownBlock] at h
theorem apQ_symm {a b : Value} (h : ApQ a b) : ApQ b a := fun g x y => h g y x
structure TwQ (w0 : World) (k : Nat) (m : Nat) (p q : List Gs.Sup) (a b : Value) (W : World) : Prop where
  o1 : W.ownsRow w0.heap.size 39 6 a k (cellsSp p)
  o2 : W.ownsRow w0.heap.size 39 6 b m (cellsSp q)
  ap : ApQ a b
  up : Up w0 W
theorem TwQ.swap {w0 : World} {k m : Nat} {p q : List Gs.Sup} {a b : Value} {W : World} (h : TwQ w0 k m p q a b W) : TwQ w0 m k q p b a W := ⟨h.o2, h.o1, apQ_symm h.ap, h.up⟩
theorem own_upQ {W W' : World} {base e size n : Nat} {v : Value} {xs : List Value} (h : W.ownsRow base e size v n xs) (hu : Up W W') : W'.ownsRow base e size v n xs := own_up h hu
theorem TwQ.ups {w0 : World} {k m : Nat} {p q : List Gs.Sup} {a b : Value} {W W' : World} (h : TwQ w0 k m p q a b W) (hu : Up W W') : TwQ w0 k m p q a b W' := ⟨own_upQ h.o1 hu, own_upQ h.o2 hu, h.ap, up_trans h.up hu⟩
theorem TwQ.app {w0 : World} {k m : Nat} {p q p' : List Gs.Sup} {a a' b : Value} {W W' : World} (h : TwQ w0 k m p q a b W) (ho : W'.ownsRow w0.heap.size 39 6 a' (k + 1) (cellsSp p')) (hg : W.grownBy W' a.ownBlock) (hat : a'.ownBlock = a.ownBlock ∨ a'.ownBlock = some W.heap.size) : TwQ w0 (k + 1) m p' q a' b W' := by
  refine ⟨ho, h.o2.kept hg ?_, ?_, h.up.grown hg h.up.size fun j hj => (h.o1.lt j hj).1⟩
  · cases e : b.ownBlock with
    | none => exact .inl rfl
    | some g => exact .inr fun e' => h.ap g e'.symm e
  · intro g x y
    rcases hat with e | e
    · exact h.ap g (by rw [← e]; exact x) y
    · rw [e] at x
      injection x with x
      have := (h.o2.lt g y).2
      omega
/-- A store into a block that is neither row's. -/
theorem TwQ.set {w0 : World} {k m : Nat} {p q : List Gs.Sup} {a b : Value} {W : World} (h : TwQ w0 k m p q a b W) {z : Addr} (h0 : w0.heap.size ≤ z.block) (ha : a.ownBlock ≠ some z.block) (hb : b.ownBlock ≠ some z.block) (u : Value) : TwQ w0 k m p q a b (W.setCell z u) :=
  ⟨ownsRow_setCell_other h.o1 ha u, ownsRow_setCell_other h.o2 hb u, h.ap, up_set h.up h0 u⟩
end Go.Proofs.YthifcalemhpmoaaGreat
