/- A region of open order whose operations and callees write new memory at most: walked once. -/
import Derived.BigQuiet
import Derived.Test.YtdehnokcjnbjoaaGreatSl
namespace Go.Proofs.YtdehnokcjnbjoaaGreat
open Go.RowKit Go.Proofs.Gn
/-- A world in which only new memory has been written. -/
structure UpW (w : World) where
  v : World
  up : Up w v
instance (w : World) : Inhabited (UpW w) := ⟨⟨w, up_refl w⟩⟩
theorem upq {P : Program} {f : FuncId} {args : Array Value} {w : World} {p : UpW w} {v : Value} (h : Calls P f args p.v fun e w' => e = .returned v ∧ Up p.v w') : Calls P f args p.v fun e w'' => e = .returned v ∧ ∃ q : UpW w, w'' = q.v :=
  h.mono fun _ w' ⟨he, hu⟩ => ⟨he, ⟨w', up_trans p.up hu⟩, rfl⟩
theorem wp_upq {P : Program} {id : Nat} {Q : Exit → Act → World → Prop} {a : Act} {w : World} {l : List Oper} (hm : P.follows .mixedOrders = true) (hB : Region.lexB .any l.toArray = true)
    (h : wpQuiet P l.toArray (fun w' => ∃ p : UpW w, w' = p.v) (fun a' => ∀ w', (∃ p : UpW w, w' = p.v) → Q .normal a' w') l a) : (Code.region id l.toArray true).wp P Q a w :=
  wp_region_quiet (C := fun w' => ∃ p : UpW w, w' = p.v) hm hB ⟨⟨_, up_drew (up_refl _)⟩, rfl⟩ (by simpa using h)
end Go.Proofs.YtdehnokcjnbjoaaGreat
