/- Slices of supports that are only read: which lists they hold. -/
import Derived.Test.YtdehnokcjnbjoaaGreatPt
import Derived.Test.YtdehnokcjnbjoaaGreatStM
namespace Go.Proofs.YtdehnokcjnbjoaaGreat
open Go.RowKit Go.Proofs.Gn
/-- The cells of a support. -/
def SupAt (w : World) (b o : Nat) (s : Gs.Sup) : Prop :=
  w.cell? ⟨b, o, none⟩ = some (.int .i64 s.x) ∧ w.cell? ⟨b, o + 1, none⟩ = some (.int .i64 s.y) ∧ w.cell? ⟨b, o + 2, none⟩ = some (.int .i64 s.g) ∧ w.cell? ⟨b, o + 3, none⟩ = some (.int .i64 s.lim) ∧ w.cell? ⟨b, o + 4, none⟩ = some (.int .i64 s.lo) ∧ w.cell? ⟨b, o + 5, none⟩ = some (.int .i64 s.hi)
theorem supAt_up {w w' : World} {b o : Nat} {s : Gs.Sup} (h : SupAt w b o s) (hu : Up w w') : SupAt w' b o s :=
  ⟨up_cell hu h.1, up_cell hu h.2.1, up_cell hu h.2.2.1, up_cell hu h.2.2.2.1, up_cell hu h.2.2.2.2.1, up_cell hu h.2.2.2.2.2⟩
/-- The slice at A holds these supports. -/
def Sups (w : World) (A : Option Addr) (ps : List Gs.Sup) : Prop :=
  ps = [] ∨ ∃ b off, A = some ⟨b, off, none⟩ ∧ ∀ k (h : k < ps.length), SupAt w b (off + k * 6) ps[k]
theorem sups_up {w w' : World} {A : Option Addr} {ps : List Gs.Sup} (h : Sups w A ps) (hu : Up w w') : Sups w' A ps := by
  rcases h with h | ⟨b, off, hA, hc⟩
  · exact .inl h
  · exact .inr ⟨b, off, hA, fun k hk => supAt_up (hc k hk) hu⟩
theorem st_sups (A : Option Addr) (ps : List Gs.Sup) : Stays fun w => Sups w A ps := fun _ _ hb h => sups_up h hb
abbrev sv (s : Gs.Sup) : Value := .agg #[.int .i64 s.x, .int .i64 s.y, .int .i64 s.g, .int .i64 s.lim, .int .i64 s.lo, .int .i64 s.hi]
end Go.Proofs.YtdehnokcjnbjoaaGreat
