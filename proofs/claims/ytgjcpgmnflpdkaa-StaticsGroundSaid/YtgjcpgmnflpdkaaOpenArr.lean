/- A parameter that is an array of three numbers, opened and shut. -/
import Derived.Test.YtgjcpgmnflpdkaaPt
import Derived.Laws.IdiomArrays
import Derived.OpenShut
import Derived.Lib.SmallJoins
import Derived.ProofKit
namespace Go.Proofs.Ytgjcpgmnflpdkaa
open Go.ChangeShapes Go.WideShapes Go.ChangeAt Go.RowKit Go.Joins
theorem arr3_size {α : Type} (l : Array α) (h : l.size = 3) : ∃ a b c, l = #[a, b, c] := by
  obtain ⟨l⟩ := l
  match l, h with
  | [a, b, c], _ => exact ⟨a, b, c, rfl⟩
theorem arr3_ok {P : Program} {W : World} {r : Reach} {b0 : Nat} {t e : TypeId} {v : Value} (hs : P.underlying t = some (.array 3 e)) (hC : P.cellsOf t = 3) (hv : Value.okWide P W r b0 t v) : ∃ v0 v1 v2, v = .agg #[v0, v1, v2] := by
  obtain ⟨cs, rfl, hsz, _⟩ : ∃ cs, v = .agg cs ∧ cs.size = P.cellsOf t ∧ Row.okWide P W r b0 t cs := by
    simpa [Value.okWide, hs] using hv
  rw [hC] at hsz
  obtain ⟨a, b, c, rfl⟩ := arr3_size cs hsz
  exact ⟨a, b, c, rfl⟩
theorem arr3_open {H : Type} {enc : TypeId × Value → H} {P : Program} {w : World} {base : Nat} {spare : Nat → Bool} {held : Bool} {r : Reach} {b0 : Nat} {t e : TypeId} {v : Value} {d : DataW H} {p : List MemPlace} (hs : P.underlying t = some (.array 3 e)) (hce : P.cellsOf e = 1) (hC : P.cellsOf t = 3)
    (hv : Value.okWide P w r b0 t v) (h : DataW.Trod enc P w base spare held t v d p) :
    ∃ (v0 v1 v2 : Value) (y0 y1 y2 : DataW H × List MemPlace) (n : Nat), v = .agg #[v0, v1, v2] ∧ d = .agg [y0.1, y1.1, y2.1] ∧ p = y0.2 ++ (y1.2 ++ y2.2) ∧
      DataW.trod enc P w base spare held n e [v0] = some y0 ∧ DataW.trod enc P w base spare held n e [v1] = some y1 ∧ DataW.trod enc P w base spare held n e [v2] = some y2 := by
  obtain ⟨a, b, c, rfl⟩ := arr3_ok hs hC hv
  obtain ⟨fuel, hf⟩ := h
  obtain ⟨y0, y1, y2, m, hx, hy0, hy1, hy2⟩ := trod_array3 hs hce hf
  simp only [Prod.mk.injEq] at hx
  exact ⟨a, b, c, y0, y1, y2, m, rfl, hx.1, hx.2, hy0, hy1, hy2⟩
theorem arr3_shut {H : Type} {enc : TypeId × Value → H} {P : Program} {w : World} {base : Nat} {spare : Nat → Bool} {held : Bool} {t e : TypeId} {v0 v1 v2 : Value} {y0 y1 y2 : DataW H × List MemPlace} (hs : P.underlying t = some (.array 3 e)) (hce : P.cellsOf e = 1) (hC : P.cellsOf t = 3)
    (t0 : ∃ n, DataW.trod enc P w base spare held n e [v0] = some y0) (t1 : ∃ n, DataW.trod enc P w base spare held n e [v1] = some y1) (t2 : ∃ n, DataW.trod enc P w base spare held n e [v2] = some y2) :
    DataW.Trod enc P w base spare held t (.agg #[v0, v1, v2]) (.agg [y0.1, y1.1, y2.1]) (y0.2 ++ (y1.2 ++ y2.2)) := by
  obtain ⟨n0, t0⟩ := t0
  obtain ⟨n1, t1⟩ := t1
  obtain ⟨n2, t2⟩ := t2
  have u0 := DataW.trod_le (show n0 ≤ n0 + n1 + n2 by omega) t0
  have u1 := DataW.trod_le (show n1 ≤ n0 + n1 + n2 by omega) t1
  have u2 := DataW.trod_le (show n2 ≤ n0 + n1 + n2 by omega) t2
  refine ⟨n0 + n1 + n2 + 1, ?_⟩
  simp only [Value.cells]
  unfold DataW.trod
  rw [hs]
  have r3 : List.range 3 = [0, 1, 2] := rfl
  simp [r3, hce, hC, u0, u1, u2]
end Go.Proofs.Ytgjcpgmnflpdkaa
