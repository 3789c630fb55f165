/- Slices of points that are only read: which lists they hold, and what the program's looks at them return. -/
import Derived.Test.YtdehnokcjnbjoaaPt
namespace Go.Proofs.Ytdehnokcjnbjoaa
open Go.RowKit Go.Proofs.Gn
abbrev Pl := List (Int × Int)
/-- The slice at A holds these points. -/
def Pts (w : World) (A : Option Addr) (ps : Pl) : Prop :=
  ps = [] ∨ ∃ b off, A = some ⟨b, off, none⟩ ∧ ∀ k (h : k < ps.length), w.cell? ⟨b, off + k * 2, none⟩ = some (.int .i64 ps[k].1) ∧ w.cell? ⟨b, off + k * 2 + 1, none⟩ = some (.int .i64 ps[k].2)
theorem pts_up {w w' : World} {A : Option Addr} {ps : Pl} (h : Pts w A ps) (hu : Up w w') : Pts w' A ps := by
  rcases h with h | ⟨b, off, hA, hc⟩
  · exact .inl h
  · exact .inr ⟨b, off, hA, fun k hk => ⟨up_cell hu (hc k hk).1, up_cell hu (hc k hk).2⟩⟩
theorem pts_drew {w : World} {A : Option Addr} {ps : Pl} (h : Pts w A ps) : Pts w.drew A ps := h
theorem st_pts (A : Option Addr) (ps : Pl) : Stays fun w => Pts w A ps := fun _ _ hb h => pts_up h hb
theorem pts_one {w : World} {b off : Nat} {x y : Int} (h0 : w.cell? ⟨b, off, none⟩ = some (.int .i64 x)) (h1 : w.cell? ⟨b, off + 1, none⟩ = some (.int .i64 y)) : Pts w (some ⟨b, off, none⟩) [(x, y)] :=
  .inr ⟨b, off, rfl, fun k hk => by
    obtain rfl : k = 0 := by simp at hk; omega
    exact ⟨h0, h1⟩⟩
theorem pts_two {w : World} {b off : Nat} {x y u v : Int} (h0 : w.cell? ⟨b, off, none⟩ = some (.int .i64 x)) (h1 : w.cell? ⟨b, off + 1, none⟩ = some (.int .i64 y)) (h2 : w.cell? ⟨b, off + 2, none⟩ = some (.int .i64 u)) (h3 : w.cell? ⟨b, off + 3, none⟩ = some (.int .i64 v)) : Pts w (some ⟨b, off, none⟩) [(x, y), (u, v)] :=
  .inr ⟨b, off, rfl, fun k hk => by
    match k, hk with
    | 0, _ => exact ⟨h0, h1⟩
    | 1, _ => exact ⟨h2, h3⟩⟩
theorem pts_three {w : World} {b off : Nat} {x y u v s t : Int} (h0 : w.cell? ⟨b, off, none⟩ = some (.int .i64 x)) (h1 : w.cell? ⟨b, off + 1, none⟩ = some (.int .i64 y)) (h2 : w.cell? ⟨b, off + 2, none⟩ = some (.int .i64 u)) (h3 : w.cell? ⟨b, off + 3, none⟩ = some (.int .i64 v)) (h4 : w.cell? ⟨b, off + 4, none⟩ = some (.int .i64 s)) (h5 : w.cell? ⟨b, off + 5, none⟩ = some (.int .i64 t)) : Pts w (some ⟨b, off, none⟩) [(x, y), (u, v), (s, t)] :=
  .inr ⟨b, off, rfl, fun k hk => by
    match k, hk with
    | 0, _ => exact ⟨h0, h1⟩
    | 1, _ => exact ⟨h2, h3⟩
    | 2, _ => exact ⟨h4, h5⟩⟩
/-- Are all points valid? -/
def okL (ps : Pl) : Bool := ps.all fun p => okp p.1 p.2
def chkL (ps : Pl) : Int := if okL ps then 0 else 2
theorem okL_take_succ {ps : Pl} {k : Nat} (h : k < ps.length) : okL (ps.take (k + 1)) = (okL (ps.take k) && okp ps[k].1 ps[k].2) := by
  unfold okL
  rw [List.take_succ_eq_append_getElem h, List.all_append]
  simp
theorem okL_at {ps : Pl} {k : Nat} (h : k < ps.length) (hk : okp ps[k].1 ps[k].2 = false) : okL ps = false := by
  unfold okL
  rw [List.all_eq_false]
  exact ⟨ps[k], List.getElem_mem h, by simp [hk]⟩
/-! ### Turns and distances -/
theorem okL_two {a b c d : Int} : okL [(a, b), (c, d)] = (okp a b && okp c d) := by simp [okL]
theorem okL_three {a b c d e f : Int} : okL [(a, b), (c, d), (e, f)] = (okp a b && (okp c d && okp e f)) := by simp [okL]
def tuV (ax ay bx b_y cx cy : Int) : Int := if okp ax ay && (okp bx b_y && okp cx cy) then cmpV (det ax ay bx b_y cx cy) 0 else 0
def tuE (ax ay bx b_y cx cy : Int) : Int := if okp ax ay && (okp bx b_y && okp cx cy) then 0 else 2
/-- The square of a distance. -/
def sqd (ax ay bx b_y : Int) : Int := (bx - ax) * (bx - ax) + (b_y - ay) * (b_y - ay)
theorem sqd_nonneg (ax ay bx b_y : Int) : 0 ≤ sqd ax ay bx b_y := by
  unfold sqd
  have := sq_nonneg (bx - ax)
  have := sq_nonneg (b_y - ay)
  omega
def diV (ax ay bx b_y : Int) : Int := if okp ax ay && okp bx b_y then root (sqd ax ay bx b_y) else 0
def diE (ax ay bx b_y : Int) : Int := if okp ax ay && okp bx b_y then 0 else 2
end Go.Proofs.Ytdehnokcjnbjoaa
