/- The links of a vehicle, as the program yields them. -/
import Derived.Test.YthifcalemhpmoaaGreatPkChR
import Derived.Test.YthifcalemhpmoaaGreatPkDivM
import Derived.Test.YthifcalemhpmoaaGreatPkKp
namespace Go.Proofs.YthifcalemhpmoaaGreat
open Go.RowKit Go.Proofs.Gn
attribute [local go_sem] Oper.semAt_some
set_option linter.unusedVariables false
/-- A link: its number, its unit, and its two points. -/
structure Lk where
  k : Nat
  u : Unt
  jx : Int
  jy : Int
  ax : Int
  ay : Int
abbrev linkV (x : Lk) : Value := lkA x.u.kd x.u.le x.u.be x.u.fr x.u.re x.u.wi x.u.he x.u.ma x.u.st x.u.mo x.u.A x.u.xs.length x.u.cap x.jx x.jy x.ax x.ay
/-- The links from a joint on: they end where a rear joint cannot be found. -/
def lkS : Nat → List Unt → Int → Int → Pl → List Lk
  | k, u :: us, jx, jy, a :: qs => ⟨k, u, jx, jy, a.1, a.2⟩ :: (if (rrR u.le u.st u.be jx jy a.1 a.2).2 = 0 then lkS (k + 1) us (rrR u.le u.st u.be jx jy a.1 a.2).1.1 (rrR u.le u.st u.be jx jy a.1 a.2).1.2 qs else [])
  | _, _, _, _, _ => []
theorem lkS_drop {us : List Unt} {qs : Pl} {k : Nat} (h : k < us.length) (g : k < qs.length) (jx jy : Int) :
    lkS k (us.drop k) jx jy (qs.drop k) = ⟨k, us[k], jx, jy, qs[k].1, qs[k].2⟩ :: (if (rrR us[k].le us[k].st us[k].be jx jy qs[k].1 qs[k].2).2 = 0 then lkS (k + 1) (us.drop (k + 1)) (rrR us[k].le us[k].st us[k].be jx jy qs[k].1 qs[k].2).1.1 (rrR us[k].le us[k].st us[k].be jx jy qs[k].1 qs[k].2).1.2 (qs.drop (k + 1)) else []) := by
  rw [List.drop_eq_getElem_cons h, List.drop_eq_getElem_cons g]
  rfl
/-- The cells of a unit. -/
def UntC (w : World) (b o : Nat) (u : Unt) : Prop :=
  w.cell? ⟨b, o, none⟩ = some (.int .i64 u.kd) ∧ w.cell? ⟨b, o + 1, none⟩ = some (.int .i64 u.le) ∧ w.cell? ⟨b, o + 2, none⟩ = some (.int .i64 u.be) ∧ w.cell? ⟨b, o + 3, none⟩ = some (.int .i64 u.fr) ∧ w.cell? ⟨b, o + 4, none⟩ = some (.int .i64 u.re) ∧ w.cell? ⟨b, o + 5, none⟩ = some (.int .i64 u.wi) ∧ w.cell? ⟨b, o + 6, none⟩ = some (.int .i64 u.he) ∧ w.cell? ⟨b, o + 7, none⟩ = some (.int .i64 u.ma) ∧ w.cell? ⟨b, o + 8, none⟩ = some (.int .i64 u.st) ∧ w.cell? ⟨b, o + 9, none⟩ = some (.int .i64 u.mo) ∧ w.cell? ⟨b, o + 10, none⟩ = some (.slice u.A u.xs.length u.cap)
/-- Cells that are kept, but for those of some blocks. -/
def KC (p : Nat → Prop) (W V : World) : Prop := W.heap.size ≤ V.heap.size ∧ ∀ a v, ¬ p a.block → W.cell? a = some v → V.cell? a = some v
theorem KC.refl (p : Nat → Prop) (W : World) : KC p W W := ⟨Nat.le_refl _, fun _ _ _ h => h⟩
theorem KC.below {p : Nat → Prop} {W V V' : World} (h : KC p W V) (b : Below W.heap.size V V') : KC p W V' :=
  ⟨Nat.le_trans h.1 b.size, fun a v ha hv => (b.cell (World.block_lt_of_cell? _ _ hv)).trans (h.2 a v ha hv)⟩
theorem KC.kp {p : Nat → Prop} {W V V' : World} (h : KC p W V) (k : KpP p V V') : KC p W V' :=
  ⟨Nat.le_trans h.1 k.1, fun a v ha hv => kpP_cell k ha (h.2 a v ha hv)⟩
/-- Where a placed vehicle lies. -/
structure LkW (Bc : Nat) (Au : Option Addr) (us : List Unt) (cu : Nat) (lx ly : Int) (Aa : Option Addr) (qs : Pl) (ca : Nat) (V : World) : Prop where
  u : V.cell? ⟨Bc, 1, none⟩ = some (.slice Au us.length cu)
  x : V.cell? ⟨Bc, 4, none⟩ = some (.int .i64 lx)
  y : V.cell? ⟨Bc, 5, none⟩ = some (.int .i64 ly)
  a : V.cell? ⟨Bc, 6, none⟩ = some (.slice Aa qs.length ca)
  us : us = [] ∨ ∃ b off, Au = some ⟨b, off, none⟩ ∧ ∀ k (h : k < us.length), UntC V b (off + k * 11) us[k]
  qs : Pts V Aa qs
/-- None of the blocks of p is one that is read. -/
structure LkN (p : Nat → Prop) (Bc : Nat) (Au Aa : Option Addr) : Prop where
  c : ¬ p Bc
  u : ∀ b off, Au = some ⟨b, off, none⟩ → ¬ p b
  a : ∀ b off, Aa = some ⟨b, off, none⟩ → ¬ p b
theorem LkW.kept {p : Nat → Prop} {Bc : Nat} {Au : Option Addr} {us : List Unt} {cu : Nat} {lx ly : Int} {Aa : Option Addr} {qs : Pl} {ca : Nat} {W V : World} (h : LkW Bc Au us cu lx ly Aa qs ca W) (hN : LkN p Bc Au Aa) (k : KC p W V) : LkW Bc Au us cu lx ly Aa qs ca V := by
  refine ⟨k.2 _ _ hN.c h.u, k.2 _ _ hN.c h.x, k.2 _ _ hN.c h.y, k.2 _ _ hN.c h.a, ?_, ?_⟩
  · rcases h.us with h0 | ⟨b, off, e, hc⟩
    · exact .inl h0
    · have hb := hN.u b off e
      refine .inr ⟨b, off, e, fun i hi => ?_⟩
      obtain ⟨h0, h1, h2, h3, h4, h5, h6, h7, h8, h9, h10⟩ := hc i hi
      exact ⟨k.2 _ _ hb h0, k.2 _ _ hb h1, k.2 _ _ hb h2, k.2 _ _ hb h3, k.2 _ _ hb h4, k.2 _ _ hb h5, k.2 _ _ hb h6, k.2 _ _ hb h7, k.2 _ _ hb h8, k.2 _ _ hb h9, k.2 _ _ hb h10⟩
  · rcases h.qs with h0 | ⟨b, off, e, hc⟩
    · exact .inl h0
    · have hb := hN.a b off e
      exact .inr ⟨b, off, e, fun i hi => ⟨k.2 _ _ hb (hc i hi).1, k.2 _ _ hb (hc i hi).2⟩⟩
end Go.Proofs.YthifcalemhpmoaaGreat
