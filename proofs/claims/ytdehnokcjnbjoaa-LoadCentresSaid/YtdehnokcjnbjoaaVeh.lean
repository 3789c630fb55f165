/- Units and axles of vehicles: how they lie in memory, and which ones are valid. -/
import Derived.Test.YtdehnokcjnbjoaaName
import Derived.Test.YtdehnokcjnbjoaaPlat
import Derived.Test.YtdehnokcjnbjoaaUpQ
import Derived.Deep.Cut
import Derived.Deep.DeepCutAuto
namespace Go.Proofs.Ytdehnokcjnbjoaa
open Go.RowKit Go.Proofs.Gn
structure Axl where
  x : Int
  lim : Int
  wh : Int
structure Unt where
  kd : Int
  le : Int
  be : Int
  fr : Int
  re : Int
  wi : Int
  he : Int
  ma : Int
  st : Int
  mo : Int
  A : Option Addr
  xs : List Axl
  cap : Nat
instance : Inhabited Axl := ⟨⟨0, 0, 0⟩⟩
instance : Inhabited Unt := ⟨⟨0, 0, 0, 0, 0, 0, 0, 0, 0, 0, none, [], 0⟩⟩
/-- The cells of an axle. -/
def AxlAt (w : World) (b o : Nat) (a : Axl) : Prop := w.cell? ⟨b, o, none⟩ = some (.int .i64 a.x) ∧ w.cell? ⟨b, o + 1, none⟩ = some (.int .i64 a.lim) ∧ w.cell? ⟨b, o + 2, none⟩ = some (.int .i64 a.wh)
theorem axlAt_up {w w' : World} {b o : Nat} {a : Axl} (h : AxlAt w b o a) (hu : Up w w') : AxlAt w' b o a := ⟨up_cell hu h.1, up_cell hu h.2.1, up_cell hu h.2.2⟩
def Axls (w : World) (A : Option Addr) (xs : List Axl) : Prop := xs = [] ∨ ∃ b off, A = some ⟨b, off, none⟩ ∧ ∀ k (h : k < xs.length), AxlAt w b (off + k * 3) xs[k]
theorem axls_up {w w' : World} {A : Option Addr} {xs : List Axl} (h : Axls w A xs) (hu : Up w w') : Axls w' A xs := by
  rcases h with h | ⟨b, off, hA, hc⟩
  · exact .inl h
  · exact .inr ⟨b, off, hA, fun k hk => axlAt_up (hc k hk) hu⟩
/-- The cells of a unit. -/
def UntAt (w : World) (b o : Nat) (u : Unt) : Prop :=
  w.cell? ⟨b, o, none⟩ = some (.int .i64 u.kd) ∧ w.cell? ⟨b, o + 1, none⟩ = some (.int .i64 u.le) ∧ w.cell? ⟨b, o + 2, none⟩ = some (.int .i64 u.be) ∧ w.cell? ⟨b, o + 3, none⟩ = some (.int .i64 u.fr) ∧ w.cell? ⟨b, o + 4, none⟩ = some (.int .i64 u.re) ∧ w.cell? ⟨b, o + 5, none⟩ = some (.int .i64 u.wi) ∧ w.cell? ⟨b, o + 6, none⟩ = some (.int .i64 u.he) ∧ w.cell? ⟨b, o + 7, none⟩ = some (.int .i64 u.ma) ∧ w.cell? ⟨b, o + 8, none⟩ = some (.int .i64 u.st) ∧ w.cell? ⟨b, o + 9, none⟩ = some (.int .i64 u.mo) ∧ w.cell? ⟨b, o + 10, none⟩ = some (.slice u.A u.xs.length u.cap) ∧ Axls w u.A u.xs ∧ u.xs.length ≤ 9223372036854775807
theorem untAt_up {w w' : World} {b o : Nat} {u : Unt} (h : UntAt w b o u) (hu : Up w w') : UntAt w' b o u := by
  obtain ⟨h0, h1, h2, h3, h4, h5, h6, h7, h8, h9, h10, h11, h12⟩ := h
  exact ⟨up_cell hu h0, up_cell hu h1, up_cell hu h2, up_cell hu h3, up_cell hu h4, up_cell hu h5, up_cell hu h6, up_cell hu h7, up_cell hu h8, up_cell hu h9, up_cell hu h10, axls_up h11 hu, h12⟩
def Unts (w : World) (A : Option Addr) (us : List Unt) : Prop := us = [] ∨ ∃ b off, A = some ⟨b, off, none⟩ ∧ ∀ k (h : k < us.length), UntAt w b (off + k * 11) us[k]
theorem unts_up {w w' : World} {A : Option Addr} {us : List Unt} (h : Unts w A us) (hu : Up w w') : Unts w' A us := by
  rcases h with h | ⟨b, off, hA, hc⟩
  · exact .inl h
  · exact .inr ⟨b, off, hA, fun k hk => untAt_up (hc k hk) hu⟩
abbrev uV (kd le be fr re wi he ma st mo : Int) (A : Option Addr) (n cap : Nat) : Value := .agg #[.int .i64 kd, .int .i64 le, .int .i64 be, .int .i64 fr, .int .i64 re, .int .i64 wi, .int .i64 he, .int .i64 ma, .int .i64 st, .int .i64 mo, .slice A n cap]
abbrev uL (kd le be fr re wi he ma st mo : Int) (A : Option Addr) (n cap : Nat) : List Value := [.int .i64 kd, .int .i64 le, .int .i64 be, .int .i64 fr, .int .i64 re, .int .i64 wi, .int .i64 he, .int .i64 ma, .int .i64 st, .int .i64 mo, .slice A n cap]
abbrev veV (s : ByteArray) (A : Option Addr) (n cap : Nat) (f t : Int) : Value := .agg #[.string s, .slice A n cap, .int .i64 f, .int .i64 t]
/-! ### Which ones are valid -/
def szU (kd le be fr re wi he ma st mo : Int) : Bool := win kd 0 3 && (win le 100 131072 && (win be (-le) 131072 && (win fr 0 131072 && (win re 0 131072 && (win wi 0 131072 && (win he 0 131072 && (win ma 1 1048576 && (win st 0 900 && win mo 0 40))))))))
def axG (L : Int) : Int → List Axl → Bool
  | _, [] => true
  | p, a :: l => (win a.x p L && (win a.lim 1 1048576 && win a.wh 1 16)) && axG L a.x l
def axU (le re : Int) (xs : List Axl) : Bool := axG (le + re) 0 xs && decide (0 < xs.length)
def okU (u : Unt) : Bool := szU u.kd u.le u.be u.fr u.re u.wi u.he u.ma u.st u.mo && axU u.le u.re u.xs
theorem axG_step {L p : Int} {xs : List Axl} {k : Nat} (h : k < xs.length) : axG L p (xs.drop k) = ((win xs[k].x p L && (win xs[k].lim 1 1048576 && win xs[k].wh 1 16)) && axG L xs[k].x (xs.drop (k + 1))) := by
  rw [List.drop_eq_getElem_cons h]; rfl
theorem all_step {α : Type} {f : α → Bool} {l : List α} {k : Nat} (h : k < l.length) : (l.drop k).all f = (f l[k] && (l.drop (k + 1)).all f) := by
  rw [List.drop_eq_getElem_cons h]; rfl
theorem any_step {α : Type} {f : α → Bool} {l : List α} {k : Nat} (h : k < l.length) : (l.drop k).any f = (f l[k] || (l.drop (k + 1)).any f) := by
  rw [List.drop_eq_getElem_cons h]; rfl
theorem szU_bd {kd le be fr re wi he ma st mo : Int} (h : szU kd le be fr re wi he ma st mo = true) : (0 ≤ kd ∧ kd ≤ 3) ∧ (100 ≤ le ∧ le ≤ 131072) ∧ (-le ≤ be ∧ be ≤ 131072) ∧ (0 ≤ fr ∧ fr ≤ 131072) ∧ (0 ≤ re ∧ re ≤ 131072) ∧ (0 ≤ wi ∧ wi ≤ 131072) ∧ (0 ≤ he ∧ he ≤ 131072) ∧ (1 ≤ ma ∧ ma ≤ 1048576) ∧ (0 ≤ st ∧ st ≤ 900) ∧ 0 ≤ mo ∧ mo ≤ 40 := by
  unfold szU at h
  simp only [Bool.and_eq_true, win_iff] at h
  exact h
end Go.Proofs.Ytdehnokcjnbjoaa
