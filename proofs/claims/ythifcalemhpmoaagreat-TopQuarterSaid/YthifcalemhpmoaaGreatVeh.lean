/- Units and axles of vehicles: how they lie in memory, and which ones are valid. -/
import Derived.Test.YthifcalemhpmoaaGreatName
import Derived.Test.YthifcalemhpmoaaGreatPlat
import Derived.Test.YthifcalemhpmoaaGreatUpQ
import Derived.Deep.Cut
import Derived.Deep.DeepCutAuto
namespace Go.Proofs.YthifcalemhpmoaaGreat
open Go.RowKit Go.Proofs.Gn
structure Axl where
  x : Int
  lim : Int
  wh : Int
structure Unt where
  kd : Int
  le : Int
  be : Int
  fr : Int
  re : Int
  wi : Int
  he : Int
  ma : Int
  st : Int
  mo : Int
  A : Option Addr
  xs : List Axl
  cap : Nat
instance : Inhabited Axl := ⟨⟨0, 0, 0⟩⟩
instance : Inhabited Unt := ⟨⟨0, 0, 0, 0, 0, 0, 0, 0, 0, 0, none, [], 0⟩⟩
/-- The cells of an axle. -/
def AxlAt (w : World) (b o : Nat) (a : Axl) : Prop := w.cell? ⟨b, o, none⟩ = some (.int .i64 a.x) ∧ w.cell? ⟨b, o + 1, none⟩ = some (.int .i64 a.lim) ∧ w.cell? ⟨b, o + 2, none⟩ = some (.int .i64 a.wh)
theorem axlAt_up {w w' : World} {b o : Nat} {a : Axl} (h : AxlAt w b o a) (hu : Up w w') : AxlAt w' b o a := ⟨up_cell hu h.1, up_cell hu h.2.1, up_cell hu h.2.2⟩
def Axls (w : World) (A : Option Addr) (xs : List Axl) : Prop := xs = [] ∨ ∃ b off, A = some ⟨b, off, none⟩ ∧ ∀ k (h : k < xs.length), AxlAt w b (off + k * 3) xs[k]
theorem axls_up {w w' : World} {A : Option Addr} {xs : List Axl} (h : Axls w A xs) (hu : Up w w') : Axls w' A xs := by
  rcases h with h | ⟨b, off, hA, hc⟩
  · exact .inl h
  · exact .inr ⟨b, off, hA, fun k hk => axlAt_up (hc k hk) hu⟩
/-- The cells of a unit. -/
def UntAt (w : World) (b o : Nat) (u : Unt) : Prop :=
  w.cell? ⟨b, o, none⟩ = some (.int .i64 u.kd) ∧ w.cell? ⟨b, o + 1, none⟩ = some (.int .i64 u.le) ∧ w.cell? ⟨b, o + 2, none⟩ = some (.int .i64 u.be) ∧ w.cell? ⟨b, o + 3, none⟩ = some (.int .i64 u.fr) ∧ w.cell? ⟨b, o + 4, none⟩ = some (.int .i64 u.re) ∧ w.cell? ⟨b, o + 5, none⟩ = some (.int .i64 u.wi) ∧ w.cell? ⟨b, o + 6, none⟩ = some (.int .i64 u.he) ∧ w.cell? ⟨b, o + 7, none⟩ = some (.int .i64 u.ma) ∧ w.cell? ⟨b, o + 8, none⟩ = some (.int .i64 u.st) ∧ w.cell? ⟨b, o + 9, none⟩ = some (.int .i64 u.mo) ∧ w.cell? ⟨b, o + 10, none⟩ = some (.slice u.A u.xs.length u.cap) ∧ Axls w u.A u.xs ∧ u.xs.length ≤ 9223372036854775807
theorem untAt_up {w w' : World} {b o : Nat} {u : Unt} (h : UntAt w b o u) (hu : Up w w') : UntAt w' b o u := by
  obtain ⟨h0, h1, h2, h3, h4, h5, h6, h7, h8, h9, h10, h11, h12⟩ := h
  exact ⟨up_cell hu h0, up_cell hu h1, up_cell hu h2, up_cell hu h3, up_cell hu h4, up_cell hu h5, up_cell hu h6, up_cell hu h7, up_cell hu h8, up_cell hu h9, up_cell hu h10, axls_up h11 hu, h12⟩
def Unts (w : World) (A : Option Addr) (us : List Unt) : Prop := us = [] ∨ ∃ b off, A = some ⟨b, off, none⟩ ∧ ∀ k (h : k < us.length), UntAt w b (off + k * 11) us[k]
theorem unts_up {w w' : World} {A : Option Addr} {us : List Unt} (h : Unts w A us) (hu : Up w w') : Unts w' A us := by
  rcases h with h | ⟨b, off, hA, hc⟩
  · exact .inl h
  · exact .inr ⟨b, off, hA, fun k hk => untAt_up (hc k hk) hu⟩
abbrev uV (kd le be fr re wi he ma st mo : Int) (A : Option Addr) (n cap : Nat) : Value := .agg #[.int .i64 kd, .int .i64 le, .int .i64 be, .int .i64 fr, .int .i64 re, .int .i64 wi, .int .i64 he, .int .i64 ma, .int .i64 st, .int .i64 mo, .slice A n cap]
abbrev uL (kd le be fr re wi he ma st mo : Int) (A : Option Addr) (n cap : Nat) : List Value := [.int .i64 kd, .int .i64 le, .int .i64 be, .int .i64 fr, .int .i64 re, .int .i64 wi, .int .i64 he, .int .i64 ma, .int .i64 st, .int .i64 mo, .slice A n cap]
abbrev veV (s : ByteArray) (A : Option Addr) (n cap : Nat) (f t : Int) : Value := .agg #[.string s, .slice A n cap, .int .i64 f, .int .i64 t]
/-! ### Which ones are valid -/
def szU (kd le be fr re wi he ma st mo : Int) : Bool := win kd 0 3 && (win le 100 131072 && (win be (-le) 131072 && (win fr 0 131072 && (win re 0 131072 && (win wi 0 131072 && (win he 0 131072 && (win ma 1 1048576 && (win st 0 900 && win mo 0 40))))))))
def axG (L : Int) : Int → List Axl → Bool
  | _, [] => true
  | p, a :: l => (win a.x p L && (win a.lim 1 1048576 && win a.wh 1 16)) && axG L a.x l
def axU (le re : Int) (xs : List Axl) : Bool := axG (le + re) 0 xs && decide (0 < xs.length)
def okU (u : Unt) : Bool := szU u.kd u.le u.be u.fr u.re u.wi u.he u.ma u.st u.mo && axU u.le u.re u.xs
theorem axG_step {L p : Int} {xs : List Axl} {k : Nat} (h : k < xs.length) : axG L p (xs.drop k) = ((win xs[k].x p L && (win xs[k].lim 1 1048576 && win xs[k].wh 1 16)) && axG L xs[k].x (xs.drop (k + 1))) := by
  rw [List.drop_eq_getElem_cons h]; rfl
theorem all_step {α : Type} {f : α → Bool} {l : List α} {k : Nat} (h : k < l.length) : (l.drop k).all f = (f l[k] && (l.drop (k + 1)).all f) := by
  rw [List.drop_eq_getElem_cons h]; rfl
theorem any_step {α : Type} {f : α → Bool} {l : List α} {k : Nat} (h : k < l.length) : (l.drop k).any f = (f l[k] || (l.drop (k + 1)).any f) := by
  rw [List.drop_eq_getElem_cons h]; rfl
theorem szU_bd {kd le be fr re wi he ma st mo : Int} (h : szU kd le be fr re wi he ma st mo = true) : (0 ≤ kd ∧ kd ≤ 3) ∧ (100 ≤ le ∧ le ≤ 131072) ∧ (-le ≤ be ∧ be ≤ 131072) ∧ (0 ≤ fr ∧ fr ≤ 131072) ∧ (0 ≤ re ∧ re ≤ 131072) ∧ (0 ≤ wi ∧ wi ≤ 131072) ∧ (0 ≤ he ∧ he ≤ 131072) ∧ (1 ≤ ma ∧ ma ≤ 1048576) ∧ (0 ≤ st ∧ st ≤ 900) ∧ 0 ≤ mo ∧ mo ≤ 40 := by
  unfold szU at h
  simp only [Bool.and_eq_true, win_iff] at h
  exact h
theorem p_inC (n a b : Int) (w : World) :
    Calls Tryz.prog 79 #[.int .i64 n, .int .i64 a, .int .i64 b] w fun e w' => e = .returned (.bool (win n a b)) ∧ w = w' := by
  unfold win
  go_enter Tryz.func79, Tryz.ntmps79
  go_wp2
  · go_ret
    have h : a ≤ n := by assumption
    exact ⟨ret_bool (by simp [h]), rfl⟩
  · go_ret
    exact ⟨ret_bool (by simp; omega), rfl⟩
theorem p_inD (n a b : Int) (w : World) :
    Calls Tryz.prog 130 #[.int .i64 n, .int .i64 a, .int .i64 b] w fun e w' => e = .returned (.bool (win n a b)) ∧ w = w' := by
  unfold win
  go_enter Tryz.func130, Tryz.ntmps130
  go_wp2
  · go_ret
    have h : a ≤ n := by assumption
    exact ⟨ret_bool (by simp [h]), rfl⟩
  · go_ret
    exact ⟨ret_bool (by simp; omega), rfl⟩
set_option maxRecDepth 100000 in
set_option maxHeartbeats 8000000 in
theorem p_areSizes (kd le be fr re wi he ma st mo : Int) (A : Option Addr) (n cap : Nat) (w : World) :
    Calls Tryz.prog 109 #[uV kd le be fr re wi he ma st mo A n cap] w fun e w' => e = .returned (.bool (szU kd le be fr re wi he ma st mo)) ∧ Up w w' := by
  unfold szU
  have h1 := hide (fun W => p_inC kd 0 3 W)
  have h2 := hide (fun W => p_inD le 100 131072 W)
  have h4 := hide (fun W => p_inD fr 0 131072 W)
  have h5 := hide (fun W => p_inD re 0 131072 W)
  have h6 := hide (fun W => p_inD wi 0 131072 W)
  have h7 := hide (fun W => p_inD he 0 131072 W)
  have h8 := hide (fun W => p_inD ma 1 1048576 W)
  have h9 := hide (fun W => p_inD st 0 900 W)
  have h10 := hide (fun W => p_inC mo 0 40 W)
  have h3 := hide (fun W => p_inD be (-le) 131072 W)
  have HL := hide (fun h : win le 100 131072 = true => (win_iff le 100 131072).1 h)
  generalize win kd 0 3 = b1 at *
  generalize win le 100 131072 = b2 at *
  generalize win be (-le) 131072 = b3 at *
  generalize win fr 0 131072 = b4 at *
  generalize win re 0 131072 = b5 at *
  generalize win wi 0 131072 = b6 at *
  generalize win he 0 131072 = b7 at *
  generalize win ma 1 1048576 = b8 at *
  generalize win st 0 900 = b9 at *
  generalize win mo 0 40 = b10 at *
  cases b1
  · go_enter Tryz.func109, Tryz.ntmps109
    go_wp2_with (first | (go_at_call 79; (with_reducible refine (unhide h1 _).mono ?_); rintro e w1 ⟨rfl, rfl⟩))
    go_ret
    exact ⟨rfl, (by repeat' (first | (with_reducible exact up_refl _) | (with_reducible assumption) | (with_reducible refine up_alloc ?_ _) | (with_reducible refine up_drewN ?_ _) | (with_reducible refine up_drew ?_) | (with_reducible refine up_set ?_ (by first | (simp; done) | (simp; omega) | omega) _) | (refine up_trans ?_ (by with_reducible assumption))))⟩
  cases b2
  · go_enter Tryz.func109, Tryz.ntmps109
    go_wp2_with (first | (go_at_call 79; (with_reducible refine (unhide h1 _).mono ?_); rintro e w1 ⟨rfl, rfl⟩) | (go_at_call 130; (with_reducible refine (unhide h2 _).mono ?_); rintro e w2 ⟨rfl, rfl⟩))
    go_ret
    exact ⟨rfl, (by repeat' (first | (with_reducible exact up_refl _) | (with_reducible assumption) | (with_reducible refine up_alloc ?_ _) | (with_reducible refine up_drewN ?_ _) | (with_reducible refine up_drew ?_) | (with_reducible refine up_set ?_ (by first | (simp; done) | (simp; omega) | omega) _) | (refine up_trans ?_ (by with_reducible assumption))))⟩
  have hl := unhide HL rfl
  have hneg : IntKind.i64.wrap (-le) = -le := IntWalk.i64_in _ ⟨by omega, by omega⟩
  cases b3
  · go_enter Tryz.func109, Tryz.ntmps109
    go_wp2_with (first | (go_at_call 79; (with_reducible refine (unhide h1 _).mono ?_); rintro e w1 ⟨rfl, rfl⟩) | (go_at_call 130; (with_reducible refine (unhide h2 _).mono ?_); rintro e w2 ⟨rfl, rfl⟩) | (go_at_call 130; (with_reducible refine (unhide h3 _).mono ?_); rintro e w3 ⟨rfl, rfl⟩))
    go_ret
    exact ⟨rfl, (by repeat' (first | (with_reducible exact up_refl _) | (with_reducible assumption) | (with_reducible refine up_alloc ?_ _) | (with_reducible refine up_drewN ?_ _) | (with_reducible refine up_drew ?_) | (with_reducible refine up_set ?_ (by first | (simp; done) | (simp; omega) | omega) _) | (refine up_trans ?_ (by with_reducible assumption))))⟩
  cases b4
  · go_enter Tryz.func109, Tryz.ntmps109
    go_wp2_with (first | (go_at_call 79; (with_reducible refine (unhide h1 _).mono ?_); rintro e w1 ⟨rfl, rfl⟩) | (go_at_call 130; (with_reducible refine (unhide h2 _).mono ?_); rintro e w2 ⟨rfl, rfl⟩) | (go_at_call 130; (with_reducible refine (unhide h3 _).mono ?_); rintro e w3 ⟨rfl, rfl⟩) | (go_at_call 130; (with_reducible refine (unhide h4 _).mono ?_); rintro e w4 ⟨rfl, rfl⟩))
    go_ret
    exact ⟨rfl, (by repeat' (first | (with_reducible exact up_refl _) | (with_reducible assumption) | (with_reducible refine up_alloc ?_ _) | (with_reducible refine up_drewN ?_ _) | (with_reducible refine up_drew ?_) | (with_reducible refine up_set ?_ (by first | (simp; done) | (simp; omega) | omega) _) | (refine up_trans ?_ (by with_reducible assumption))))⟩
  cases b5
  · go_enter Tryz.func109, Tryz.ntmps109
    go_wp2_with (first | (go_at_call 79; (with_reducible refine (unhide h1 _).mono ?_); rintro e w1 ⟨rfl, rfl⟩) | (go_at_call 130; (with_reducible refine (unhide h2 _).mono ?_); rintro e w2 ⟨rfl, rfl⟩) | (go_at_call 130; (with_reducible refine (unhide h3 _).mono ?_); rintro e w3 ⟨rfl, rfl⟩) | (go_at_call 130; (with_reducible refine (unhide h4 _).mono ?_); rintro e w4 ⟨rfl, rfl⟩) | (go_at_call 130; (with_reducible refine (unhide h5 _).mono ?_); rintro e w5 ⟨rfl, rfl⟩))
    go_ret
    exact ⟨rfl, (by repeat' (first | (with_reducible exact up_refl _) | (with_reducible assumption) | (with_reducible refine up_alloc ?_ _) | (with_reducible refine up_drewN ?_ _) | (with_reducible refine up_drew ?_) | (with_reducible refine up_set ?_ (by first | (simp; done) | (simp; omega) | omega) _) | (refine up_trans ?_ (by with_reducible assumption))))⟩
  cases b6
  · go_enter Tryz.func109, Tryz.ntmps109
    go_wp2_with (first | (go_at_call 79; (with_reducible refine (unhide h1 _).mono ?_); rintro e w1 ⟨rfl, rfl⟩) | (go_at_call 130; (with_reducible refine (unhide h2 _).mono ?_); rintro e w2 ⟨rfl, rfl⟩) | (go_at_call 130; (with_reducible refine (unhide h3 _).mono ?_); rintro e w3 ⟨rfl, rfl⟩) | (go_at_call 130; (with_reducible refine (unhide h4 _).mono ?_); rintro e w4 ⟨rfl, rfl⟩) | (go_at_call 130; (with_reducible refine (unhide h5 _).mono ?_); rintro e w5 ⟨rfl, rfl⟩) | (go_at_call 130; (with_reducible refine (unhide h6 _).mono ?_); rintro e w6 ⟨rfl, rfl⟩))
    go_ret
    exact ⟨rfl, (by repeat' (first | (with_reducible exact up_refl _) | (with_reducible assumption) | (with_reducible refine up_alloc ?_ _) | (with_reducible refine up_drewN ?_ _) | (with_reducible refine up_drew ?_) | (with_reducible refine up_set ?_ (by first | (simp; done) | (simp; omega) | omega) _) | (refine up_trans ?_ (by with_reducible assumption))))⟩
  cases b7
  · go_enter Tryz.func109, Tryz.ntmps109
    go_wp2_with (first | (go_at_call 79; (with_reducible refine (unhide h1 _).mono ?_); rintro e w1 ⟨rfl, rfl⟩) | (go_at_call 130; (with_reducible refine (unhide h2 _).mono ?_); rintro e w2 ⟨rfl, rfl⟩) | (go_at_call 130; (with_reducible refine (unhide h3 _).mono ?_); rintro e w3 ⟨rfl, rfl⟩) | (go_at_call 130; (with_reducible refine (unhide h4 _).mono ?_); rintro e w4 ⟨rfl, rfl⟩) | (go_at_call 130; (with_reducible refine (unhide h5 _).mono ?_); rintro e w5 ⟨rfl, rfl⟩) | (go_at_call 130; (with_reducible refine (unhide h6 _).mono ?_); rintro e w6 ⟨rfl, rfl⟩) | (go_at_call 130; (with_reducible refine (unhide h7 _).mono ?_); rintro e w7 ⟨rfl, rfl⟩))
    go_ret
    exact ⟨rfl, (by repeat' (first | (with_reducible exact up_refl _) | (with_reducible assumption) | (with_reducible refine up_alloc ?_ _) | (with_reducible refine up_drewN ?_ _) | (with_reducible refine up_drew ?_) | (with_reducible refine up_set ?_ (by first | (simp; done) | (simp; omega) | omega) _) | (refine up_trans ?_ (by with_reducible assumption))))⟩
  cases b8
  · go_enter Tryz.func109, Tryz.ntmps109
    go_wp2_with (first | (go_at_call 79; (with_reducible refine (unhide h1 _).mono ?_); rintro e w1 ⟨rfl, rfl⟩) | (go_at_call 130; (with_reducible refine (unhide h2 _).mono ?_); rintro e w2 ⟨rfl, rfl⟩) | (go_at_call 130; (with_reducible refine (unhide h3 _).mono ?_); rintro e w3 ⟨rfl, rfl⟩) | (go_at_call 130; (with_reducible refine (unhide h4 _).mono ?_); rintro e w4 ⟨rfl, rfl⟩) | (go_at_call 130; (with_reducible refine (unhide h5 _).mono ?_); rintro e w5 ⟨rfl, rfl⟩) | (go_at_call 130; (with_reducible refine (unhide h6 _).mono ?_); rintro e w6 ⟨rfl, rfl⟩) | (go_at_call 130; (with_reducible refine (unhide h7 _).mono ?_); rintro e w7 ⟨rfl, rfl⟩) | (go_at_call 130; (with_reducible refine (unhide h8 _).mono ?_); rintro e w8 ⟨rfl, rfl⟩))
    go_ret
    exact ⟨rfl, (by repeat' (first | (with_reducible exact up_refl _) | (with_reducible assumption) | (with_reducible refine up_alloc ?_ _) | (with_reducible refine up_drewN ?_ _) | (with_reducible refine up_drew ?_) | (with_reducible refine up_set ?_ (by first | (simp; done) | (simp; omega) | omega) _) | (refine up_trans ?_ (by with_reducible assumption))))⟩
  cases b9
  · go_enter Tryz.func109, Tryz.ntmps109
    go_wp2_with (first | (go_at_call 79; (with_reducible refine (unhide h1 _).mono ?_); rintro e w1 ⟨rfl, rfl⟩) | (go_at_call 130; (with_reducible refine (unhide h2 _).mono ?_); rintro e w2 ⟨rfl, rfl⟩) | (go_at_call 130; (with_reducible refine (unhide h3 _).mono ?_); rintro e w3 ⟨rfl, rfl⟩) | (go_at_call 130; (with_reducible refine (unhide h4 _).mono ?_); rintro e w4 ⟨rfl, rfl⟩) | (go_at_call 130; (with_reducible refine (unhide h5 _).mono ?_); rintro e w5 ⟨rfl, rfl⟩) | (go_at_call 130; (with_reducible refine (unhide h6 _).mono ?_); rintro e w6 ⟨rfl, rfl⟩) | (go_at_call 130; (with_reducible refine (unhide h7 _).mono ?_); rintro e w7 ⟨rfl, rfl⟩) | (go_at_call 130; (with_reducible refine (unhide h8 _).mono ?_); rintro e w8 ⟨rfl, rfl⟩) | (go_at_call 130; (with_reducible refine (unhide h9 _).mono ?_); rintro e w9 ⟨rfl, rfl⟩))
    go_ret
    exact ⟨rfl, (by repeat' (first | (with_reducible exact up_refl _) | (with_reducible assumption) | (with_reducible refine up_alloc ?_ _) | (with_reducible refine up_drewN ?_ _) | (with_reducible refine up_drew ?_) | (with_reducible refine up_set ?_ (by first | (simp; done) | (simp; omega) | omega) _) | (refine up_trans ?_ (by with_reducible assumption))))⟩
  cases b10
  · go_enter Tryz.func109, Tryz.ntmps109
    go_wp2_with (first | (go_at_call 79; (with_reducible refine (unhide h1 _).mono ?_); rintro e w1 ⟨rfl, rfl⟩) | (go_at_call 130; (with_reducible refine (unhide h2 _).mono ?_); rintro e w2 ⟨rfl, rfl⟩) | (go_at_call 130; (with_reducible refine (unhide h3 _).mono ?_); rintro e w3 ⟨rfl, rfl⟩) | (go_at_call 130; (with_reducible refine (unhide h4 _).mono ?_); rintro e w4 ⟨rfl, rfl⟩) | (go_at_call 130; (with_reducible refine (unhide h5 _).mono ?_); rintro e w5 ⟨rfl, rfl⟩) | (go_at_call 130; (with_reducible refine (unhide h6 _).mono ?_); rintro e w6 ⟨rfl, rfl⟩) | (go_at_call 130; (with_reducible refine (unhide h7 _).mono ?_); rintro e w7 ⟨rfl, rfl⟩) | (go_at_call 130; (with_reducible refine (unhide h8 _).mono ?_); rintro e w8 ⟨rfl, rfl⟩) | (go_at_call 130; (with_reducible refine (unhide h9 _).mono ?_); rintro e w9 ⟨rfl, rfl⟩) | (go_at_call 79; (with_reducible refine (unhide h10 _).mono ?_); rintro e w10 ⟨rfl, rfl⟩))
    go_ret
    exact ⟨rfl, (by repeat' (first | (with_reducible exact up_refl _) | (with_reducible assumption) | (with_reducible refine up_alloc ?_ _) | (with_reducible refine up_drewN ?_ _) | (with_reducible refine up_drew ?_) | (with_reducible refine up_set ?_ (by first | (simp; done) | (simp; omega) | omega) _) | (refine up_trans ?_ (by with_reducible assumption))))⟩
  · go_enter Tryz.func109, Tryz.ntmps109
    go_wp2_with (first | (go_at_call 79; (with_reducible refine (unhide h1 _).mono ?_); rintro e w1 ⟨rfl, rfl⟩) | (go_at_call 130; (with_reducible refine (unhide h2 _).mono ?_); rintro e w2 ⟨rfl, rfl⟩) | (go_at_call 130; (with_reducible refine (unhide h3 _).mono ?_); rintro e w3 ⟨rfl, rfl⟩) | (go_at_call 130; (with_reducible refine (unhide h4 _).mono ?_); rintro e w4 ⟨rfl, rfl⟩) | (go_at_call 130; (with_reducible refine (unhide h5 _).mono ?_); rintro e w5 ⟨rfl, rfl⟩) | (go_at_call 130; (with_reducible refine (unhide h6 _).mono ?_); rintro e w6 ⟨rfl, rfl⟩) | (go_at_call 130; (with_reducible refine (unhide h7 _).mono ?_); rintro e w7 ⟨rfl, rfl⟩) | (go_at_call 130; (with_reducible refine (unhide h8 _).mono ?_); rintro e w8 ⟨rfl, rfl⟩) | (go_at_call 130; (with_reducible refine (unhide h9 _).mono ?_); rintro e w9 ⟨rfl, rfl⟩) | (go_at_call 79; (with_reducible refine (unhide h10 _).mono ?_); rintro e w10 ⟨rfl, rfl⟩))
    go_ret
    exact ⟨rfl, (by repeat' (first | (with_reducible exact up_refl _) | (with_reducible assumption) | (with_reducible refine up_alloc ?_ _) | (with_reducible refine up_drewN ?_ _) | (with_reducible refine up_drew ?_) | (with_reducible refine up_set ?_ (by first | (simp; done) | (simp; omega) | omega) _) | (refine up_trans ?_ (by with_reducible assumption))))⟩
set_option maxRecDepth 100000 in
set_option maxHeartbeats 8000000 in
theorem p_areAxles (kd le be fr re wi he ma st mo : Int) (A : Option Addr) (xs : List Axl) (cap : Nat) (w : World) (h : Axls w A xs) (hn : xs.length ≤ 9223372036854775807) (hle : 100 ≤ le ∧ le ≤ 131072) (hre : 0 ≤ re ∧ re ≤ 131072) :
    Calls Tryz.prog 110 #[uV kd le be fr re wi he ma st mo A xs.length cap] w fun e w' => e = .returned (.bool (axU le re xs)) ∧ Up w w' := by
  have HA := hide h
  have HD := hide (fun n a b W => p_inD n a b W)
  have HC := hide (fun n a b W => p_inC n a b W)
  unfold axU
  clear h
  have hw0 : IntKind.i64.wrap (le + re) = le + re := IntWalk.i64_in _ ⟨by omega, by omega⟩
  clear hle hre
  obtain ⟨G, hG⟩ : ∃ G, axG (le + re) 0 xs = G := ⟨_, rfl⟩
  obtain ⟨L, hL⟩ : ∃ L, le + re = L := ⟨_, rfl⟩
  rw [hG]
  rw [hL] at hG hw0
  have HW := hide hL
  have HG := hide hG
  have hw1 : IntKind.i64.wrap (le + re) = L := by rw [hL]; exact hw0
  clear hG hL hw0
  obtain ⟨n, hN⟩ : ∃ n, xs.length = n := ⟨_, rfl⟩
  rw [hN] at hn ⊢
  have HN := hide hN
  clear hN
  go_enter Tryz.func110, Tryz.ntmps110
  go_upto_region 1 with fail
  refine at_wp (fun W0 hW0 => ?_)
  have U0 : Up w W0 := by rw [hW0]; exact (by repeat' (first | (with_reducible exact up_refl _) | (with_reducible assumption) | (with_reducible refine up_alloc ?_ _) | (with_reducible refine up_drewN ?_ _) | (with_reducible refine up_drew ?_) | (with_reducible refine up_set ?_ (by first | (simp; done) | (simp; omega) | omega) _) | (refine up_trans ?_ (by with_reducible assumption))))
  have B0 : Bx W0 w.heap.size [.int .i64 kd, .int .i64 le, .int .i64 be, .int .i64 fr, .int .i64 re, .int .i64 wi, .int .i64 he, .int .i64 ma, .int .i64 st, .int .i64 mo, .slice A n cap] := by rw [hW0]; exact bx_new w [.int .i64 kd, .int .i64 le, .int .i64 be, .int .i64 fr, .int .i64 re, .int .i64 wi, .int .i64 he, .int .i64 ma, .int .i64 st, .int .i64 mo, .slice A n cap] 108
  clear hW0
  have c10 := (B0 10 _ rfl).1
  go_wp2_with fail
  go_loopw [3, 9] (fun p i wr => ∃ (k : Nat) (q : Int), k ≤ n ∧ p = .int .i64 q ∧ i = .int .i64 k ∧ Up W0 wr ∧ Hid (axG L 0 xs = axG L q (xs.drop k))) (fun _ i _ => n - (intOf i).toNat)
  case atStart => exact ⟨0, 0, by omega, rfl, rfl, up_refl _, rfl⟩
  case round =>
    obtain ⟨k, q, hk, rfl, rfl, hu, ho⟩ := hrel
    clear c10
    have B1 := bx_up B0 hu
    by_cases hlt : k < n
    · have hl : k < xs.length := by rw [unhide HN]; exact hlt
      rcases axls_up (unhide HA) (up_trans U0 hu) with hnil | ⟨b, off, rfl, hc⟩
      · rw [hnil] at hl; simp at hl
      obtain ⟨d0, d1, d2⟩ := hc k hl
      clear hc
      have HS := hide ((unhide ho).trans (axG_step hl))
      have h1 := hide (fun W => unhide HD xs[k].x q L W)
      have h2 := hide (fun W => unhide HD xs[k].lim 1 1048576 W)
      have h3 := hide (fun W => unhide HC xs[k].wh 1 16 W)
      generalize xs[k].x = x at *
      generalize xs[k].lim = lm at *
      generalize xs[k].wh = wh at *
      generalize win x q L = b1 at *
      generalize win lm 1 1048576 = b2 at *
      generalize win wh 1 16 = b3 at *
      have e1 := (B1 1 _ rfl).1
      have e4 := (B1 4 _ rfl).1
      have a1 := fun o => alloc_cell o e1
      have a4 := fun o => alloc_cell o e4
      have hwk : IntKind.i64.wrap ((k : Int) + 1) = (k : Int) + 1 := IntWalk.i64_in _ ⟨by omega, by omega⟩
      clear ho HA
      cases b1
      · have HF := hide (show G = false by rw [← unhide HG, unhide HS]; rfl)
        go_wp2_with (first | (go_at_call 130; (with_reducible refine (unhide h1 _).mono ?_); rintro e v1 ⟨rfl, rfl⟩))
        go_ret
        exact ⟨by rw [unhide HF]; rfl, (by repeat' (first | (with_reducible exact up_refl _) | (with_reducible assumption) | (with_reducible refine up_alloc ?_ _) | (with_reducible refine up_drewN ?_ _) | (with_reducible refine up_drew ?_) | (with_reducible refine up_set ?_ (by first | (simp; done) | (simp; omega) | omega) _) | (refine up_trans ?_ (by with_reducible assumption))))⟩
      cases b2
      · have HF := hide (show G = false by rw [← unhide HG, unhide HS]; rfl)
        go_wp2_with (first | (go_at_call 130; (with_reducible refine (unhide h1 _).mono ?_); rintro e v1 ⟨rfl, rfl⟩) | (go_at_call 130; (with_reducible refine (unhide h2 _).mono ?_); rintro e v2 ⟨rfl, rfl⟩))
        go_ret
        exact ⟨by rw [unhide HF]; rfl, (by repeat' (first | (with_reducible exact up_refl _) | (with_reducible assumption) | (with_reducible refine up_alloc ?_ _) | (with_reducible refine up_drewN ?_ _) | (with_reducible refine up_drew ?_) | (with_reducible refine up_set ?_ (by first | (simp; done) | (simp; omega) | omega) _) | (refine up_trans ?_ (by with_reducible assumption))))⟩
      cases b3
      · have HF := hide (show G = false by rw [← unhide HG, unhide HS]; rfl)
        go_wp2_with (first | (go_at_call 130; (with_reducible refine (unhide h1 _).mono ?_); rintro e v1 ⟨rfl, rfl⟩) | (go_at_call 130; (with_reducible refine (unhide h2 _).mono ?_); rintro e v2 ⟨rfl, rfl⟩) | (go_at_call 79; (with_reducible refine (unhide h3 _).mono ?_); rintro e v3 ⟨rfl, rfl⟩))
        go_ret
        exact ⟨by rw [unhide HF]; rfl, (by repeat' (first | (with_reducible exact up_refl _) | (with_reducible assumption) | (with_reducible refine up_alloc ?_ _) | (with_reducible refine up_drewN ?_ _) | (with_reducible refine up_drew ?_) | (with_reducible refine up_set ?_ (by first | (simp; done) | (simp; omega) | omega) _) | (refine up_trans ?_ (by with_reducible assumption))))⟩
      · have HT := hide (show axG L 0 xs = axG L x (xs.drop (k + 1)) by rw [unhide HS]; rfl)
        go_wp2_with (first | (go_at_call 130; (with_reducible refine (unhide h1 _).mono ?_); rintro e v1 ⟨rfl, rfl⟩) | (go_at_call 130; (with_reducible refine (unhide h2 _).mono ?_); rintro e v2 ⟨rfl, rfl⟩) | (go_at_call 79; (with_reducible refine (unhide h3 _).mono ?_); rintro e v3 ⟨rfl, rfl⟩))
        go_roundw
        case rel => exact ⟨k + 1, x, by omega, rfl, by first | rfl | trivial | go_num, (by repeat' (first | (with_reducible exact up_refl _) | (with_reducible assumption) | (with_reducible refine up_alloc ?_ _) | (with_reducible refine up_drewN ?_ _) | (with_reducible refine up_drew ?_) | (with_reducible refine up_set ?_ (by first | (simp; done) | (simp; omega) | omega) _) | (refine up_trans ?_ (by with_reducible assumption)))), HT⟩
        case measure => simp [intOf]; omega
    · obtain rfl : k = n := by omega
      have HT := hide (show G = true by rw [← unhide HG, unhide ho, List.drop_of_length_le (by rw [unhide HN]; omega)]; rfl)
      have c10 := (B1 10 _ rfl).1
      by_cases h0 : (0 : Int) < k
      · have hd : decide ((0 : Int) < k) = true := decide_eq_true h0
        have HZ := hide (show decide (0 < k) = true from decide_eq_true (by omega))
        go_wp2_with fail
        go_ret
        exact ⟨by rw [unhide HT, unhide HZ]; rfl, up_trans U0 hu⟩
      · have hd : decide ((0 : Int) < k) = false := decide_eq_false h0
        have HZ := hide (show decide (0 < k) = false from decide_eq_false (by omega))
        go_wp2_with fail
        go_ret
        exact ⟨by rw [unhide HT, unhide HZ]; rfl, up_trans U0 hu⟩
end Go.Proofs.YthifcalemhpmoaaGreat
