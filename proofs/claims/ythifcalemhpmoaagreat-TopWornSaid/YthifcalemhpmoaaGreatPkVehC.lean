/- Vehicles: which ones chain's Check takes. Units and axles of vehicles: how they lie in memory, and which ones are valid. -/
import Derived.Test.YthifcalemhpmoaaGreatName
import Derived.Test.YthifcalemhpmoaaGreatPlat
import Derived.Test.YthifcalemhpmoaaGreatUpQ
import Derived.Deep.Cut
import Derived.Deep.DeepCutAuto
namespace Go.Proofs.YthifcalemhpmoaaGreat
open Go.RowKit Go.Proofs.Gn
structure Axl where
  x : Int
  lim : Int
  wh : Int
structure Unt where
  kd : Int
  le : Int
  be : Int
  fr : Int
  re : Int
  wi : Int
  he : Int
  ma : Int
  st : Int
  mo : Int
  A : Option Addr
  xs : List Axl
  cap : Nat
instance : Inhabited Axl := ⟨⟨0, 0, 0⟩⟩
instance : Inhabited Unt := ⟨⟨0, 0, 0, 0, 0, 0, 0, 0, 0, 0, none, [], 0⟩⟩
/-- The cells of an axle. -/
def AxlAt (w : World) (b o : Nat) (a : Axl) : Prop := w.cell? ⟨b, o, none⟩ = some (.int .i64 a.x) ∧ w.cell? ⟨b, o + 1, none⟩ = some (.int .i64 a.lim) ∧ w.cell? ⟨b, o + 2, none⟩ = some (.int .i64 a.wh)
theorem axlAt_up {w w' : World} {b o : Nat} {a : Axl} (h : AxlAt w b o a) (hu : Up w w') : AxlAt w' b o a := ⟨up_cell hu h.1, up_cell hu h.2.1, up_cell hu h.2.2⟩
def Axls (w : World) (A : Option Addr) (xs : List Axl) : Prop := xs = [] ∨ ∃ b off, A = some ⟨b, off, none⟩ ∧ ∀ k (h : k < xs.length), AxlAt w b (off + k * 3) xs[k]
theorem axls_up {w w' : World} {A : Option Addr} {xs : List Axl} (h : Axls w A xs) (hu : Up w w') : Axls w' A xs := by
  rcases h with h | ⟨b, off, hA, hc⟩
  · exact .inl h
  · exact .inr ⟨b, off, hA, fun k hk => axlAt_up (hc k hk) hu⟩
/-- The cells of a unit. -/
def UntAt (w : World) (b o : Nat) (u : Unt) : Prop :=
  w.cell? ⟨b, o, none⟩ = some (.int .i64 u.kd) ∧ w.cell? ⟨b, o + 1, none⟩ = some (.int .i64 u.le) ∧ w.cell? ⟨b, o + 2, none⟩ = some (.int .i64 u.be) ∧ w.cell? ⟨b, o + 3, none⟩ = some (.int .i64 u.fr) ∧ w.cell? ⟨b, o + 4, none⟩ = some (.int .i64 u.re) ∧ w.cell? ⟨b, o + 5, none⟩ = some (.int .i64 u.wi) ∧ w.cell? ⟨b, o + 6, none⟩ = some (.int .i64 u.he) ∧ w.cell? ⟨b, o + 7, none⟩ = some (.int .i64 u.ma) ∧ w.cell? ⟨b, o + 8, none⟩ = some (.int .i64 u.st) ∧ w.cell? ⟨b, o + 9, none⟩ = some (.int .i64 u.mo) ∧ w.cell? ⟨b, o + 10, none⟩ = some (.slice u.A u.xs.length u.cap) ∧ Axls w u.A u.xs ∧ u.xs.length ≤ 9223372036854775807
theorem untAt_up {w w' : World} {b o : Nat} {u : Unt} (h : UntAt w b o u) (hu : Up w w') : UntAt w' b o u := by
  obtain ⟨h0, h1, h2, h3, h4, h5, h6, h7, h8, h9, h10, h11, h12⟩ := h
  exact ⟨up_cell hu h0, up_cell hu h1, up_cell hu h2, up_cell hu h3, up_cell hu h4, up_cell hu h5, up_cell hu h6, up_cell hu h7, up_cell hu h8, up_cell hu h9, up_cell hu h10, axls_up h11 hu, h12⟩
def Unts (w : World) (A : Option Addr) (us : List Unt) : Prop := us = [] ∨ ∃ b off, A = some ⟨b, off, none⟩ ∧ ∀ k (h : k < us.length), UntAt w b (off + k * 11) us[k]
theorem unts_up {w w' : World} {A : Option Addr} {us : List Unt} (h : Unts w A us) (hu : Up w w') : Unts w' A us := by
  rcases h with h | ⟨b, off, hA, hc⟩
  · exact .inl h
  · exact .inr ⟨b, off, hA, fun k hk => untAt_up (hc k hk) hu⟩
abbrev uV (kd le be fr re wi he ma st mo : Int) (A : Option Addr) (n cap : Nat) : Value := .agg #[.int .i64 kd, .int .i64 le, .int .i64 be, .int .i64 fr, .int .i64 re, .int .i64 wi, .int .i64 he, .int .i64 ma, .int .i64 st, .int .i64 mo, .slice A n cap]
abbrev uL (kd le be fr re wi he ma st mo : Int) (A : Option Addr) (n cap : Nat) : List Value := [.int .i64 kd, .int .i64 le, .int .i64 be, .int .i64 fr, .int .i64 re, .int .i64 wi, .int .i64 he, .int .i64 ma, .int .i64 st, .int .i64 mo, .slice A n cap]
abbrev veV (s : ByteArray) (A : Option Addr) (n cap : Nat) (f t : Int) : Value := .agg #[.string s, .slice A n cap, .int .i64 f, .int .i64 t]
/-! ### Which ones are valid -/
def szU (kd le be fr re wi he ma st mo : Int) : Bool := win kd 0 3 && (win le 100 131072 && (win be (-le) 131072 && (win fr 0 131072 && (win re 0 131072 && (win wi 0 131072 && (win he 0 131072 && (win ma 1 1048576 && (win st 0 900 && win mo 0 40))))))))
def axG (L : Int) : Int → List Axl → Bool
  | _, [] => true
  | p, a :: l => (win a.x p L && (win a.lim 1 1048576 && win a.wh 1 16)) && axG L a.x l
def axU (le re : Int) (xs : List Axl) : Bool := axG (le + re) 0 xs && decide (0 < xs.length)
def okU (u : Unt) : Bool := szU u.kd u.le u.be u.fr u.re u.wi u.he u.ma u.st u.mo && axU u.le u.re u.xs
theorem axG_step {L p : Int} {xs : List Axl} {k : Nat} (h : k < xs.length) : axG L p (xs.drop k) = ((win xs[k].x p L && (win xs[k].lim 1 1048576 && win xs[k].wh 1 16)) && axG L xs[k].x (xs.drop (k + 1))) := by
  rw [List.drop_eq_getElem_cons h]; rfl
theorem all_step {α : Type} {f : α → Bool} {l : List α} {k : Nat} (h : k < l.length) : (l.drop k).all f = (f l[k] && (l.drop (k + 1)).all f) := by
  rw [List.drop_eq_getElem_cons h]; rfl
theorem any_step {α : Type} {f : α → Bool} {l : List α} {k : Nat} (h : k < l.length) : (l.drop k).any f = (f l[k] || (l.drop (k + 1)).any f) := by
  rw [List.drop_eq_getElem_cons h]; rfl
theorem szU_bd {kd le be fr re wi he ma st mo : Int} (h : szU kd le be fr re wi he ma st mo = true) : (0 ≤ kd ∧ kd ≤ 3) ∧ (100 ≤ le ∧ le ≤ 131072) ∧ (-le ≤ be ∧ be ≤ 131072) ∧ (0 ≤ fr ∧ fr ≤ 131072) ∧ (0 ≤ re ∧ re ≤ 131072) ∧ (0 ≤ wi ∧ wi ≤ 131072) ∧ (0 ≤ he ∧ he ≤ 131072) ∧ (1 ≤ ma ∧ ma ≤ 1048576) ∧ (0 ≤ st ∧ st ≤ 900) ∧ 0 ≤ mo ∧ mo ≤ 40 := by
  unfold szU at h
  simp only [Bool.and_eq_true, win_iff] at h
  exact h
theorem p_inC (n a b : Int) (w : World) :
    Calls Tryz.prog 79 #[.int .i64 n, .int .i64 a, .int .i64 b] w fun e w' => e = .returned (.bool (win n a b)) ∧ w = w' := by
  unfold win
  go_enter Tryz.func79, Tryz.ntmps79
  go_wp2
  · go_ret
    have h : a ≤ n := by assumption
    exact ⟨ret_bool (by simp [h]), rfl⟩
  · go_ret
    exact ⟨ret_bool (by simp; omega), rfl⟩
theorem p_inD (n a b : Int) (w : World) :
    Calls Tryz.prog 130 #[.int .i64 n, .int .i64 a, .int .i64 b] w fun e w' => e = .returned (.bool (win n a b)) ∧ w = w' := by
  unfold win
  go_enter Tryz.func130, Tryz.ntmps130
  go_wp2
  · go_ret
    have h : a ≤ n := by assumption
    exact ⟨ret_bool (by simp [h]), rfl⟩
  · go_ret
    exact ⟨ret_bool (by simp; omega), rfl⟩
set_option maxRecDepth 100000 in
set_option maxHeartbeats 8000000 in
theorem p_areSizes (kd le be fr re wi he ma st mo : Int) (A : Option Addr) (n cap : Nat) (w : World) :
    Calls Tryz.prog 109 #[uV kd le be fr re wi he ma st mo A n cap] w fun e w' => e = .returned (.bool (szU kd le be fr re wi he ma st mo)) ∧ Up w w' := by
  unfold szU
  have h1 := hide (fun W => p_inC kd 0 3 W)
  have h2 := hide (fun W => p_inD le 100 131072 W)
  have h4 := hide (fun W => p_inD fr 0 131072 W)
  have h5 := hide (fun W => p_inD re 0 131072 W)
  have h6 := hide (fun W => p_inD wi 0 131072 W)
  have h7 := hide (fun W => p_inD he 0 131072 W)
  have h8 := hide (fun W => p_inD ma 1 1048576 W)
  have h9 := hide (fun W => p_inD st 0 900 W)
  have h10 := hide (fun W => p_inC mo 0 40 W)
  have h3 := hide (fun W => p_inD be (-le) 131072 W)
  have HL := hide (fun h : win le 100 131072 = true => (win_iff le 100 131072).1 h)
  generalize win kd 0 3 = b1 at *
  generalize win le 100 131072 = b2 at *
  generalize win be (-le) 131072 = b3 at *
  generalize win fr 0 131072 = b4 at *
  generalize win re 0 131072 = b5 at *
  generalize win wi 0 131072 = b6 at *
  generalize win he 0 131072 = b7 at *
  generalize win ma 1 1048576 = b8 at *
  generalize win st 0 900 = b9 at *
  generalize win mo 0 40 = b10 at *
  cases b1
  · go_enter Tryz.func109, Tryz.ntmps109
    go_wp2_with (first | (go_at_call 79; (with_reducible refine (unhide h1 _).mono ?_); rintro e w1 ⟨rfl, rfl⟩))
    go_ret
    exact ⟨rfl, (by repeat' (first | (with_reducible exact up_refl _) | (with_reducible assumption) | (with_reducible refine up_alloc ?_ _) | (with_reducible refine up_drewN ?_ _) | (with_reducible refine up_drew ?_) | (with_reducible refine up_set ?_ (by first | (simp; done) | (simp; omega) | omega) _) | (refine up_trans ?_ (by with_reducible assumption))))⟩
  cases b2
  · go_enter Tryz.func109, Tryz.ntmps109
    go_wp2_with (first | (go_at_call 79; (with_reducible refine (unhide h1 _).mono ?_); rintro e w1 ⟨rfl, rfl⟩) | (go_at_call 130; (with_reducible refine (unhide h2 _).mono ?_); rintro e w2 ⟨rfl, rfl⟩))
    go_ret
    exact ⟨rfl, (by repeat' (first | (with_reducible exact up_refl _) | (with_reducible assumption) | (with_reducible refine up_alloc ?_ _) | (with_reducible refine up_drewN ?_ _) | (with_reducible refine up_drew ?_) | (with_reducible refine up_set ?_ (by first | (simp; done) | (simp; omega) | omega) _) | (refine up_trans ?_ (by with_reducible assumption))))⟩
  have hl := unhide HL rfl
  have hneg : IntKind.i64.wrap (-le) = -le := IntWalk.i64_in _ ⟨by omega, by omega⟩
  cases b3
  · go_enter Tryz.func109, Tryz.ntmps109
    go_wp2_with (first | (go_at_call 79; (with_reducible refine (unhide h1 _).mono ?_); rintro e w1 ⟨rfl, rfl⟩) | (go_at_call 130; (with_reducible refine (unhide h2 _).mono ?_); rintro e w2 ⟨rfl, rfl⟩) | (go_at_call 130; (with_reducible refine (unhide h3 _).mono ?_); rintro e w3 ⟨rfl, rfl⟩))
    go_ret
    exact ⟨rfl, (by repeat' (first | (with_reducible exact up_refl _) | (with_reducible assumption) | (with_reducible refine up_alloc ?_ _) | (with_reducible refine up_drewN ?_ _) | (with_reducible refine up_drew ?_) | (with_reducible refine up_set ?_ (by first | (simp; done) | (simp; omega) | omega) _) | (refine up_trans ?_ (by with_reducible assumption))))⟩
  cases b4
  · go_enter Tryz.func109, Tryz.ntmps109
    go_wp2_with (first | (go_at_call 79; (with_reducible refine (unhide h1 _).mono ?_); rintro e w1 ⟨rfl, rfl⟩) | (go_at_call 130; (with_reducible refine (unhide h2 _).mono ?_); rintro e w2 ⟨rfl, rfl⟩) | (go_at_call 130; (with_reducible refine (unhide h3 _).mono ?_); rintro e w3 ⟨rfl, rfl⟩) | (go_at_call 130; (with_reducible refine (unhide h4 _).mono ?_); rintro e w4 ⟨rfl, rfl⟩))
    go_ret
    exact ⟨rfl, (by repeat' (first | (with_reducible exact up_refl _) | (with_reducible assumption) | (with_reducible refine up_alloc ?_ _) | (with_reducible refine up_drewN ?_ _) | (with_reducible refine up_drew ?_) | (with_reducible refine up_set ?_ (by first | (simp; done) | (simp; omega) | omega) _) | (refine up_trans ?_ (by with_reducible assumption))))⟩
  cases b5
  · go_enter Tryz.func109, Tryz.ntmps109
    go_wp2_with (first | (go_at_call 79; (with_reducible refine (unhide h1 _).mono ?_); rintro e w1 ⟨rfl, rfl⟩) | (go_at_call 130; (with_reducible refine (unhide h2 _).mono ?_); rintro e w2 ⟨rfl, rfl⟩) | (go_at_call 130; (with_reducible refine (unhide h3 _).mono ?_); rintro e w3 ⟨rfl, rfl⟩) | (go_at_call 130; (with_reducible refine (unhide h4 _).mono ?_); rintro e w4 ⟨rfl, rfl⟩) | (go_at_call 130; (with_reducible refine (unhide h5 _).mono ?_); rintro e w5 ⟨rfl, rfl⟩))
    go_ret
    exact ⟨rfl, (by repeat' (first | (with_reducible exact up_refl _) | (with_reducible assumption) | (with_reducible refine up_alloc ?_ _) | (with_reducible refine up_drewN ?_ _) | (with_reducible refine up_drew ?_) | (with_reducible refine up_set ?_ (by first | (simp; done) | (simp; omega) | omega) _) | (refine up_trans ?_ (by with_reducible assumption))))⟩
  cases b6
  · go_enter Tryz.func109, Tryz.ntmps109
    go_wp2_with (first | (go_at_call 79; (with_reducible refine (unhide h1 _).mono ?_); rintro e w1 ⟨rfl, rfl⟩) | (go_at_call 130; (with_reducible refine (unhide h2 _).mono ?_); rintro e w2 ⟨rfl, rfl⟩) | (go_at_call 130; (with_reducible refine (unhide h3 _).mono ?_); rintro e w3 ⟨rfl, rfl⟩) | (go_at_call 130; (with_reducible refine (unhide h4 _).mono ?_); rintro e w4 ⟨rfl, rfl⟩) | (go_at_call 130; (with_reducible refine (unhide h5 _).mono ?_); rintro e w5 ⟨rfl, rfl⟩) | (go_at_call 130; (with_reducible refine (unhide h6 _).mono ?_); rintro e w6 ⟨rfl, rfl⟩))
    go_ret
    exact ⟨rfl, (by repeat' (first | (with_reducible exact up_refl _) | (with_reducible assumption) | (with_reducible refine up_alloc ?_ _) | (with_reducible refine up_drewN ?_ _) | (with_reducible refine up_drew ?_) | (with_reducible refine up_set ?_ (by first | (simp; done) | (simp; omega) | omega) _) | (refine up_trans ?_ (by with_reducible assumption))))⟩
  cases b7
  · go_enter Tryz.func109, Tryz.ntmps109
    go_wp2_with (first | (go_at_call 79; (with_reducible refine (unhide h1 _).mono ?_); rintro e w1 ⟨rfl, rfl⟩) | (go_at_call 130; (with_reducible refine (unhide h2 _).mono ?_); rintro e w2 ⟨rfl, rfl⟩) | (go_at_call 130; (with_reducible refine (unhide h3 _).mono ?_); rintro e w3 ⟨rfl, rfl⟩) | (go_at_call 130; (with_reducible refine (unhide h4 _).mono ?_); rintro e w4 ⟨rfl, rfl⟩) | (go_at_call 130; (with_reducible refine (unhide h5 _).mono ?_); rintro e w5 ⟨rfl, rfl⟩) | (go_at_call 130; (with_reducible refine (unhide h6 _).mono ?_); rintro e w6 ⟨rfl, rfl⟩) | (go_at_call 130; (with_reducible refine (unhide h7 _).mono ?_); rintro e w7 ⟨rfl, rfl⟩))
    go_ret
    exact ⟨rfl, (by repeat' (first | (with_reducible exact up_refl _) | (with_reducible assumption) | (with_reducible refine up_alloc ?_ _) | (with_reducible refine up_drewN ?_ _) | (with_reducible refine up_drew ?_) | (with_reducible refine up_set ?_ (by first | (simp; done) | (simp; omega) | omega) _) | (refine up_trans ?_ (by with_reducible assumption))))⟩
  cases b8
  · go_enter Tryz.func109, Tryz.ntmps109
    go_wp2_with (first | (go_at_call 79; (with_reducible refine (unhide h1 _).mono ?_); rintro e w1 ⟨rfl, rfl⟩) | (go_at_call 130; (with_reducible refine (unhide h2 _).mono ?_); rintro e w2 ⟨rfl, rfl⟩) | (go_at_call 130; (with_reducible refine (unhide h3 _).mono ?_); rintro e w3 ⟨rfl, rfl⟩) | (go_at_call 130; (with_reducible refine (unhide h4 _).mono ?_); rintro e w4 ⟨rfl, rfl⟩) | (go_at_call 130; (with_reducible refine (unhide h5 _).mono ?_); rintro e w5 ⟨rfl, rfl⟩) | (go_at_call 130; (with_reducible refine (unhide h6 _).mono ?_); rintro e w6 ⟨rfl, rfl⟩) | (go_at_call 130; (with_reducible refine (unhide h7 _).mono ?_); rintro e w7 ⟨rfl, rfl⟩) | (go_at_call 130; (with_reducible refine (unhide h8 _).mono ?_); rintro e w8 ⟨rfl, rfl⟩))
    go_ret
    exact ⟨rfl, (by repeat' (first | (with_reducible exact up_refl _) | (with_reducible assumption) | (with_reducible refine up_alloc ?_ _) | (with_reducible refine up_drewN ?_ _) | (with_reducible refine up_drew ?_) | (with_reducible refine up_set ?_ (by first | (simp; done) | (simp; omega) | omega) _) | (refine up_trans ?_ (by with_reducible assumption))))⟩
  cases b9
  · go_enter Tryz.func109, Tryz.ntmps109
    go_wp2_with (first | (go_at_call 79; (with_reducible refine (unhide h1 _).mono ?_); rintro e w1 ⟨rfl, rfl⟩) | (go_at_call 130; (with_reducible refine (unhide h2 _).mono ?_); rintro e w2 ⟨rfl, rfl⟩) | (go_at_call 130; (with_reducible refine (unhide h3 _).mono ?_); rintro e w3 ⟨rfl, rfl⟩) | (go_at_call 130; (with_reducible refine (unhide h4 _).mono ?_); rintro e w4 ⟨rfl, rfl⟩) | (go_at_call 130; (with_reducible refine (unhide h5 _).mono ?_); rintro e w5 ⟨rfl, rfl⟩) | (go_at_call 130; (with_reducible refine (unhide h6 _).mono ?_); rintro e w6 ⟨rfl, rfl⟩) | (go_at_call 130; (with_reducible refine (unhide h7 _).mono ?_); rintro e w7 ⟨rfl, rfl⟩) | (go_at_call 130; (with_reducible refine (unhide h8 _).mono ?_); rintro e w8 ⟨rfl, rfl⟩) | (go_at_call 130; (with_reducible refine (unhide h9 _).mono ?_); rintro e w9 ⟨rfl, rfl⟩))
    go_ret
    exact ⟨rfl, (by repeat' (first | (with_reducible exact up_refl _) | (with_reducible assumption) | (with_reducible refine up_alloc ?_ _) | (with_reducible refine up_drewN ?_ _) | (with_reducible refine up_drew ?_) | (with_reducible refine up_set ?_ (by first | (simp; done) | (simp; omega) | omega) _) | (refine up_trans ?_ (by with_reducible assumption))))⟩
  cases b10
  · go_enter Tryz.func109, Tryz.ntmps109
    go_wp2_with (first | (go_at_call 79; (with_reducible refine (unhide h1 _).mono ?_); rintro e w1 ⟨rfl, rfl⟩) | (go_at_call 130; (with_reducible refine (unhide h2 _).mono ?_); rintro e w2 ⟨rfl, rfl⟩) | (go_at_call 130; (with_reducible refine (unhide h3 _).mono ?_); rintro e w3 ⟨rfl, rfl⟩) | (go_at_call 130; (with_reducible refine (unhide h4 _).mono ?_); rintro e w4 ⟨rfl, rfl⟩) | (go_at_call 130; (with_reducible refine (unhide h5 _).mono ?_); rintro e w5 ⟨rfl, rfl⟩) | (go_at_call 130; (with_reducible refine (unhide h6 _).mono ?_); rintro e w6 ⟨rfl, rfl⟩) | (go_at_call 130; (with_reducible refine (unhide h7 _).mono ?_); rintro e w7 ⟨rfl, rfl⟩) | (go_at_call 130; (with_reducible refine (unhide h8 _).mono ?_); rintro e w8 ⟨rfl, rfl⟩) | (go_at_call 130; (with_reducible refine (unhide h9 _).mono ?_); rintro e w9 ⟨rfl, rfl⟩) | (go_at_call 79; (with_reducible refine (unhide h10 _).mono ?_); rintro e w10 ⟨rfl, rfl⟩))
    go_ret
    exact ⟨rfl, (by repeat' (first | (with_reducible exact up_refl _) | (with_reducible assumption) | (with_reducible refine up_alloc ?_ _) | (with_reducible refine up_drewN ?_ _) | (with_reducible refine up_drew ?_) | (with_reducible refine up_set ?_ (by first | (simp; done) | (simp; omega) | omega) _) | (refine up_trans ?_ (by with_reducible assumption))))⟩
  · go_enter Tryz.func109, Tryz.ntmps109
    go_wp2_with (first | (go_at_call 79; (with_reducible refine (unhide h1 _).mono ?_); rintro e w1 ⟨rfl, rfl⟩) | (go_at_call 130; (with_reducible refine (unhide h2 _).mono ?_); rintro e w2 ⟨rfl, rfl⟩) | (go_at_call 130; (with_reducible refine (unhide h3 _).mono ?_); rintro e w3 ⟨rfl, rfl⟩) | (go_at_call 130; (with_reducible refine (unhide h4 _).mono ?_); rintro e w4 ⟨rfl, rfl⟩) | (go_at_call 130; (with_reducible refine (unhide h5 _).mono ?_); rintro e w5 ⟨rfl, rfl⟩) | (go_at_call 130; (with_reducible refine (unhide h6 _).mono ?_); rintro e w6 ⟨rfl, rfl⟩) | (go_at_call 130; (with_reducible refine (unhide h7 _).mono ?_); rintro e w7 ⟨rfl, rfl⟩) | (go_at_call 130; (with_reducible refine (unhide h8 _).mono ?_); rintro e w8 ⟨rfl, rfl⟩) | (go_at_call 130; (with_reducible refine (unhide h9 _).mono ?_); rintro e w9 ⟨rfl, rfl⟩) | (go_at_call 79; (with_reducible refine (unhide h10 _).mono ?_); rintro e w10 ⟨rfl, rfl⟩))
    go_ret
    exact ⟨rfl, (by repeat' (first | (with_reducible exact up_refl _) | (with_reducible assumption) | (with_reducible refine up_alloc ?_ _) | (with_reducible refine up_drewN ?_ _) | (with_reducible refine up_drew ?_) | (with_reducible refine up_set ?_ (by first | (simp; done) | (simp; omega) | omega) _) | (refine up_trans ?_ (by with_reducible assumption))))⟩
set_option maxRecDepth 100000 in
set_option maxHeartbeats 8000000 in
theorem p_areAxles (kd le be fr re wi he ma st mo : Int) (A : Option Addr) (xs : List Axl) (cap : Nat) (w : World) (h : Axls w A xs) (hn : xs.length ≤ 9223372036854775807) (hle : 100 ≤ le ∧ le ≤ 131072) (hre : 0 ≤ re ∧ re ≤ 131072) :
    Calls Tryz.prog 110 #[uV kd le be fr re wi he ma st mo A xs.length cap] w fun e w' => e = .returned (.bool (axU le re xs)) ∧ Up w w' := by
  have HA := hide h
  have HD := hide (fun n a b W => p_inD n a b W)
  have HC := hide (fun n a b W => p_inC n a b W)
  unfold axU
  clear h
  have hw0 : IntKind.i64.wrap (le + re) = le + re := IntWalk.i64_in _ ⟨by omega, by omega⟩
  clear hle hre
  obtain ⟨G, hG⟩ : ∃ G, axG (le + re) 0 xs = G := ⟨_, rfl⟩
  obtain ⟨L, hL⟩ : ∃ L, le + re = L := ⟨_, rfl⟩
  rw [hG]
  rw [hL] at hG hw0
  have HW := hide hL
  have HG := hide hG
  have hw1 : IntKind.i64.wrap (le + re) = L := by rw [hL]; exact hw0
  clear hG hL hw0
  obtain ⟨n, hN⟩ : ∃ n, xs.length = n := ⟨_, rfl⟩
  rw [hN] at hn ⊢
  have HN := hide hN
  clear hN
  go_enter Tryz.func110, Tryz.ntmps110
  go_upto_region 1 with fail
  refine at_wp (fun W0 hW0 => ?_)
  have U0 : Up w W0 := by rw [hW0]; exact (by repeat' (first | (with_reducible exact up_refl _) | (with_reducible assumption) | (with_reducible refine up_alloc ?_ _) | (with_reducible refine up_drewN ?_ _) | (with_reducible refine up_drew ?_) | (with_reducible refine up_set ?_ (by first | (simp; done) | (simp; omega) | omega) _) | (refine up_trans ?_ (by with_reducible assumption))))
  have B0 : Bx W0 w.heap.size [.int .i64 kd, .int .i64 le, .int .i64 be, .int .i64 fr, .int .i64 re, .int .i64 wi, .int .i64 he, .int .i64 ma, .int .i64 st, .int .i64 mo, .slice A n cap] := by rw [hW0]; exact bx_new w [.int .i64 kd, .int .i64 le, .int .i64 be, .int .i64 fr, .int .i64 re, .int .i64 wi, .int .i64 he, .int .i64 ma, .int .i64 st, .int .i64 mo, .slice A n cap] 108
  clear hW0
  have c10 := (B0 10 _ rfl).1
  go_wp2_with fail
  go_loopw [3, 9] (fun p i wr => ∃ (k : Nat) (q : Int), k ≤ n ∧ p = .int .i64 q ∧ i = .int .i64 k ∧ Up W0 wr ∧ Hid (axG L 0 xs = axG L q (xs.drop k))) (fun _ i _ => n - (intOf i).toNat)
  case atStart => exact ⟨0, 0, by omega, rfl, rfl, up_refl _, rfl⟩
  case round =>
    obtain ⟨k, q, hk, rfl, rfl, hu, ho⟩ := hrel
    clear c10
    have B1 := bx_up B0 hu
    by_cases hlt : k < n
    · have hl : k < xs.length := by rw [unhide HN]; exact hlt
      rcases axls_up (unhide HA) (up_trans U0 hu) with hnil | ⟨b, off, rfl, hc⟩
      · rw [hnil] at hl; simp at hl
      obtain ⟨d0, d1, d2⟩ := hc k hl
      clear hc
      have HS := hide ((unhide ho).trans (axG_step hl))
      have h1 := hide (fun W => unhide HD xs[k].x q L W)
      have h2 := hide (fun W => unhide HD xs[k].lim 1 1048576 W)
      have h3 := hide (fun W => unhide HC xs[k].wh 1 16 W)
      generalize xs[k].x = x at *
      generalize xs[k].lim = lm at *
      generalize xs[k].wh = wh at *
      generalize win x q L = b1 at *
      generalize win lm 1 1048576 = b2 at *
      generalize win wh 1 16 = b3 at *
      have e1 := (B1 1 _ rfl).1
      have e4 := (B1 4 _ rfl).1
      have a1 := fun o => alloc_cell o e1
      have a4 := fun o => alloc_cell o e4
      have hwk : IntKind.i64.wrap ((k : Int) + 1) = (k : Int) + 1 := IntWalk.i64_in _ ⟨by omega, by omega⟩
      clear ho HA
      cases b1
      · have HF := hide (show G = false by rw [← unhide HG, unhide HS]; rfl)
        go_wp2_with (first | (go_at_call 130; (with_reducible refine (unhide h1 _).mono ?_); rintro e v1 ⟨rfl, rfl⟩))
        go_ret
        exact ⟨by rw [unhide HF]; rfl, (by repeat' (first | (with_reducible exact up_refl _) | (with_reducible assumption) | (with_reducible refine up_alloc ?_ _) | (with_reducible refine up_drewN ?_ _) | (with_reducible refine up_drew ?_) | (with_reducible refine up_set ?_ (by first | (simp; done) | (simp; omega) | omega) _) | (refine up_trans ?_ (by with_reducible assumption))))⟩
      cases b2
      · have HF := hide (show G = false by rw [← unhide HG, unhide HS]; rfl)
        go_wp2_with (first | (go_at_call 130; (with_reducible refine (unhide h1 _).mono ?_); rintro e v1 ⟨rfl, rfl⟩) | (go_at_call 130; (with_reducible refine (unhide h2 _).mono ?_); rintro e v2 ⟨rfl, rfl⟩))
        go_ret
        exact ⟨by rw [unhide HF]; rfl, (by repeat' (first | (with_reducible exact up_refl _) | (with_reducible assumption) | (with_reducible refine up_alloc ?_ _) | (with_reducible refine up_drewN ?_ _) | (with_reducible refine up_drew ?_) | (with_reducible refine up_set ?_ (by first | (simp; done) | (simp; omega) | omega) _) | (refine up_trans ?_ (by with_reducible assumption))))⟩
      cases b3
      · have HF := hide (show G = false by rw [← unhide HG, unhide HS]; rfl)
        go_wp2_with (first | (go_at_call 130; (with_reducible refine (unhide h1 _).mono ?_); rintro e v1 ⟨rfl, rfl⟩) | (go_at_call 130; (with_reducible refine (unhide h2 _).mono ?_); rintro e v2 ⟨rfl, rfl⟩) | (go_at_call 79; (with_reducible refine (unhide h3 _).mono ?_); rintro e v3 ⟨rfl, rfl⟩))
        go_ret
        exact ⟨by rw [unhide HF]; rfl, (by repeat' (first | (with_reducible exact up_refl _) | (with_reducible assumption) | (with_reducible refine up_alloc ?_ _) | (with_reducible refine up_drewN ?_ _) | (with_reducible refine up_drew ?_) | (with_reducible refine up_set ?_ (by first | (simp; done) | (simp; omega) | omega) _) | (refine up_trans ?_ (by with_reducible assumption))))⟩
      · have HT := hide (show axG L 0 xs = axG L x (xs.drop (k + 1)) by rw [unhide HS]; rfl)
        go_wp2_with (first | (go_at_call 130; (with_reducible refine (unhide h1 _).mono ?_); rintro e v1 ⟨rfl, rfl⟩) | (go_at_call 130; (with_reducible refine (unhide h2 _).mono ?_); rintro e v2 ⟨rfl, rfl⟩) | (go_at_call 79; (with_reducible refine (unhide h3 _).mono ?_); rintro e v3 ⟨rfl, rfl⟩))
        go_roundw
        case rel => exact ⟨k + 1, x, by omega, rfl, by first | rfl | trivial | go_num, (by repeat' (first | (with_reducible exact up_refl _) | (with_reducible assumption) | (with_reducible refine up_alloc ?_ _) | (with_reducible refine up_drewN ?_ _) | (with_reducible refine up_drew ?_) | (with_reducible refine up_set ?_ (by first | (simp; done) | (simp; omega) | omega) _) | (refine up_trans ?_ (by with_reducible assumption)))), HT⟩
        case measure => simp [intOf]; omega
    · obtain rfl : k = n := by omega
      have HT := hide (show G = true by rw [← unhide HG, unhide ho, List.drop_of_length_le (by rw [unhide HN]; omega)]; rfl)
      have c10 := (B1 10 _ rfl).1
      by_cases h0 : (0 : Int) < k
      · have hd : decide ((0 : Int) < k) = true := decide_eq_true h0
        have HZ := hide (show decide (0 < k) = true from decide_eq_true (by omega))
        go_wp2_with fail
        go_ret
        exact ⟨by rw [unhide HT, unhide HZ]; rfl, up_trans U0 hu⟩
      · have hd : decide ((0 : Int) < k) = false := decide_eq_false h0
        have HZ := hide (show decide (0 < k) = false from decide_eq_false (by omega))
        go_wp2_with fail
        go_ret
        exact ⟨by rw [unhide HT, unhide HZ]; rfl, up_trans U0 hu⟩
end Go.Proofs.YthifcalemhpmoaaGreat
namespace Go.Proofs.YthifcalemhpmoaaGreat
open Go.RowKit Go.Proofs.Gn
def hdK : List Unt → Int
  | [] => 0
  | u :: _ => u.kd
def auV (us : List Unt) : Bool := us.all okU && (decide (0 < us.length) && decide (hdK us = 0))
def bigU (u : Unt) : Bool := decide (24 < u.xs.length)
def tmV (us : List Unt) : Bool := decide (12 < us.length) || us.any bigU
theorem hdK_get {us : List Unt} (h : 0 < us.length) : hdK us = us[0].kd := by
  cases us with
  | nil => simp at h
  | cons u l => rfl
set_option maxRecDepth 100000 in
set_option maxHeartbeats 8000000 in
theorem p_areUnits (A : Option Addr) (us : List Unt) (cap : Nat) (w : World) (h : Unts w A us) (hn : us.length ≤ 9223372036854775807) :
    Calls Tryz.prog 78 #[.slice A us.length cap] w fun e w' => e = .returned (.bool (auV us)) ∧ Up w w' := by
  rcases h with rfl | ⟨b, off, rfl, hc⟩
  · go_enter Tryz.func78, Tryz.ntmps78
    go_wp2_with fail
    go_rounds 1
    go_wp2_with fail
    go_ret
    exact ⟨rfl, (by repeat' (first | (with_reducible exact up_refl _) | (with_reducible assumption) | (with_reducible refine up_alloc ?_ _) | (with_reducible refine up_drewN ?_ _) | (with_reducible refine up_drew ?_) | (with_reducible refine up_set ?_ (by first | (simp; done) | (simp; omega) | omega) _) | (refine up_trans ?_ (by with_reducible assumption))))⟩
  unfold auV
  have HC := hide hc
  clear hc
  obtain ⟨G, hG⟩ : ∃ G, us.all okU = G := ⟨_, rfl⟩
  rw [hG]
  have HG := hide hG
  have HH := hide (fun h : 0 < us.length => hdK_get h)
  clear hG
  generalize hdK us = K at *
  obtain ⟨n, hN⟩ : ∃ n, us.length = n := ⟨_, rfl⟩
  rw [hN] at hn ⊢
  have HN := hide hN
  clear hN
  go_enter Tryz.func78, Tryz.ntmps78
  go_wp2_with fail
  go_loopw [7] (fun i wr => ∃ k : Nat, k ≤ n ∧ i = .int .i64 k ∧ Up w wr ∧ Hid (us.all okU = (us.drop k).all okU)) (fun i _ => n - (intOf i).toNat)
  case atStart => exact ⟨0, by omega, rfl, up_refl _, rfl⟩
  case round =>
    obtain ⟨k, hk, rfl, hu, ho⟩ := hrel
    by_cases hlt : k < n
    · have hl : k < us.length := by rw [unhide HN]; exact hlt
      have hp := untAt_up (unhide HC k hl) hu
      obtain ⟨d0, d1, d2, d3, d4, d5, d6, d7, d8, d9, d10, hX, hXn⟩ := hp
      have HS := hide ((unhide ho).trans (all_step hl))
      have hq : okU us[k] = (szU us[k].kd us[k].le us[k].be us[k].fr us[k].re us[k].wi us[k].he us[k].ma us[k].st us[k].mo && axU us[k].le us[k].re us[k].xs) := rfl
      rw [hq] at HS
      clear hq
      have H1 := hide (fun W => p_areSizes us[k].kd us[k].le us[k].be us[k].fr us[k].re us[k].wi us[k].he us[k].ma us[k].st us[k].mo us[k].A us[k].xs.length us[k].cap W)
      have H2 := hide (fun (hz : szU us[k].kd us[k].le us[k].be us[k].fr us[k].re us[k].wi us[k].he us[k].ma us[k].st us[k].mo = true) W (hW : Up wr W) => p_areAxles us[k].kd us[k].le us[k].be us[k].fr us[k].re us[k].wi us[k].he us[k].ma us[k].st us[k].mo us[k].A us[k].xs us[k].cap W (axls_up hX hW) hXn (szU_bd hz).2.1 (szU_bd hz).2.2.2.2.1)
      have hwk : IntKind.i64.wrap ((k : Int) + 1) = (k : Int) + 1 := IntWalk.i64_in _ ⟨by omega, by omega⟩
      clear ho hX hXn HC HH
      generalize us[k].kd = kd at *
      generalize us[k].le = le at *
      generalize us[k].be = be at *
      generalize us[k].fr = fr at *
      generalize us[k].re = re at *
      generalize us[k].wi = wi at *
      generalize us[k].he = he at *
      generalize us[k].ma = ma at *
      generalize us[k].st = st at *
      generalize us[k].mo = mo at *
      generalize us[k].A = XA at *
      generalize us[k].cap = xc at *
      generalize axU le re us[k].xs = b2 at *
      generalize us[k].xs.length = xn at *
      generalize szU kd le be fr re wi he ma st mo = b1 at *
      have NB := bx_new wr [.int .i64 kd, .int .i64 le, .int .i64 be, .int .i64 fr, .int .i64 re, .int .i64 wi, .int .i64 he, .int .i64 ma, .int .i64 st, .int .i64 mo, .slice XA xn xc] 108
      cases b1
      · have HF := hide (show G = false by rw [← unhide HG, unhide HS]; rfl)
        clear H2
        go_wp2_with (go_at_call 109; (with_reducible refine (unhide H1 _).mono ?_); rintro e w1 ⟨rfl, hb1⟩)
        go_ret
        exact ⟨by rw [unhide HF]; rfl, (by repeat' (first | (with_reducible exact up_refl _) | (with_reducible assumption) | (with_reducible refine up_alloc ?_ _) | (with_reducible refine up_drewN ?_ _) | (with_reducible refine up_drew ?_) | (with_reducible refine up_set ?_ (by first | (simp; done) | (simp; omega) | omega) _) | (refine up_trans ?_ (by with_reducible assumption))))⟩
      have H3 := hide (unhide H2 rfl)
      clear H2
      cases b2
      · have HF := hide (show G = false by rw [← unhide HG, unhide HS]; rfl)
        go_wp2_with (first | (go_at_call 109; (with_reducible refine (unhide H1 _).mono ?_); rintro e w1 ⟨rfl, hb1⟩; have N1 := bx_up NB hb1; have n0 := (N1 0 _ rfl).1; have n1 := (N1 1 _ rfl).1; have n2 := (N1 2 _ rfl).1; have n3 := (N1 3 _ rfl).1; have n4 := (N1 4 _ rfl).1; have n5 := (N1 5 _ rfl).1; have n6 := (N1 6 _ rfl).1; have n7 := (N1 7 _ rfl).1; have n8 := (N1 8 _ rfl).1; have n9 := (N1 9 _ rfl).1; have n10 := (N1 10 _ rfl).1) | (go_at_call 110; (with_reducible refine (unhide H3 _ (by repeat' (first | (with_reducible exact up_refl _) | (with_reducible assumption) | (with_reducible refine up_alloc ?_ _) | (with_reducible refine up_drewN ?_ _) | (with_reducible refine up_drew ?_) | (with_reducible refine up_set ?_ (by first | (simp; done) | (simp; omega) | omega) _) | (refine up_trans ?_ (by with_reducible assumption))))).mono ?_); rintro e w2 ⟨rfl, hb2⟩))
        go_ret
        exact ⟨by rw [unhide HF]; rfl, (by repeat' (first | (with_reducible exact up_refl _) | (with_reducible assumption) | (with_reducible refine up_alloc ?_ _) | (with_reducible refine up_drewN ?_ _) | (with_reducible refine up_drew ?_) | (with_reducible refine up_set ?_ (by first | (simp; done) | (simp; omega) | omega) _) | (refine up_trans ?_ (by with_reducible assumption))))⟩
      · have HT := hide (show us.all okU = (us.drop (k + 1)).all okU by rw [unhide HS]; rfl)
        go_wp2_with (first | (go_at_call 109; (with_reducible refine (unhide H1 _).mono ?_); rintro e w1 ⟨rfl, hb1⟩; have N1 := bx_up NB hb1; have n0 := (N1 0 _ rfl).1; have n1 := (N1 1 _ rfl).1; have n2 := (N1 2 _ rfl).1; have n3 := (N1 3 _ rfl).1; have n4 := (N1 4 _ rfl).1; have n5 := (N1 5 _ rfl).1; have n6 := (N1 6 _ rfl).1; have n7 := (N1 7 _ rfl).1; have n8 := (N1 8 _ rfl).1; have n9 := (N1 9 _ rfl).1; have n10 := (N1 10 _ rfl).1) | (go_at_call 110; (with_reducible refine (unhide H3 _ (by repeat' (first | (with_reducible exact up_refl _) | (with_reducible assumption) | (with_reducible refine up_alloc ?_ _) | (with_reducible refine up_drewN ?_ _) | (with_reducible refine up_drew ?_) | (with_reducible refine up_set ?_ (by first | (simp; done) | (simp; omega) | omega) _) | (refine up_trans ?_ (by with_reducible assumption))))).mono ?_); rintro e w2 ⟨rfl, hb2⟩))
        go_roundw
        case rel => exact ⟨k + 1, by omega, by first | rfl | trivial | go_num, (by repeat' (first | (with_reducible exact up_refl _) | (with_reducible assumption) | (with_reducible refine up_alloc ?_ _) | (with_reducible refine up_drewN ?_ _) | (with_reducible refine up_drew ?_) | (with_reducible refine up_set ?_ (by first | (simp; done) | (simp; omega) | omega) _) | (refine up_trans ?_ (by with_reducible assumption)))), HT⟩
        case measure => simp [intOf]; omega
    · obtain rfl : k = n := by omega
      have HT := hide (show G = true by rw [← unhide HG, unhide ho, List.drop_of_length_le (by rw [unhide HN]; omega)]; rfl)
      by_cases h0 : (0 : Int) < k
      · have hl : 0 < us.length := by rw [unhide HN]; omega
        have hp := untAt_up (unhide HC 0 hl) hu
        have d0 := hp.1
        rw [← unhide HH hl] at d0
        simp only [Nat.zero_mul, Nat.add_zero] at d0
        have hd : decide ((0 : Int) < k) = true := decide_eq_true h0
        have HZ := hide (show decide (0 < k) = true from decide_eq_true (by omega))
        clear hp HC ho HH
        by_cases hk0 : K = 0
        · subst hk0
          go_wp2_with fail
          go_ret
          exact ⟨by first | rfl | (rw [unhide HT, unhide HZ]; rfl) | (rw [unhide HT]; rfl) | (simp [unhide HT, unhide HZ]; done), hu⟩
        · have ht : (K == 0) = false := by simp [hk0]
          have HK := hide (show decide (K = 0) = false from decide_eq_false hk0)
          go_wp2_with fail
          go_ret
          exact ⟨by first | rfl | (rw [unhide HT, unhide HZ, unhide HK]; rfl) | (simp [unhide HT, unhide HZ, hk0]; done), hu⟩
      · have hd : decide ((0 : Int) < k) = false := decide_eq_false h0
        have HZ := hide (show decide (0 < k) = false from decide_eq_false (by omega))
        go_wp2_with fail
        go_ret
        exact ⟨by first | rfl | (rw [unhide HT, unhide HZ]; rfl) | (rw [unhide HT]; rfl) | (simp [unhide HT, unhide HZ]; done), hu⟩
set_option maxRecDepth 100000 in
set_option maxHeartbeats 8000000 in
theorem p_hasTooMany (s : ByteArray) (A : Option Addr) (us : List Unt) (cap : Nat) (f t : Int) (w : World) (h : Unts w A us) (hn : us.length ≤ 9223372036854775807) :
    Calls Tryz.prog 77 #[veV s A us.length cap f t] w fun e w' => e = .returned (.bool (tmV us)) ∧ Up w w' := by
  have HA := hide h
  clear h
  unfold tmV
  obtain ⟨G, hG⟩ : ∃ G, us.any bigU = G := ⟨_, rfl⟩
  rw [hG]
  have HG := hide hG
  clear hG
  obtain ⟨n, hN⟩ : ∃ n, us.length = n := ⟨_, rfl⟩
  rw [hN] at hn ⊢
  have HN := hide hN
  clear hN
  by_cases g1 : (12 : Int) < n
  · have HD := hide (show decide (12 < n) = true from decide_eq_true (by omega))
    go_enter Tryz.func77, Tryz.ntmps77
    go_wp2_with fail
    go_ret
    exact ⟨by first | rfl | (rw [unhide HD]; rfl), (by repeat' (first | (with_reducible exact up_refl _) | (with_reducible assumption) | (with_reducible refine up_alloc ?_ _) | (with_reducible refine up_drewN ?_ _) | (with_reducible refine up_drew ?_) | (with_reducible refine up_set ?_ (by first | (simp; done) | (simp; omega) | omega) _) | (refine up_trans ?_ (by with_reducible assumption))))⟩
  have HD := hide (show decide (12 < n) = false from decide_eq_false (by omega))
  go_enter Tryz.func77, Tryz.ntmps77
  go_upto_region 1 with fail
  refine at_wp (fun W0 hW0 => ?_)
  have U0 : Up w W0 := by rw [hW0]; exact (by repeat' (first | (with_reducible exact up_refl _) | (with_reducible assumption) | (with_reducible refine up_alloc ?_ _) | (with_reducible refine up_drewN ?_ _) | (with_reducible refine up_drew ?_) | (with_reducible refine up_set ?_ (by first | (simp; done) | (simp; omega) | omega) _) | (refine up_trans ?_ (by with_reducible assumption))))
  have B0 : Bx W0 w.heap.size [.string s, .slice A n cap, .int .i64 f, .int .i64 t] := by rw [hW0]; exact bx_new w _ 70
  clear hW0
  have c1 := (B0 1 _ rfl).1
  go_wp2_with fail
  go_loopw [12] (fun i wr => ∃ k : Nat, k ≤ n ∧ i = .int .i64 k ∧ Up W0 wr ∧ Hid (us.any bigU = (us.drop k).any bigU)) (fun i _ => n - (intOf i).toNat)
  case atStart => exact ⟨0, by omega, rfl, up_refl _, rfl⟩
  case round =>
    obtain ⟨k, hk, rfl, hu, ho⟩ := hrel
    clear c1
    by_cases hlt : k < n
    · have hl : k < us.length := by rw [unhide HN]; exact hlt
      rcases unts_up (unhide HA) (up_trans U0 hu) with hnil | ⟨b, off, rfl, hc⟩
      · rw [hnil] at hl; simp at hl
      obtain ⟨d0, d1, d2, d3, d4, d5, d6, d7, d8, d9, d10, hX, hXn⟩ := hc k hl
      clear hc
      have HS := hide ((unhide ho).trans (any_step hl))
      have hq : bigU us[k] = decide (24 < us[k].xs.length) := rfl
      rw [hq] at HS
      have hwk : IntKind.i64.wrap ((k : Int) + 1) = (k : Int) + 1 := IntWalk.i64_in _ ⟨by omega, by omega⟩
      clear ho hX hq HA
      generalize us[k].kd = kd at *
      generalize us[k].le = le at *
      generalize us[k].be = be at *
      generalize us[k].fr = fr at *
      generalize us[k].re = re at *
      generalize us[k].wi = wi at *
      generalize us[k].he = he at *
      generalize us[k].ma = ma at *
      generalize us[k].st = st at *
      generalize us[k].mo = mo at *
      generalize us[k].A = XA at *
      generalize us[k].cap = xc at *
      generalize us[k].xs.length = xn at *
      by_cases g2 : (24 : Int) < xn
      · have HF := hide (show G = true by rw [← unhide HG, unhide HS, decide_eq_true (show 24 < xn by omega)]; rfl)
        go_wp2_with fail
        go_ret
        exact ⟨by first | rfl | (rw [unhide HF, Bool.or_true]; rfl) | (rw [unhide HF]; simp; done) | (rw [unhide HF, unhide HD]; rfl), (by repeat' (first | (with_reducible exact up_refl _) | (with_reducible assumption) | (with_reducible refine up_alloc ?_ _) | (with_reducible refine up_drewN ?_ _) | (with_reducible refine up_drew ?_) | (with_reducible refine up_set ?_ (by first | (simp; done) | (simp; omega) | omega) _) | (refine up_trans ?_ (by with_reducible assumption))))⟩
      · have HT := hide (show us.any bigU = (us.drop (k + 1)).any bigU by rw [unhide HS, decide_eq_false (show ¬ 24 < xn by omega)]; rfl)
        go_wp2_with fail
        go_roundw
        case rel => exact ⟨k + 1, by omega, by first | rfl | trivial | go_num, (by repeat' (first | (with_reducible exact up_refl _) | (with_reducible assumption) | (with_reducible refine up_alloc ?_ _) | (with_reducible refine up_drewN ?_ _) | (with_reducible refine up_drew ?_) | (with_reducible refine up_set ?_ (by first | (simp; done) | (simp; omega) | omega) _) | (refine up_trans ?_ (by with_reducible assumption)))), HT⟩
        case measure => simp [intOf]; omega
    · obtain rfl : k = n := by omega
      have HT := hide (show G = false by rw [← unhide HG, unhide ho, List.drop_of_length_le (by rw [unhide HN]; omega)]; rfl)
      go_wp2_with fail
      go_ret
      exact ⟨by first | rfl | (rw [unhide HT, unhide HD]; rfl) | (rw [unhide HT]; rfl), up_trans U0 hu⟩
/-- Which error a vehicle has. -/
def veE (s : ByteArray) (us : List Unt) (f t : Int) : Int := if tmV us = true then 6 else if nmS s && (auV us && (win f 0 t && decide (t < us.length))) then 0 else 2
set_option maxRecDepth 100000 in
set_option maxHeartbeats 8000000 in
theorem p_CheckV (s : ByteArray) (A : Option Addr) (us : List Unt) (cap : Nat) (f t : Int) (w : World) (h : Unts w A us) (hn : us.length ≤ 9223372036854775807) :
    Calls Tryz.prog 43 #[veV s A us.length cap f t] w fun e w' => e = .returned (.int .i64 (veE s us f t)) ∧ Up w w' := by
  have HT := hide (fun W (hW : Up w W) => p_hasTooMany s A us cap f t W (unts_up h hW) hn)
  have HU := hide (fun W (hW : Up w W) => p_areUnits A us cap W (unts_up h hW) hn)
  have HN := hide (fun W => p_IsName s W)
  have HW := hide (fun W => p_inC f 0 t W)
  unfold veE
  clear h
  generalize tmV us = q0 at *
  generalize nmS s = q1 at *
  generalize auV us = q2 at *
  generalize win f 0 t = q3 at *
  generalize us.length = n at *
  cases q0
  rotate_left
  · go_enter Tryz.func43, Tryz.ntmps43
    go_upto_region 1 with fail
    refine at_wp (fun W0 hW0 => ?_)
    have U0 : Up w W0 := by rw [hW0]; exact (by repeat' (first | (with_reducible exact up_refl _) | (with_reducible assumption) | (with_reducible refine up_alloc ?_ _) | (with_reducible refine up_drewN ?_ _) | (with_reducible refine up_drew ?_) | (with_reducible refine up_set ?_ (by first | (simp; done) | (simp; omega) | omega) _) | (refine up_trans ?_ (by with_reducible assumption))))
    have B0 : Bx W0 w.heap.size [.string s, .slice A n cap, .int .i64 f, .int .i64 t] := by rw [hW0]; exact bx_new w _ 70
    clear hW0
    have c0 := (B0 0 _ rfl).1
    have c1 := (B0 1 _ rfl).1
    have c2 := (B0 2 _ rfl).1
    have c3 := (B0 3 _ rfl).1
    go_wp2_with (first | (go_at_call 77; (with_reducible refine (unhide HT _ U0).mono ?_); rintro e w1 ⟨rfl, hb1⟩; have U1 := up_trans U0 hb1; have B1 := bx_up B0 hb1; have e0 := (B1 0 _ rfl).1; have e1 := (B1 1 _ rfl).1; have e2 := (B1 2 _ rfl).1; have e3 := (B1 3 _ rfl).1))
    go_ret
    exact ⟨by first | rfl | simp, U1⟩
  cases q1
  · go_enter Tryz.func43, Tryz.ntmps43
    go_upto_region 1 with fail
    refine at_wp (fun W0 hW0 => ?_)
    have U0 : Up w W0 := by rw [hW0]; exact (by repeat' (first | (with_reducible exact up_refl _) | (with_reducible assumption) | (with_reducible refine up_alloc ?_ _) | (with_reducible refine up_drewN ?_ _) | (with_reducible refine up_drew ?_) | (with_reducible refine up_set ?_ (by first | (simp; done) | (simp; omega) | omega) _) | (refine up_trans ?_ (by with_reducible assumption))))
    have B0 : Bx W0 w.heap.size [.string s, .slice A n cap, .int .i64 f, .int .i64 t] := by rw [hW0]; exact bx_new w _ 70
    clear hW0
    have c0 := (B0 0 _ rfl).1
    have c1 := (B0 1 _ rfl).1
    have c2 := (B0 2 _ rfl).1
    have c3 := (B0 3 _ rfl).1
    go_wp2_with (first | (go_at_call 77; (with_reducible refine (unhide HT _ U0).mono ?_); rintro e w1 ⟨rfl, hb1⟩; have U1 := up_trans U0 hb1; have B1 := bx_up B0 hb1; have e0 := (B1 0 _ rfl).1; have e1 := (B1 1 _ rfl).1; have e2 := (B1 2 _ rfl).1; have e3 := (B1 3 _ rfl).1) | (go_at_call 37; (with_reducible refine (unhide HN _).mono ?_); rintro e w2 ⟨rfl, hb2⟩; have U2 := up_trans U1 hb2; have B2 := bx_up B1 hb2; have g0 := (B2 0 _ rfl).1; have g1 := (B2 1 _ rfl).1; have g2 := (B2 2 _ rfl).1; have g3 := (B2 3 _ rfl).1))
    go_ret
    exact ⟨by first | rfl | simp, U2⟩
  cases q2
  · go_enter Tryz.func43, Tryz.ntmps43
    go_upto_region 1 with fail
    refine at_wp (fun W0 hW0 => ?_)
    have U0 : Up w W0 := by rw [hW0]; exact (by repeat' (first | (with_reducible exact up_refl _) | (with_reducible assumption) | (with_reducible refine up_alloc ?_ _) | (with_reducible refine up_drewN ?_ _) | (with_reducible refine up_drew ?_) | (with_reducible refine up_set ?_ (by first | (simp; done) | (simp; omega) | omega) _) | (refine up_trans ?_ (by with_reducible assumption))))
    have B0 : Bx W0 w.heap.size [.string s, .slice A n cap, .int .i64 f, .int .i64 t] := by rw [hW0]; exact bx_new w _ 70
    clear hW0
    have c0 := (B0 0 _ rfl).1
    have c1 := (B0 1 _ rfl).1
    have c2 := (B0 2 _ rfl).1
    have c3 := (B0 3 _ rfl).1
    go_wp2_with (first | (go_at_call 77; (with_reducible refine (unhide HT _ U0).mono ?_); rintro e w1 ⟨rfl, hb1⟩; have U1 := up_trans U0 hb1; have B1 := bx_up B0 hb1; have e0 := (B1 0 _ rfl).1; have e1 := (B1 1 _ rfl).1; have e2 := (B1 2 _ rfl).1; have e3 := (B1 3 _ rfl).1) | (go_at_call 37; (with_reducible refine (unhide HN _).mono ?_); rintro e w2 ⟨rfl, hb2⟩; have U2 := up_trans U1 hb2; have B2 := bx_up B1 hb2; have g0 := (B2 0 _ rfl).1; have g1 := (B2 1 _ rfl).1; have g2 := (B2 2 _ rfl).1; have g3 := (B2 3 _ rfl).1) | (go_at_call 78; (with_reducible refine (unhide HU _ U2).mono ?_); rintro e w3 ⟨rfl, hb3⟩; have U3 := up_trans U2 hb3; have B3 := bx_up B2 hb3; have i0 := (B3 0 _ rfl).1; have i1 := (B3 1 _ rfl).1; have i2 := (B3 2 _ rfl).1; have i3 := (B3 3 _ rfl).1))
    go_ret
    exact ⟨by first | rfl | simp, U3⟩
  cases q3
  · go_enter Tryz.func43, Tryz.ntmps43
    go_upto_region 1 with fail
    refine at_wp (fun W0 hW0 => ?_)
    have U0 : Up w W0 := by rw [hW0]; exact (by repeat' (first | (with_reducible exact up_refl _) | (with_reducible assumption) | (with_reducible refine up_alloc ?_ _) | (with_reducible refine up_drewN ?_ _) | (with_reducible refine up_drew ?_) | (with_reducible refine up_set ?_ (by first | (simp; done) | (simp; omega) | omega) _) | (refine up_trans ?_ (by with_reducible assumption))))
    have B0 : Bx W0 w.heap.size [.string s, .slice A n cap, .int .i64 f, .int .i64 t] := by rw [hW0]; exact bx_new w _ 70
    clear hW0
    have c0 := (B0 0 _ rfl).1
    have c1 := (B0 1 _ rfl).1
    have c2 := (B0 2 _ rfl).1
    have c3 := (B0 3 _ rfl).1
    go_wp2_with (first | (go_at_call 77; (with_reducible refine (unhide HT _ U0).mono ?_); rintro e w1 ⟨rfl, hb1⟩; have U1 := up_trans U0 hb1; have B1 := bx_up B0 hb1; have e0 := (B1 0 _ rfl).1; have e1 := (B1 1 _ rfl).1; have e2 := (B1 2 _ rfl).1; have e3 := (B1 3 _ rfl).1) | (go_at_call 37; (with_reducible refine (unhide HN _).mono ?_); rintro e w2 ⟨rfl, hb2⟩; have U2 := up_trans U1 hb2; have B2 := bx_up B1 hb2; have g0 := (B2 0 _ rfl).1; have g1 := (B2 1 _ rfl).1; have g2 := (B2 2 _ rfl).1; have g3 := (B2 3 _ rfl).1) | (go_at_call 78; (with_reducible refine (unhide HU _ U2).mono ?_); rintro e w3 ⟨rfl, hb3⟩; have U3 := up_trans U2 hb3; have B3 := bx_up B2 hb3; have i0 := (B3 0 _ rfl).1; have i1 := (B3 1 _ rfl).1; have i2 := (B3 2 _ rfl).1; have i3 := (B3 3 _ rfl).1) | (go_at_call 79; (with_reducible refine (unhide HW _).mono ?_); rintro e w4 ⟨rfl, rfl⟩))
    go_ret
    exact ⟨by first | rfl | simp, U3⟩
  by_cases g : t < (n : Int)
  · have gd : decide ((n : Int) ≤ t) = false := decide_eq_false (by omega)
    have gd2 : decide (t < (n : Int)) = true := decide_eq_true g
    go_enter Tryz.func43, Tryz.ntmps43
    go_upto_region 1 with fail
    refine at_wp (fun W0 hW0 => ?_)
    have U0 : Up w W0 := by rw [hW0]; exact (by repeat' (first | (with_reducible exact up_refl _) | (with_reducible assumption) | (with_reducible refine up_alloc ?_ _) | (with_reducible refine up_drewN ?_ _) | (with_reducible refine up_drew ?_) | (with_reducible refine up_set ?_ (by first | (simp; done) | (simp; omega) | omega) _) | (refine up_trans ?_ (by with_reducible assumption))))
    have B0 : Bx W0 w.heap.size [.string s, .slice A n cap, .int .i64 f, .int .i64 t] := by rw [hW0]; exact bx_new w _ 70
    clear hW0
    have c0 := (B0 0 _ rfl).1
    have c1 := (B0 1 _ rfl).1
    have c2 := (B0 2 _ rfl).1
    have c3 := (B0 3 _ rfl).1
    go_wp2_with (first | (go_at_call 77; (with_reducible refine (unhide HT _ U0).mono ?_); rintro e w1 ⟨rfl, hb1⟩; have U1 := up_trans U0 hb1; have B1 := bx_up B0 hb1; have e0 := (B1 0 _ rfl).1; have e1 := (B1 1 _ rfl).1; have e2 := (B1 2 _ rfl).1; have e3 := (B1 3 _ rfl).1) | (go_at_call 37; (with_reducible refine (unhide HN _).mono ?_); rintro e w2 ⟨rfl, hb2⟩; have U2 := up_trans U1 hb2; have B2 := bx_up B1 hb2; have g0 := (B2 0 _ rfl).1; have g1 := (B2 1 _ rfl).1; have g2 := (B2 2 _ rfl).1; have g3 := (B2 3 _ rfl).1) | (go_at_call 78; (with_reducible refine (unhide HU _ U2).mono ?_); rintro e w3 ⟨rfl, hb3⟩; have U3 := up_trans U2 hb3; have B3 := bx_up B2 hb3; have i0 := (B3 0 _ rfl).1; have i1 := (B3 1 _ rfl).1; have i2 := (B3 2 _ rfl).1; have i3 := (B3 3 _ rfl).1) | (go_at_call 79; (with_reducible refine (unhide HW _).mono ?_); rintro e w4 ⟨rfl, rfl⟩))
    go_ret
    exact ⟨by first | rfl | simp, U3⟩
  · have gd : decide ((n : Int) ≤ t) = true := decide_eq_true (by omega)
    have gd2 : decide (t < (n : Int)) = false := decide_eq_false g
    go_enter Tryz.func43, Tryz.ntmps43
    go_upto_region 1 with fail
    refine at_wp (fun W0 hW0 => ?_)
    have U0 : Up w W0 := by rw [hW0]; exact (by repeat' (first | (with_reducible exact up_refl _) | (with_reducible assumption) | (with_reducible refine up_alloc ?_ _) | (with_reducible refine up_drewN ?_ _) | (with_reducible refine up_drew ?_) | (with_reducible refine up_set ?_ (by first | (simp; done) | (simp; omega) | omega) _) | (refine up_trans ?_ (by with_reducible assumption))))
    have B0 : Bx W0 w.heap.size [.string s, .slice A n cap, .int .i64 f, .int .i64 t] := by rw [hW0]; exact bx_new w _ 70
    clear hW0
    have c0 := (B0 0 _ rfl).1
    have c1 := (B0 1 _ rfl).1
    have c2 := (B0 2 _ rfl).1
    have c3 := (B0 3 _ rfl).1
    go_wp2_with (first | (go_at_call 77; (with_reducible refine (unhide HT _ U0).mono ?_); rintro e w1 ⟨rfl, hb1⟩; have U1 := up_trans U0 hb1; have B1 := bx_up B0 hb1; have e0 := (B1 0 _ rfl).1; have e1 := (B1 1 _ rfl).1; have e2 := (B1 2 _ rfl).1; have e3 := (B1 3 _ rfl).1) | (go_at_call 37; (with_reducible refine (unhide HN _).mono ?_); rintro e w2 ⟨rfl, hb2⟩; have U2 := up_trans U1 hb2; have B2 := bx_up B1 hb2; have g0 := (B2 0 _ rfl).1; have g1 := (B2 1 _ rfl).1; have g2 := (B2 2 _ rfl).1; have g3 := (B2 3 _ rfl).1) | (go_at_call 78; (with_reducible refine (unhide HU _ U2).mono ?_); rintro e w3 ⟨rfl, hb3⟩; have U3 := up_trans U2 hb3; have B3 := bx_up B2 hb3; have i0 := (B3 0 _ rfl).1; have i1 := (B3 1 _ rfl).1; have i2 := (B3 2 _ rfl).1; have i3 := (B3 3 _ rfl).1) | (go_at_call 79; (with_reducible refine (unhide HW _).mono ?_); rintro e w4 ⟨rfl, rfl⟩))
    go_ret
    exact ⟨by first | rfl | simp, U3⟩
end Go.Proofs.YthifcalemhpmoaaGreat
