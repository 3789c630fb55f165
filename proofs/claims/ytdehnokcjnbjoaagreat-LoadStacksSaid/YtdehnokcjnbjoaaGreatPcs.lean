/- Slices of pieces and of eyes that are only read; the mass of pieces. -/
import Derived.Test.YtdehnokcjnbjoaaGreatRefPiece
namespace Go.Proofs.YtdehnokcjnbjoaaGreat
open Go.RowKit Go.Proofs.Gn
/-- The cells of a piece. -/
def PceAt (w : World) (b o : Nat) (p : Pce) : Prop :=
  w.cell? ⟨b, o, none⟩ = some (.int .i64 p.x) ∧ w.cell? ⟨b, o + 1, none⟩ = some (.int .i64 p.y) ∧ w.cell? ⟨b, o + 2, none⟩ = some (.int .i64 p.z) ∧ w.cell? ⟨b, o + 3, none⟩ = some (.int .i64 p.l) ∧ w.cell? ⟨b, o + 4, none⟩ = some (.int .i64 p.w) ∧ w.cell? ⟨b, o + 5, none⟩ = some (.int .i64 p.h) ∧ w.cell? ⟨b, o + 6, none⟩ = some (.int .i64 p.m)
theorem pceAt_up {w w' : World} {b o : Nat} {p : Pce} (h : PceAt w b o p) (hu : Up w w') : PceAt w' b o p :=
  ⟨up_cell hu h.1, up_cell hu h.2.1, up_cell hu h.2.2.1, up_cell hu h.2.2.2.1, up_cell hu h.2.2.2.2.1, up_cell hu h.2.2.2.2.2.1, up_cell hu h.2.2.2.2.2.2⟩
/-- The slice at A holds these pieces. -/
def Pcs (w : World) (A : Option Addr) (ps : List Pce) : Prop :=
  ps = [] ∨ ∃ b off, A = some ⟨b, off, none⟩ ∧ ∀ k (h : k < ps.length), PceAt w b (off + k * 7) ps[k]
theorem pcs_up {w w' : World} {A : Option Addr} {ps : List Pce} (h : Pcs w A ps) (hu : Up w w') : Pcs w' A ps := by
  rcases h with h | ⟨b, off, hA, hc⟩
  · exact .inl h
  · exact .inr ⟨b, off, hA, fun k hk => pceAt_up (hc k hk) hu⟩
/-- The cells of an eye. -/
def EyeAt (w : World) (b o : Nat) (p : Eye) : Prop :=
  w.cell? ⟨b, o, none⟩ = some (.int .i64 p.x) ∧ w.cell? ⟨b, o + 1, none⟩ = some (.int .i64 p.y) ∧ w.cell? ⟨b, o + 2, none⟩ = some (.int .i64 p.z) ∧ w.cell? ⟨b, o + 3, none⟩ = some (.int .i64 p.s)
theorem eyeAt_up {w w' : World} {b o : Nat} {p : Eye} (h : EyeAt w b o p) (hu : Up w w') : EyeAt w' b o p :=
  ⟨up_cell hu h.1, up_cell hu h.2.1, up_cell hu h.2.2.1, up_cell hu h.2.2.2⟩
/-- The slice at A holds these eyes. -/
def Eyes (w : World) (A : Option Addr) (ys : List Eye) : Prop :=
  ys = [] ∨ ∃ b off, A = some ⟨b, off, none⟩ ∧ ∀ k (h : k < ys.length), EyeAt w b (off + k * 4) ys[k]
theorem eyes_up {w w' : World} {A : Option Addr} {ys : List Eye} (h : Eyes w A ys) (hu : Up w w') : Eyes w' A ys := by
  rcases h with h | ⟨b, off, hA, hc⟩
  · exact .inl h
  · exact .inr ⟨b, off, hA, fun k hk => eyeAt_up (hc k hk) hu⟩
def okPs (ps : List Pce) : Bool := ps.all okP
def okYs (ys : List Eye) : Bool := ys.all okY
theorem all_atP {α : Type} {f : α → Bool} {l : List α} {k : Nat} (h : k < l.length) (hk : f l[k] = false) : l.all f = false := by
  rw [List.all_eq_false]
  exact ⟨l[k], List.getElem_mem h, by simp [hk]⟩
theorem all_take {α : Type} {f : α → Bool} {l : List α} {k : Nat} (h : k < l.length) (hk : (l.take k).all f = true) (h1 : f l[k] = true) : (l.take (k + 1)).all f = true := by
  rw [List.take_succ_eq_append_getElem h, List.all_append, hk]
  simp [h1]
theorem okPs_get {ps : List Pce} (h : okPs ps = true) {k : Nat} (hk : k < ps.length) : okP ps[k] = true := by
  unfold okPs at h
  exact List.all_eq_true.1 h _ (List.getElem_mem hk)
/-- The mass of pieces. -/
def mas : List Pce → Int
  | [] => 0
  | p :: ps => p.m + mas ps
theorem mas_append (a b : List Pce) : mas (a ++ b) = mas a + mas b := by
  induction a with
  | nil => simp [mas]
  | cons p a ih => simp only [List.cons_append, mas, ih]; omega
theorem mas_take {ps : List Pce} {k : Nat} (h : k < ps.length) : mas (ps.take (k + 1)) = mas (ps.take k) + ps[k].m := by
  rw [List.take_succ_eq_append_getElem h, mas_append]
  simp [mas]
theorem mas_bd {ps : List Pce} (h : okPs ps = true) (k : Nat) (hk : k ≤ ps.length) : 0 ≤ mas (ps.take k) ∧ mas (ps.take k) ≤ 16777216 * k := by
  induction k with
  | zero => simp [mas]
  | succ k ih =>
    have i := ih (by omega)
    have t := (okP_iff _).1 (okPs_get h (k := k) (by omega))
    unfold okPp at t
    rw [mas_take (by omega)]
    omega
set_option maxRecDepth 100000 in
set_option maxHeartbeats 4000000 in
theorem p_mass (A : Option Addr) (ps : List Pce) (cap : Nat) (w : World) (h : Pcs w A ps) (ho : okPs ps = true) (hn : ps.length ≤ 32) :
    Calls Tryz.prog 51 #[.slice A ps.length cap] w fun e w' => e = .returned (.int .i64 (mas ps)) ∧ Up w w' := by
  rcases h with rfl | ⟨b, off, rfl, hc⟩
  · go_enter Tryz.func51, Tryz.ntmps51
    go_wp2_with fail
    go_rounds 1
    go_ret
    exact ⟨rfl, (by repeat' (first | (with_reducible exact up_refl _) | (with_reducible assumption) | (with_reducible refine up_alloc ?_ _) | (with_reducible refine up_drewN ?_ _) | (with_reducible refine up_drew ?_) | (with_reducible refine up_set ?_ (by first | (simp; done) | (simp; omega) | omega) _) | (refine up_trans ?_ (by with_reducible assumption))))⟩
  have HC := hide hc
  have HO := hide ho
  clear hc ho
  obtain ⟨n, hN⟩ : ∃ n, ps.length = n := ⟨_, rfl⟩
  rw [hN] at hn ⊢
  have HN := hide hN
  clear hN
  go_enter Tryz.func51, Tryz.ntmps51
  go_wp2_with fail
  go_loopw [3, 8] (fun s i wr => ∃ k : Nat, k ≤ n ∧ s = .int .i64 (mas (ps.take k)) ∧ i = .int .i64 k ∧ Up w wr) (fun _ i _ => n - (intOf i).toNat)
  case atStart => exact ⟨0, by omega, rfl, rfl, (by repeat' (first | (with_reducible exact up_refl _) | (with_reducible assumption) | (with_reducible refine up_alloc ?_ _) | (with_reducible refine up_drewN ?_ _) | (with_reducible refine up_drew ?_) | (with_reducible refine up_set ?_ (by first | (simp; done) | (simp; omega) | omega) _) | (refine up_trans ?_ (by with_reducible assumption))))⟩
  case round =>
    obtain ⟨k, hk, rfl, rfl, hu⟩ := hrel
    by_cases hlt : k < n
    · have hl : k < ps.length := by rw [unhide HN]; exact hlt
      have hp := pceAt_up (unhide HC k hl) hu
      obtain ⟨d0, d1, d2, d3, d4, d5, d6⟩ := hp
      have bk := mas_bd (unhide HO) k (by rw [unhide HN]; exact hk)
      have bs := mas_bd (unhide HO) (k + 1) hl
      have ht := mas_take hl
      obtain ⟨S, hS⟩ : ∃ S, mas (ps.take k) = S := ⟨_, rfl⟩
      obtain ⟨m, hm⟩ : ∃ m, ps[k].m = m := ⟨_, rfl⟩
      rw [hS] at bk ht ⊢
      rw [hm] at d6 ht
      have HT := hide ht
      have hw1 : IntKind.i64.wrap (S + m) = S + m := IntWalk.i64_in _ ⟨by omega, by omega⟩
      have hw2 : IntKind.i64.wrap ((k : Int) + 1) = (k : Int) + 1 := IntWalk.i64_in _ ⟨by omega, by omega⟩
      clear bk bs ht hS hm
      go_wp2_with fail
      go_roundw
      case rel => exact ⟨k + 1, by omega, by rw [unhide HT], by first | rfl | trivial | go_num, (by repeat' (first | (with_reducible exact up_refl _) | (with_reducible assumption) | (with_reducible refine up_alloc ?_ _) | (with_reducible refine up_drewN ?_ _) | (with_reducible refine up_drew ?_) | (with_reducible refine up_set ?_ (by first | (simp; done) | (simp; omega) | omega) _) | (refine up_trans ?_ (by with_reducible assumption))))⟩
      case measure => simp [intOf]; omega
    · obtain rfl : k = n := by omega
      have hF : mas (ps.take k) = mas ps := by rw [List.take_of_length_le (by rw [unhide HN]; omega)]
      have HF := hide hF
      clear hF
      go_wp2_with fail
      go_ret
      exact ⟨by rw [← unhide HF]; rfl, hu⟩
end Go.Proofs.YtdehnokcjnbjoaaGreat
