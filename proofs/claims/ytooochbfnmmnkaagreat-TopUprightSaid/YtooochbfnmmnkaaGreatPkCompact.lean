/- The library's Compact at a list of points that the call itself has made: equal neighbours become one. The library's sort, reversal and copy at lists of points. The order of points: what compare returns. A stack of points without what is on its top as long as it does not turn to the left. Where a piece ends: the program's. A parameter that is a list of legs, opened. load's Check and Mass. load's allValid and Check. Slices of pieces and of eyes that are only read; the mass of pieces. The document's piece and eye: they take what load's isPiece takes. (genrefpiece.py) -/
import Derived.Test.YtooochbfnmmnkaaGreatPiece
import Derived.Test.YtooochbfnmmnkaaGreatName
import Derived.Test.YtooochbfnmmnkaaGreatPkOwn
import Derived.Deep.SlicePairs
import Derived.WideKeyArgs
import Derived.ProofKit
import Derived.OpenShut
import Derived.Lib.SmallJoins
import Derived.Test.YtooochbfnmmnkaaGreatPlat
import Derived.Test.YtooochbfnmmnkaaGreatSl
import Derived.Deep.DeepCutAuto
import Derived.Test.YtooochbfnmmnkaaGreatPt
import Derived.Sort.Grow
import Derived.StillTailTactics
import Derived.Test.YtooochbfnmmnkaaGreatShelf
import Derived.WalkLawsBesides
import Derived.WalkSpells
namespace Go.Proofs.YtooochbfnmmnkaaGreat
open Go.RowKit Go.Proofs.Gn
def okPp (p : Pce) : Prop := (-131072 ≤ p.x ∧ p.x ≤ 131072) ∧ (-131072 ≤ p.y ∧ p.y ≤ 131072) ∧ (0 ≤ p.z ∧ p.z ≤ 131072) ∧ 1 ≤ p.l ∧ 1 ≤ p.w ∧ 1 ≤ p.h ∧ p.l ≤ 131072 - p.x ∧ p.w ≤ 131072 - p.y ∧ p.h ≤ 131072 - p.z ∧ (0 ≤ p.m ∧ p.m ≤ 16777216)
theorem okP_iff (p : Pce) : okP p = true ↔ okPp p := by
  unfold okP okPp plcL
  simp only [Bool.and_eq_true, win_iff]
  constructor <;> (intro h; omega)
theorem okP_no {p : Pce} (h : ¬ okPp p) : okP p = false := Bool.eq_false_iff.2 fun t => h ((okP_iff p).1 t)
theorem okP_yes {p : Pce} (h : okPp p) : okP p = true := (okP_iff p).2 h
/-- An eye. -/
structure Eye where
  (x y z s : Int)
abbrev eyV (p : Eye) : Value := .agg #[.int .i64 p.x, .int .i64 p.y, .int .i64 p.z, .int .i64 p.s]
/-- Is an eye valid, alone? -/
def okY (p : Eye) : Bool := plcL p.x p.y p.z && win p.s 0 4194304
def okYp (p : Eye) : Prop := (-131072 ≤ p.x ∧ p.x ≤ 131072) ∧ (-131072 ≤ p.y ∧ p.y ≤ 131072) ∧ (0 ≤ p.z ∧ p.z ≤ 131072) ∧ (0 ≤ p.s ∧ p.s ≤ 4194304)
theorem okY_iff (p : Eye) : okY p = true ↔ okYp p := by
  unfold okY okYp plcL
  simp only [Bool.and_eq_true, win_iff]
  constructor <;> (intro h; omega)
theorem okY_no {p : Eye} (h : ¬ okYp p) : okY p = false := Bool.eq_false_iff.2 fun t => h ((okY_iff p).1 t)
theorem okY_yes {p : Eye} (h : okYp p) : okY p = true := (okY_iff p).2 h
end Go.Proofs.YtooochbfnmmnkaaGreat
namespace Go.Proofs.YtooochbfnmmnkaaGreat
open Go.RowKit Go.Proofs.Gn
/-- The cells of a piece. -/
def PceAt (w : World) (b o : Nat) (p : Pce) : Prop :=
  w.cell? ⟨b, o, none⟩ = some (.int .i64 p.x) ∧ w.cell? ⟨b, o + 1, none⟩ = some (.int .i64 p.y) ∧ w.cell? ⟨b, o + 2, none⟩ = some (.int .i64 p.z) ∧ w.cell? ⟨b, o + 3, none⟩ = some (.int .i64 p.l) ∧ w.cell? ⟨b, o + 4, none⟩ = some (.int .i64 p.w) ∧ w.cell? ⟨b, o + 5, none⟩ = some (.int .i64 p.h) ∧ w.cell? ⟨b, o + 6, none⟩ = some (.int .i64 p.m)
theorem pceAt_up {w w' : World} {b o : Nat} {p : Pce} (h : PceAt w b o p) (hu : Up w w') : PceAt w' b o p :=
  ⟨up_cell hu h.1, up_cell hu h.2.1, up_cell hu h.2.2.1, up_cell hu h.2.2.2.1, up_cell hu h.2.2.2.2.1, up_cell hu h.2.2.2.2.2.1, up_cell hu h.2.2.2.2.2.2⟩
/-- The slice at A holds these pieces. -/
def Pcs (w : World) (A : Option Addr) (ps : List Pce) : Prop :=
  ps = [] ∨ ∃ b off, A = some ⟨b, off, none⟩ ∧ ∀ k (h : k < ps.length), PceAt w b (off + k * 7) ps[k]
theorem pcs_up {w w' : World} {A : Option Addr} {ps : List Pce} (h : Pcs w A ps) (hu : Up w w') : Pcs w' A ps := by
  rcases h with h | ⟨b, off, hA, hc⟩
  · exact .inl h
  · exact .inr ⟨b, off, hA, fun k hk => pceAt_up (hc k hk) hu⟩
/-- The cells of an eye. -/
def EyeAt (w : World) (b o : Nat) (p : Eye) : Prop :=
  w.cell? ⟨b, o, none⟩ = some (.int .i64 p.x) ∧ w.cell? ⟨b, o + 1, none⟩ = some (.int .i64 p.y) ∧ w.cell? ⟨b, o + 2, none⟩ = some (.int .i64 p.z) ∧ w.cell? ⟨b, o + 3, none⟩ = some (.int .i64 p.s)
theorem eyeAt_up {w w' : World} {b o : Nat} {p : Eye} (h : EyeAt w b o p) (hu : Up w w') : EyeAt w' b o p :=
  ⟨up_cell hu h.1, up_cell hu h.2.1, up_cell hu h.2.2.1, up_cell hu h.2.2.2⟩
/-- The slice at A holds these eyes. -/
def Eyes (w : World) (A : Option Addr) (ys : List Eye) : Prop :=
  ys = [] ∨ ∃ b off, A = some ⟨b, off, none⟩ ∧ ∀ k (h : k < ys.length), EyeAt w b (off + k * 4) ys[k]
theorem eyes_up {w w' : World} {A : Option Addr} {ys : List Eye} (h : Eyes w A ys) (hu : Up w w') : Eyes w' A ys := by
  rcases h with h | ⟨b, off, hA, hc⟩
  · exact .inl h
  · exact .inr ⟨b, off, hA, fun k hk => eyeAt_up (hc k hk) hu⟩
def okPs (ps : List Pce) : Bool := ps.all okP
def okYs (ys : List Eye) : Bool := ys.all okY
theorem all_atP {α : Type} {f : α → Bool} {l : List α} {k : Nat} (h : k < l.length) (hk : f l[k] = false) : l.all f = false := by
  rw [List.all_eq_false]
  exact ⟨l[k], List.getElem_mem h, by simp [hk]⟩
theorem all_take {α : Type} {f : α → Bool} {l : List α} {k : Nat} (h : k < l.length) (hk : (l.take k).all f = true) (h1 : f l[k] = true) : (l.take (k + 1)).all f = true := by
  rw [List.take_succ_eq_append_getElem h, List.all_append, hk]
  simp [h1]
theorem okPs_get {ps : List Pce} (h : okPs ps = true) {k : Nat} (hk : k < ps.length) : okP ps[k] = true := by
  unfold okPs at h
  exact List.all_eq_true.1 h _ (List.getElem_mem hk)
/-- The mass of pieces. -/
def mas : List Pce → Int
  | [] => 0
  | p :: ps => p.m + mas ps
theorem mas_append (a b : List Pce) : mas (a ++ b) = mas a + mas b := by
  induction a with
  | nil => simp [mas]
  | cons p a ih => simp only [List.cons_append, mas, ih]; omega
theorem mas_take {ps : List Pce} {k : Nat} (h : k < ps.length) : mas (ps.take (k + 1)) = mas (ps.take k) + ps[k].m := by
  rw [List.take_succ_eq_append_getElem h, mas_append]
  simp [mas]
theorem mas_bd {ps : List Pce} (h : okPs ps = true) (k : Nat) (hk : k ≤ ps.length) : 0 ≤ mas (ps.take k) ∧ mas (ps.take k) ≤ 16777216 * k := by
  induction k with
  | zero => simp [mas]
  | succ k ih =>
    have i := ih (by omega)
    have t := (okP_iff _).1 (okPs_get h (k := k) (by omega))
    unfold okPp at t
    rw [mas_take (by omega)]
    omega
set_option maxRecDepth 100000 in
set_option maxHeartbeats 4000000 in
theorem p_mass (A : Option Addr) (ps : List Pce) (cap : Nat) (w : World) (h : Pcs w A ps) (ho : okPs ps = true) (hn : ps.length ≤ 32) :
    Calls Tryz.prog 24 #[.slice A ps.length cap] w fun e w' => e = .returned (.int .i64 (mas ps)) ∧ Up w w' := by
  rcases h with rfl | ⟨b, off, rfl, hc⟩
  · go_enter Tryz.func24, Tryz.ntmps24
    go_wp2_with fail
    go_rounds 1
    go_ret
    exact ⟨rfl, (by repeat' (first | (with_reducible exact up_refl _) | (with_reducible assumption) | (with_reducible refine up_alloc ?_ _) | (with_reducible refine up_drewN ?_ _) | (with_reducible refine up_drew ?_) | (with_reducible refine up_set ?_ (by first | (simp; done) | (simp; omega) | omega) _) | (refine up_trans ?_ (by with_reducible assumption))))⟩
  have HC := hide hc
  have HO := hide ho
  clear hc ho
  obtain ⟨n, hN⟩ : ∃ n, ps.length = n := ⟨_, rfl⟩
  rw [hN] at hn ⊢
  have HN := hide hN
  clear hN
  go_enter Tryz.func24, Tryz.ntmps24
  go_wp2_with fail
  go_loopw [3, 8] (fun s i wr => ∃ k : Nat, k ≤ n ∧ s = .int .i64 (mas (ps.take k)) ∧ i = .int .i64 k ∧ Up w wr) (fun _ i _ => n - (intOf i).toNat)
  case atStart => exact ⟨0, by omega, rfl, rfl, (by repeat' (first | (with_reducible exact up_refl _) | (with_reducible assumption) | (with_reducible refine up_alloc ?_ _) | (with_reducible refine up_drewN ?_ _) | (with_reducible refine up_drew ?_) | (with_reducible refine up_set ?_ (by first | (simp; done) | (simp; omega) | omega) _) | (refine up_trans ?_ (by with_reducible assumption))))⟩
  case round =>
    obtain ⟨k, hk, rfl, rfl, hu⟩ := hrel
    by_cases hlt : k < n
    · have hl : k < ps.length := by rw [unhide HN]; exact hlt
      have hp := pceAt_up (unhide HC k hl) hu
      obtain ⟨d0, d1, d2, d3, d4, d5, d6⟩ := hp
      have bk := mas_bd (unhide HO) k (by rw [unhide HN]; exact hk)
      have bs := mas_bd (unhide HO) (k + 1) hl
      have ht := mas_take hl
      obtain ⟨S, hS⟩ : ∃ S, mas (ps.take k) = S := ⟨_, rfl⟩
      obtain ⟨m, hm⟩ : ∃ m, ps[k].m = m := ⟨_, rfl⟩
      rw [hS] at bk ht ⊢
      rw [hm] at d6 ht
      have HT := hide ht
      have hw1 : IntKind.i64.wrap (S + m) = S + m := IntWalk.i64_in _ ⟨by omega, by omega⟩
      have hw2 : IntKind.i64.wrap ((k : Int) + 1) = (k : Int) + 1 := IntWalk.i64_in _ ⟨by omega, by omega⟩
      clear bk bs ht hS hm
      go_wp2_with fail
      go_roundw
      case rel => exact ⟨k + 1, by omega, by rw [unhide HT], by first | rfl | trivial | go_num, (by repeat' (first | (with_reducible exact up_refl _) | (with_reducible assumption) | (with_reducible refine up_alloc ?_ _) | (with_reducible refine up_drewN ?_ _) | (with_reducible refine up_drew ?_) | (with_reducible refine up_set ?_ (by first | (simp; done) | (simp; omega) | omega) _) | (refine up_trans ?_ (by with_reducible assumption))))⟩
      case measure => simp [intOf]; omega
    · obtain rfl : k = n := by omega
      have hF : mas (ps.take k) = mas ps := by rw [List.take_of_length_le (by rw [unhide HN]; omega)]
      have HF := hide hF
      clear hF
      go_wp2_with fail
      go_ret
      exact ⟨by rw [← unhide HF]; rfl, hu⟩
end Go.Proofs.YtooochbfnmmnkaaGreat
namespace Go.Proofs.YtooochbfnmmnkaaGreat
open Go.RowKit Go.Proofs.Gn
abbrev loV (s : ByteArray) (A : Option Addr) (n capA : Nat) (B : Option Addr) (m capB : Nat) (f : Int) : Value :=
  .agg #[.string s, .slice A n capA, .slice B m capB, .int .i64 f]
set_option maxRecDepth 100000 in
set_option maxHeartbeats 8000000 in
theorem p_allValid (s : ByteArray) (A : Option Addr) (ps : List Pce) (capA : Nat) (B : Option Addr) (ys : List Eye) (capB : Nat) (f : Int) (w : World) (hA : Pcs w A ps) (hB : Eyes w B ys) (hn : ps.length ≤ 32) (hm : ys.length ≤ 32) :
    Calls Tryz.prog 50 #[loV s A ps.length capA B ys.length capB f] w fun e w' => e = .returned (.bool (okPs ps && okYs ys)) ∧ Up w w' := by
  have HPI := hide (fun p W => p_isPiece p W)
  have HPL := hide (fun x y z W => p_isPlace x y z W)
  obtain ⟨n, hN⟩ : ∃ n, ps.length = n := ⟨_, rfl⟩
  obtain ⟨m, hM⟩ : ∃ n, ys.length = n := ⟨_, rfl⟩
  rw [hN] at hn ⊢
  rw [hM] at hm ⊢
  have HN := hide hN
  have HM := hide hM
  have HA := hide hA
  have HB := hide hB
  clear hN hM hA hB
  go_enter Tryz.func50, Tryz.ntmps50
  go_upto_region 1 with fail
  refine at_wp (fun W0 hW0 => ?_)
  have U0 : Up w W0 := by rw [hW0]; exact (by repeat' (first | (with_reducible exact up_refl _) | (with_reducible assumption) | (with_reducible refine up_alloc ?_ _) | (with_reducible refine up_drewN ?_ _) | (with_reducible refine up_drew ?_) | (with_reducible refine up_set ?_ (by first | (simp; done) | (simp; omega) | omega) _) | (refine up_trans ?_ (by with_reducible assumption))))
  have B0 : Bx W0 w.heap.size [.string s, .slice A n capA, .slice B m capB, .int .i64 f] := by rw [hW0]; exact bx_new w _ 27
  clear hW0
  have c1 := (B0 1 _ rfl).1
  go_wp2_with fail
  go_loopw [10] (fun i wr => ∃ k : Nat, k ≤ n ∧ i = .int .i64 k ∧ Up W0 wr ∧ okPs (ps.take k) = true) (fun i _ => n - (intOf i).toNat)
  case atStart => exact ⟨0, by omega, rfl, up_refl _, rfl⟩
  case round =>
    obtain ⟨k, hk, rfl, hu, ho⟩ := hrel
    have HO := hide ho
    clear ho c1
    have B1 := bx_up B0 hu
    by_cases hlt : k < n
    · have hl : k < ps.length := by rw [unhide HN]; exact hlt
      rcases pcs_up (unhide HA) (up_trans U0 hu) with hnil | ⟨b, off, rfl, hc⟩
      · rw [hnil] at hl; simp at hl
      obtain ⟨d0, d1, d2, d3, d4, d5, d6⟩ := hc k hl
      clear hc
      have HI := hide (fun W => unhide HPI ps[k] W)
      have HF := hide (fun h => all_atP (f := okP) hl h)
      have HT := hide (fun h => all_take (f := okP) hl (unhide HO) h)
      obtain ⟨q, hq⟩ : ∃ q, okP ps[k] = q := ⟨_, rfl⟩
      rw [hq] at HI HF HT
      clear hq
      obtain ⟨x, hx⟩ : ∃ x, ps[k].x = x := ⟨_, rfl⟩
      obtain ⟨y, hy⟩ : ∃ x, ps[k].y = x := ⟨_, rfl⟩
      obtain ⟨z, hz⟩ : ∃ x, ps[k].z = x := ⟨_, rfl⟩
      obtain ⟨l, hL⟩ : ∃ x, ps[k].l = x := ⟨_, rfl⟩
      obtain ⟨wd, hwd⟩ : ∃ x, ps[k].w = x := ⟨_, rfl⟩
      obtain ⟨h, hh⟩ : ∃ x, ps[k].h = x := ⟨_, rfl⟩
      obtain ⟨mm, hmm⟩ : ∃ x, ps[k].m = x := ⟨_, rfl⟩
      rw [hx] at d0; rw [hy] at d1; rw [hz] at d2; rw [hL] at d3; rw [hwd] at d4; rw [hh] at d5; rw [hmm] at d6
      have HI2 : Hid (∀ W, Calls Tryz.prog 79 #[.agg #[.int .i64 x, .int .i64 y, .int .i64 z, .int .i64 l, .int .i64 wd, .int .i64 h, .int .i64 mm]] W fun e w' => e = .returned (.bool q) ∧ Up W w') := by
        rw [← hx, ← hy, ← hz, ← hL, ← hwd, ← hh, ← hmm]; exact HI
      clear hx hy hz hL hwd hh hmm HI
      cases q
      · have HF2 := hide (show okPs ps = false from unhide HF rfl)
        clear HF HT
        go_wp2_with (go_at_call 79; (with_reducible refine (unhide HI2 _).mono ?_); rintro e w1 ⟨rfl, hb⟩)
        go_ret
        exact ⟨by rw [unhide HF2]; rfl, (by repeat' (first | (with_reducible exact up_refl _) | (with_reducible assumption) | (with_reducible refine up_alloc ?_ _) | (with_reducible refine up_drewN ?_ _) | (with_reducible refine up_drew ?_) | (with_reducible refine up_set ?_ (by first | (simp; done) | (simp; omega) | omega) _) | (refine up_trans ?_ (by with_reducible assumption))))⟩
      · have HT2 := hide (show okPs (ps.take (k + 1)) = true from unhide HT rfl)
        clear HF HT
        go_wp2_with (go_at_call 79; (with_reducible refine (unhide HI2 _).mono ?_); rintro e w1 ⟨rfl, hb⟩)
        go_roundw
        case rel => exact ⟨k + 1, by omega, by first | rfl | trivial | go_num, (by repeat' (first | (with_reducible exact up_refl _) | (with_reducible assumption) | (with_reducible refine up_alloc ?_ _) | (with_reducible refine up_drewN ?_ _) | (with_reducible refine up_drew ?_) | (with_reducible refine up_set ?_ (by first | (simp; done) | (simp; omega) | omega) _) | (refine up_trans ?_ (by with_reducible assumption)))), unhide HT2⟩
        case measure => simp [intOf]; omega
    · obtain rfl : k = n := by omega
      have HP := hide (show okPs ps = true by have t := unhide HO; rwa [List.take_of_length_le (by rw [unhide HN]; omega)] at t)
      have V1 := up_trans U0 hu
      have c2 := (B1 2 _ rfl).1
      clear HO hu HPI
      go_wp2_with fail
      obtain ⟨wo, hwo⟩ : ∃ wo, wo = wr := ⟨_, rfl⟩
      rw [← hwo] at V1 B1 c2 ⊢
      clear hwo
      go_loopw [21] (fun i wr => ∃ k : Nat, k ≤ m ∧ i = .int .i64 k ∧ Up wo wr ∧ okYs (ys.take k) = true) (fun i _ => m - (intOf i).toNat)
      case atStart => exact ⟨0, by omega, rfl, up_refl _, rfl⟩
      case round =>
        obtain ⟨j, hj, rfl, hu, ho⟩ := hrel
        have HO := hide ho
        have V2 := up_trans V1 hu
        clear ho c2
        by_cases hlt : j < m
        · have hl : j < ys.length := by rw [unhide HM]; exact hlt
          rcases eyes_up (unhide HB) V2 with hnil | ⟨b, off, rfl, hc⟩
          · rw [hnil] at hl; simp at hl
          obtain ⟨d0, d1, d2, d3⟩ := hc j hl
          clear hc
          have hy : okY ys[j] = (plcL ys[j].x ys[j].y ys[j].z && win ys[j].s 0 4194304) := rfl
          have HI := hide (fun W => unhide HPL ys[j].x ys[j].y ys[j].z W)
          have HW := hide (fun W => p_withinL ys[j].s 0 4194304 W)
          have HF := hide (fun h => all_atP (f := okY) hl h)
          have HT := hide (fun h => all_take (f := okY) hl (unhide HO) h)
          rw [hy] at HF HT
          clear hy
          generalize plcL ys[j].x ys[j].y ys[j].z = q at *
          generalize win ys[j].s 0 4194304 = r at *
          obtain ⟨x, hx⟩ : ∃ x, ys[j].x = x := ⟨_, rfl⟩
          obtain ⟨y, hy⟩ : ∃ x, ys[j].y = x := ⟨_, rfl⟩
          obtain ⟨z, hz⟩ : ∃ x, ys[j].z = x := ⟨_, rfl⟩
          obtain ⟨t, ht⟩ : ∃ x, ys[j].s = x := ⟨_, rfl⟩
          rw [hx] at d0 HI; rw [hy] at d1 HI; rw [hz] at d2 HI; rw [ht] at d3 HW
          clear hx hy hz ht
          cases q
          · have HF2 := hide (show okYs ys = false from unhide HF rfl)
            clear HF HT
            go_wp2_with (go_at_call 80; (with_reducible refine (unhide HI _).mono ?_); rintro e w1 ⟨rfl, hb⟩)
            go_ret
            exact ⟨by rw [unhide HF2, Bool.and_false]; rfl, (by repeat' (first | (with_reducible exact up_refl _) | (with_reducible assumption) | (with_reducible refine up_alloc ?_ _) | (with_reducible refine up_drewN ?_ _) | (with_reducible refine up_drew ?_) | (with_reducible refine up_set ?_ (by first | (simp; done) | (simp; omega) | omega) _) | (refine up_trans ?_ (by with_reducible assumption))))⟩
          cases r
          · have HF2 := hide (show okYs ys = false from unhide HF rfl)
            clear HF HT
            have KD : ∀ w1 : World, Up (wr.alloc (.cells #[.int .i64 x, .int .i64 y, .int .i64 z, .int .i64 t] 96)) w1 → w1.cell? ⟨wr.heap.size, 3, none⟩ = some (.int .i64 t) := fun w1 hb => (bx_up (bx_new wr [.int .i64 x, .int .i64 y, .int .i64 z, .int .i64 t] 96) hb 3 _ rfl).1
            have HKD := hide KD
            clear KD
            go_wp2_with (first | (go_at_call 80; (with_reducible refine (unhide HI _).mono ?_); rintro e w1 ⟨rfl, hb⟩; have kd := unhide HKD _ hb) | (go_at_call 49; (with_reducible refine (unhide HW _).mono ?_); rintro e w2 ⟨rfl, rfl⟩))
            go_ret
            exact ⟨by rw [unhide HF2, Bool.and_false]; rfl, (by repeat' (first | (with_reducible exact up_refl _) | (with_reducible assumption) | (with_reducible refine up_alloc ?_ _) | (with_reducible refine up_drewN ?_ _) | (with_reducible refine up_drew ?_) | (with_reducible refine up_set ?_ (by first | (simp; done) | (simp; omega) | omega) _) | (refine up_trans ?_ (by with_reducible assumption))))⟩
          · have HT2 := hide (show okYs (ys.take (j + 1)) = true from unhide HT rfl)
            clear HF HT
            have KD : ∀ w1 : World, Up (wr.alloc (.cells #[.int .i64 x, .int .i64 y, .int .i64 z, .int .i64 t] 96)) w1 → w1.cell? ⟨wr.heap.size, 3, none⟩ = some (.int .i64 t) := fun w1 hb => (bx_up (bx_new wr [.int .i64 x, .int .i64 y, .int .i64 z, .int .i64 t] 96) hb 3 _ rfl).1
            have HKD := hide KD
            clear KD
            go_wp2_with (first | (go_at_call 80; (with_reducible refine (unhide HI _).mono ?_); rintro e w1 ⟨rfl, hb⟩; have kd := unhide HKD _ hb) | (go_at_call 49; (with_reducible refine (unhide HW _).mono ?_); rintro e w2 ⟨rfl, rfl⟩))
            go_roundw
            case rel => exact ⟨j + 1, by omega, by first | rfl | trivial | go_num, (by repeat' (first | (with_reducible exact up_refl _) | (with_reducible assumption) | (with_reducible refine up_alloc ?_ _) | (with_reducible refine up_drewN ?_ _) | (with_reducible refine up_drew ?_) | (with_reducible refine up_set ?_ (by first | (simp; done) | (simp; omega) | omega) _) | (refine up_trans ?_ (by with_reducible assumption)))), unhide HT2⟩
            case measure => simp [intOf]; omega
        · obtain rfl : j = m := by omega
          have HY := hide (show okYs ys = true by have t := unhide HO; rwa [List.take_of_length_le (by rw [unhide HM]; omega)] at t)
          clear HO
          go_wp2_with fail
          go_ret
          exact ⟨by rw [unhide HP, unhide HY]; rfl, V2⟩
end Go.Proofs.YtooochbfnmmnkaaGreat
namespace Go.Proofs.YtooochbfnmmnkaaGreat
open Go.RowKit Go.Proofs.Gn
/-- Which error a load has. -/
def loE (s : ByteArray) (ps : List Pce) (ys : List Eye) (f : Int) : Int :=
  if 1 ≤ ps.length ∧ ps.length ≤ 32 ∧ ys.length ≤ 32 then
    (if nmS s = true ∧ win f 0 1000 = true ∧ (okPs ps && okYs ys) = true ∧ win (mas ps) 1 16777216 = true then 0 else 2)
  else 6
def loM (s : ByteArray) (ps : List Pce) (ys : List Eye) (f : Int) : Int := if loE s ps ys f = 0 then mas ps else 0
theorem loE_ok {s : ByteArray} {ps : List Pce} {ys : List Eye} {f : Int} (h : loE s ps ys f = 0) :
    (1 ≤ ps.length ∧ ps.length ≤ 32 ∧ ys.length ≤ 32) ∧ nmS s = true ∧ (0 ≤ f ∧ f ≤ 1000) ∧ okPs ps = true ∧ okYs ys = true ∧ 1 ≤ mas ps ∧ mas ps ≤ 16777216 := by
  unfold loE at h
  split at h
  · rename_i h1
    split at h
    · rename_i h2
      obtain ⟨a, b, c, d⟩ := h2
      rw [Bool.and_eq_true] at c
      exact ⟨h1, a, win_t b, c.1, c.2, win_t d⟩
    · cases h
  · cases h
theorem lo6 {s : ByteArray} {ps : List Pce} {ys : List Eye} {f : Int} (h : ¬ (1 ≤ ps.length ∧ ps.length ≤ 32 ∧ ys.length ≤ 32)) : loE s ps ys f = 6 := by
  unfold loE; rw [if_neg h]
theorem lo2 {s : ByteArray} {ps : List Pce} {ys : List Eye} {f : Int} (g : 1 ≤ ps.length ∧ ps.length ≤ 32 ∧ ys.length ≤ 32) (h : nmS s = false ∨ win f 0 1000 = false ∨ (okPs ps && okYs ys) = false ∨ win (mas ps) 1 16777216 = false) : loE s ps ys f = 2 := by
  unfold loE
  rw [if_pos g, if_neg]
  rintro ⟨a, b, c, d⟩
  rcases h with h | h | h | h <;> simp_all
theorem lo0 {s : ByteArray} {ps : List Pce} {ys : List Eye} {f : Int} (g : 1 ≤ ps.length ∧ ps.length ≤ 32 ∧ ys.length ≤ 32) (a : nmS s = true) (b : win f 0 1000 = true) (c : (okPs ps && okYs ys) = true) (d : win (mas ps) 1 16777216 = true) : loE s ps ys f = 0 := by
  unfold loE
  rw [if_pos g, if_pos ⟨a, b, c, d⟩]
set_option maxRecDepth 100000 in
set_option maxHeartbeats 8000000 in
theorem p_CheckL (s : ByteArray) (A : Option Addr) (ps : List Pce) (capA : Nat) (B : Option Addr) (ys : List Eye) (capB : Nat) (f : Int) (w : World) (hA : Pcs w A ps) (hB : Eyes w B ys) (hn : ps.length ≤ 9223372036854775807) (hm : ys.length ≤ 9223372036854775807) :
    Calls Tryz.prog 23 #[loV s A ps.length capA B ys.length capB f] w fun e w' => e = .returned (.int .i64 (loE s ps ys f)) ∧ Up w w' := by
  have HE6 := hide (lo6 (s := s) (ps := ps) (ys := ys) (f := f))
  have HE2 := hide (lo2 (s := s) (ps := ps) (ys := ys) (f := f))
  have HE0 := hide (lo0 (s := s) (ps := ps) (ys := ys) (f := f))
  have HV := hide (fun W (hW : Up w W) h1 h2 => p_allValid s A ps capA B ys capB f W (pcs_up hA hW) (eyes_up hB hW) h1 h2)
  have HM := hide (fun W (hW : Up w W) h1 h2 => p_mass A ps capA W (pcs_up hA hW) h1 h2)
  have HK := hide (fun (h : (okPs ps && okYs ys) = true) => (by rw [Bool.and_eq_true] at h; exact h.1 : okPs ps = true))
  have HNm := hide (fun W => p_IsName s W)
  have HF := hide (fun W => p_withinL f 0 1000 W)
  have HW := hide (fun W => p_withinL (mas ps) 1 16777216 W)
  clear hA hB
  generalize loE s ps ys f = E at *
  generalize nmS s = q0 at *
  generalize win f 0 1000 = q1 at *
  generalize (okPs ps && okYs ys) = q2 at *
  generalize win (mas ps) 1 16777216 = q3 at *
  generalize mas ps = S at *
  generalize ps.length = n at *
  generalize ys.length = m at *
  by_cases g1 : (1 : Int) ≤ n
  rotate_left
  · have F := hide (unhide HE6 (by omega))
    go_enter Tryz.func23, Tryz.ntmps23
    go_wp2_with fail
    go_ret
    exact ⟨by rw [unhide F]; rfl, (by repeat' (first | (with_reducible exact up_refl _) | (with_reducible assumption) | (with_reducible refine up_alloc ?_ _) | (with_reducible refine up_drewN ?_ _) | (with_reducible refine up_drew ?_) | (with_reducible refine up_set ?_ (by first | (simp; done) | (simp; omega) | omega) _) | (refine up_trans ?_ (by with_reducible assumption))))⟩
  by_cases g2 : 32 < (n : Int)
  · have F := hide (unhide HE6 (by omega))
    go_enter Tryz.func23, Tryz.ntmps23
    go_wp2_with fail
    go_ret
    exact ⟨by rw [unhide F]; rfl, (by repeat' (first | (with_reducible exact up_refl _) | (with_reducible assumption) | (with_reducible refine up_alloc ?_ _) | (with_reducible refine up_drewN ?_ _) | (with_reducible refine up_drew ?_) | (with_reducible refine up_set ?_ (by first | (simp; done) | (simp; omega) | omega) _) | (refine up_trans ?_ (by with_reducible assumption))))⟩
  by_cases g3 : 32 < (m : Int)
  · have F := hide (unhide HE6 (by omega))
    go_enter Tryz.func23, Tryz.ntmps23
    go_wp2_with fail
    go_ret
    exact ⟨by rw [unhide F]; rfl, (by repeat' (first | (with_reducible exact up_refl _) | (with_reducible assumption) | (with_reducible refine up_alloc ?_ _) | (with_reducible refine up_drewN ?_ _) | (with_reducible refine up_drew ?_) | (with_reducible refine up_set ?_ (by first | (simp; done) | (simp; omega) | omega) _) | (refine up_trans ?_ (by with_reducible assumption))))⟩
  have HG := hide (show 1 ≤ n ∧ n ≤ 32 ∧ m ≤ 32 by omega)
  cases q0
  · have F := hide (unhide HE2 (unhide HG) (.inl rfl))
    clear HE6 HE2 HE0 HV HM HK HF HW
    go_enter Tryz.func23, Tryz.ntmps23
    go_wp2_with (go_at_call 48; (with_reducible refine (unhide HNm _).mono ?_); rintro e w1 ⟨rfl, hb⟩)
    go_ret
    exact ⟨by rw [unhide F]; rfl, (by repeat' (first | (with_reducible exact up_refl _) | (with_reducible assumption) | (with_reducible refine up_alloc ?_ _) | (with_reducible refine up_drewN ?_ _) | (with_reducible refine up_drew ?_) | (with_reducible refine up_set ?_ (by first | (simp; done) | (simp; omega) | omega) _) | (refine up_trans ?_ (by with_reducible assumption))))⟩
  cases q1
  · have F := hide (unhide HE2 (unhide HG) (.inr (.inl rfl)))
    clear HE6 HE2 HE0 HV HM HK HW
    go_enter Tryz.func23, Tryz.ntmps23
    go_upto_region 1 with fail
    refine at_wp (fun W0 hW0 => ?_)
    have U0 : Up w W0 := by rw [hW0]; exact (by repeat' (first | (with_reducible exact up_refl _) | (with_reducible assumption) | (with_reducible refine up_alloc ?_ _) | (with_reducible refine up_drewN ?_ _) | (with_reducible refine up_drew ?_) | (with_reducible refine up_set ?_ (by first | (simp; done) | (simp; omega) | omega) _) | (refine up_trans ?_ (by with_reducible assumption))))
    have B0 : Bx W0 w.heap.size [.string s, .slice A n capA, .slice B m capB, .int .i64 f] := by rw [hW0]; exact bx_new w _ 27
    clear hW0
    have c0 := (B0 0 _ rfl).1
    have c1 := (B0 1 _ rfl).1
    have c2 := (B0 2 _ rfl).1
    go_wp2_with (first | (go_at_call 48; (with_reducible refine (unhide HNm _).mono ?_); rintro e w1 ⟨rfl, hb⟩; have c3 := (bx_up B0 hb 3 _ rfl).1) | (go_at_call 49; (with_reducible refine (unhide HF _).mono ?_); rintro e w2 ⟨rfl, rfl⟩))
    go_ret
    exact ⟨by rw [unhide F]; rfl, up_trans U0 hb⟩
  cases q2
  · have F := hide (unhide HE2 (unhide HG) (.inr (.inr (.inl rfl))))
    clear HE6 HE2 HE0 HM HK HW
    go_enter Tryz.func23, Tryz.ntmps23
    go_upto_region 1 with fail
    refine at_wp (fun W0 hW0 => ?_)
    have U0 : Up w W0 := by rw [hW0]; exact (by repeat' (first | (with_reducible exact up_refl _) | (with_reducible assumption) | (with_reducible refine up_alloc ?_ _) | (with_reducible refine up_drewN ?_ _) | (with_reducible refine up_drew ?_) | (with_reducible refine up_set ?_ (by first | (simp; done) | (simp; omega) | omega) _) | (refine up_trans ?_ (by with_reducible assumption))))
    have B0 : Bx W0 w.heap.size [.string s, .slice A n capA, .slice B m capB, .int .i64 f] := by rw [hW0]; exact bx_new w _ 27
    clear hW0
    have c0 := (B0 0 _ rfl).1
    have c1 := (B0 1 _ rfl).1
    have c2 := (B0 2 _ rfl).1
    have L1 := (unhide HG).2.1
    have L2 := (unhide HG).2.2
    have HL := hide (And.intro L1 L2)
    clear L1 L2
    go_upto_region 3 with fail
    go_wp2_with (first | (go_at_call 48; (with_reducible refine (unhide HNm _).mono ?_); rintro e w1 ⟨rfl, hb⟩; have B1 := bx_up B0 hb; have k0 := (B1 0 _ rfl).1; have k1 := (B1 1 _ rfl).1; have k2 := (B1 2 _ rfl).1; have k3 := (B1 3 _ rfl).1; have U1 := up_trans U0 hb) | (go_at_call 49; (with_reducible refine (unhide HF _).mono ?_); rintro e w2 ⟨rfl, rfl⟩) | (go_at_call 50; (with_reducible refine (unhide HV _ U1 (unhide HL).1 (unhide HL).2).mono ?_); rintro e w3 ⟨rfl, hb3⟩; have m1 := (bx_up B1 hb3 1 _ rfl).1; have U3 := up_trans U1 hb3))
    go_ret
    exact ⟨by rw [unhide F]; rfl, U3⟩
  have HOk := hide (unhide HK rfl)
  clear HK
  cases q3
  · have F := hide (unhide HE2 (unhide HG) (.inr (.inr (.inr rfl))))
    clear HE6 HE2 HE0
    go_enter Tryz.func23, Tryz.ntmps23
    go_upto_region 1 with fail
    refine at_wp (fun W0 hW0 => ?_)
    have U0 : Up w W0 := by rw [hW0]; exact (by repeat' (first | (with_reducible exact up_refl _) | (with_reducible assumption) | (with_reducible refine up_alloc ?_ _) | (with_reducible refine up_drewN ?_ _) | (with_reducible refine up_drew ?_) | (with_reducible refine up_set ?_ (by first | (simp; done) | (simp; omega) | omega) _) | (refine up_trans ?_ (by with_reducible assumption))))
    have B0 : Bx W0 w.heap.size [.string s, .slice A n capA, .slice B m capB, .int .i64 f] := by rw [hW0]; exact bx_new w _ 27
    clear hW0
    have c0 := (B0 0 _ rfl).1
    have c1 := (B0 1 _ rfl).1
    have c2 := (B0 2 _ rfl).1
    have L1 := (unhide HG).2.1
    have L2 := (unhide HG).2.2
    have HL := hide (And.intro L1 L2)
    clear L1 L2
    go_upto_region 3 with fail
    go_wp2_with (first | (go_at_call 48; (with_reducible refine (unhide HNm _).mono ?_); rintro e w1 ⟨rfl, hb⟩; have B1 := bx_up B0 hb; have k0 := (B1 0 _ rfl).1; have k1 := (B1 1 _ rfl).1; have k2 := (B1 2 _ rfl).1; have k3 := (B1 3 _ rfl).1; have U1 := up_trans U0 hb) | (go_at_call 49; (with_reducible refine (unhide HF _).mono ?_); rintro e w2 ⟨rfl, rfl⟩) | (go_at_call 50; (with_reducible refine (unhide HV _ U1 (unhide HL).1 (unhide HL).2).mono ?_); rintro e w3 ⟨rfl, hb3⟩; have m1 := (bx_up B1 hb3 1 _ rfl).1; have U3 := up_trans U1 hb3) | (go_at_call 24; (with_reducible refine (unhide HM _ U3 (unhide HOk) (unhide HL).1).mono ?_); rintro e w4 ⟨rfl, hb4⟩; have U4 := up_trans U3 hb4) | (go_at_call 49; (with_reducible refine (unhide HW _).mono ?_); rintro e w5 ⟨rfl, rfl⟩))
    go_ret
    exact ⟨by rw [unhide F]; rfl, U4⟩
  · have F := hide (unhide HE0 (unhide HG) rfl rfl rfl rfl)
    clear HE6 HE2 HE0
    go_enter Tryz.func23, Tryz.ntmps23
    go_upto_region 1 with fail
    refine at_wp (fun W0 hW0 => ?_)
    have U0 : Up w W0 := by rw [hW0]; exact (by repeat' (first | (with_reducible exact up_refl _) | (with_reducible assumption) | (with_reducible refine up_alloc ?_ _) | (with_reducible refine up_drewN ?_ _) | (with_reducible refine up_drew ?_) | (with_reducible refine up_set ?_ (by first | (simp; done) | (simp; omega) | omega) _) | (refine up_trans ?_ (by with_reducible assumption))))
    have B0 : Bx W0 w.heap.size [.string s, .slice A n capA, .slice B m capB, .int .i64 f] := by rw [hW0]; exact bx_new w _ 27
    clear hW0
    have c0 := (B0 0 _ rfl).1
    have c1 := (B0 1 _ rfl).1
    have c2 := (B0 2 _ rfl).1
    have L1 := (unhide HG).2.1
    have L2 := (unhide HG).2.2
    have HL := hide (And.intro L1 L2)
    clear L1 L2
    go_upto_region 3 with fail
    go_wp2_with (first | (go_at_call 48; (with_reducible refine (unhide HNm _).mono ?_); rintro e w1 ⟨rfl, hb⟩; have B1 := bx_up B0 hb; have k0 := (B1 0 _ rfl).1; have k1 := (B1 1 _ rfl).1; have k2 := (B1 2 _ rfl).1; have k3 := (B1 3 _ rfl).1; have U1 := up_trans U0 hb) | (go_at_call 49; (with_reducible refine (unhide HF _).mono ?_); rintro e w2 ⟨rfl, rfl⟩) | (go_at_call 50; (with_reducible refine (unhide HV _ U1 (unhide HL).1 (unhide HL).2).mono ?_); rintro e w3 ⟨rfl, hb3⟩; have m1 := (bx_up B1 hb3 1 _ rfl).1; have U3 := up_trans U1 hb3) | (go_at_call 24; (with_reducible refine (unhide HM _ U3 (unhide HOk) (unhide HL).1).mono ?_); rintro e w4 ⟨rfl, hb4⟩; have U4 := up_trans U3 hb4) | (go_at_call 49; (with_reducible refine (unhide HW _).mono ?_); rintro e w5 ⟨rfl, rfl⟩))
    go_ret
    exact ⟨by rw [unhide F]; rfl, U4⟩
set_option maxRecDepth 100000 in
theorem p_MassL (s : ByteArray) (A : Option Addr) (ps : List Pce) (capA : Nat) (B : Option Addr) (ys : List Eye) (capB : Nat) (f : Int) (w : World) (hA : Pcs w A ps) (hB : Eyes w B ys) (hn : ps.length ≤ 9223372036854775807) (hm : ys.length ≤ 9223372036854775807) :
    Calls Tryz.prog 10 #[loV s A ps.length capA B ys.length capB f] w fun e w' => e = .returned (.tuple #[.int .i64 (loM s ps ys f), .int .i64 (loE s ps ys f)]) ∧ Up w w' := by
  have HC := hide (fun W (hW : Up w W) => p_CheckL s A ps capA B ys capB f W (pcs_up hA hW) (eyes_up hB hW) hn hm)
  have HM := hide (fun W (hW : Up w W) (he : loE s ps ys f = 0) => p_mass A ps capA W (pcs_up hA hW) (loE_ok he).2.2.2.1 (loE_ok he).1.2.1)
  unfold loM
  clear hA hB
  generalize loE s ps ys f = E at *
  generalize mas ps = S at *
  generalize ps.length = n at *
  generalize ys.length = m at *
  go_enter Tryz.func10, Tryz.ntmps10
  go_upto_region 1 with fail
  refine at_wp (fun W0 hW0 => ?_)
  have U0 : Up w W0 := by rw [hW0]; exact (by repeat' (first | (with_reducible exact up_refl _) | (with_reducible assumption) | (with_reducible refine up_alloc ?_ _) | (with_reducible refine up_drewN ?_ _) | (with_reducible refine up_drew ?_) | (with_reducible refine up_set ?_ (by first | (simp; done) | (simp; omega) | omega) _) | (refine up_trans ?_ (by with_reducible assumption))))
  have B0 : Bx W0 w.heap.size [.string s, .slice A n capA, .slice B m capB, .int .i64 f] := by rw [hW0]; exact bx_new w _ 27
  clear hW0
  have c0 := (B0 0 _ rfl).1
  have c1 := (B0 1 _ rfl).1
  have c2 := (B0 2 _ rfl).1
  have c3 := (B0 3 _ rfl).1
  by_cases he : E = 0
  · subst he
    have HM2 := hide (fun W hW => unhide HM W hW rfl)
    clear HM
    go_wp2_with (first | (go_at_call 23; (with_reducible refine (unhide HC _ U0).mono ?_); rintro e w1 ⟨rfl, hb⟩; have k1 := (bx_up B0 hb 1 _ rfl).1; have U1 := up_trans U0 hb) | (go_at_call 24; (with_reducible refine (unhide HM2 _ U1).mono ?_); rintro e w2 ⟨rfl, hb2⟩))
    go_returns
    exact ⟨rfl, up_trans U1 hb2⟩
  · have t : (E == 0) = false := by simp [he]
    have HH := hide he
    clear he
    go_wp2_with (go_at_call 23; (with_reducible refine (unhide HC _ U0).mono ?_); rintro e w1 ⟨rfl, hb⟩; have k1 := (bx_up B0 hb 1 _ rfl).1; have U1 := up_trans U0 hb)
    go_returns
    exact ⟨by first | rfl | (rw [if_neg (unhide HH)]; rfl), U1⟩
end Go.Proofs.YtooochbfnmmnkaaGreat
namespace Go.Proofs.YtooochbfnmmnkaaGreat
open Go.RowKit Go.Proofs.Gn Go.ChangeShapes Go.WideShapes Go.Deep Go.Joins Go.ChangeAt
structure Lgg where
  (x y g : Int)
def okLgg (b : Lgg) : Prop := (-128 ≤ b.x ∧ b.x ≤ 127) ∧ (-128 ≤ b.y ∧ b.y ≤ 127) ∧ (0 ≤ b.g ∧ b.g ≤ 255)
def LggAt (w : World) (b o : Nat) (e : Lgg) : Prop := w.cell? ⟨b, o, none⟩ = some (.int .i8 e.x) ∧ w.cell? ⟨b, o + 1, none⟩ = some (.int .i8 e.y) ∧ w.cell? ⟨b, o + 2, none⟩ = some (.int .u8 e.g)
/-- Where legs lie. -/
def Lggs (w : World) (A : Option Addr) (bs : List Lgg) : Prop := bs = [] ∨ ∃ b off, A = some ⟨b, off, none⟩ ∧ ∀ k (h : k < bs.length), LggAt w b (off + k * 3) bs[k]
/-- Legs that are read, and their bounds. -/
def LgsOk (w : World) (A : Option Addr) (bs : List Lgg) : Prop := Lggs w A bs ∧ ∀ k (h : k < bs.length), okLgg bs[k]
instance : Inhabited Lgg := ⟨⟨0, 0, 0⟩⟩
theorem Tryz.laidOutLg : laidOutB Tryz.prog = true := by kernel_rfl
theorem Tryz.readLegs : Tryz.prog.readableRec 23 = true := by kernel_rfl
theorem Tryz.cellsLeg : Tryz.prog.cellsOf 60 = 3 := by kernel_rfl
theorem Tryz.cellsU8L : Tryz.prog.cellsOf 5 = 1 := by kernel_rfl
theorem Tryz.cellsI8L : Tryz.prog.cellsOf 58 = 1 := by kernel_rfl
theorem add_atG {a : Addr} (h : a.spot = none) (n : Nat) : a.add n = ⟨a.block, a.off + n, none⟩ := by
  obtain ⟨b, o, s⟩ := a
  subst h
  unfold Addr.add
  split
  · subst n; rfl
  · rfl
set_option maxRecDepth 100000 in
theorem legs_open {H : Type} {enc : TypeId × Value → H} {W : World} {base : Nat} {v : Value} {d : DataW H} {p : List MemPlace} (h : DataW.Trod enc Tryz.prog W base (fun _ => true) true 23 v d p) (hv : ∃ a len cap, v = .slice a len cap) :
    ∃ A bs cap, v = .slice A (List.length bs) cap ∧ LgsOk W A bs ∧ bs.length ≤ 9223372036854775807 := by
  obtain ⟨a0, len0, cap0, rfl⟩ := hv
  obtain ⟨fuel, hf⟩ := h
  simp only [Value.cells] at hf
  rcases open_slice Tryz.underlying23 hf with ⟨hc, _⟩ | ⟨a, len, cap, m, n, D, Pl, hc, hb, hl, hm, hmm, hx, hi⟩
  · simp only [List.cons.injEq, and_true] at hc
    exact ⟨none, [], 0, hc, ⟨.inl rfl, fun k hk => by simp at hk⟩, by simp⟩
  · simp only [List.cons.injEq, and_true] at hc
    have hlm : len ≤ m := by rw [hmm]; split <;> omega
    by_cases h0 : len = 0
    · subst h0
      exact ⟨some a, [], cap, by simpa using hc, ⟨.inl rfl, fun k hk => by simp at hk⟩, by simp⟩
    have hs : a.spot = none := by
      obtain ⟨cs', h1, h2⟩ := hi 0 (by omega)
      rw [Tryz.cellsLeg] at h1
      obtain ⟨_, hlen, hcell⟩ := World.cells?_some h1
      match cs', hlen with
      | [v0, v1, v2], _ =>
        have c0 := hcell 0 (by omega)
        simpa [Addr.add] using World.cell?_spot c0
    have each : ∀ i, i < len → ∃ s : Lgg, LggAt W a.block (a.off + i * 3) s ∧ okLgg s := by
      intro i hlt
      obtain ⟨cs', h1, h2⟩ := hi i (by omega)
      rw [Tryz.cellsLeg] at h1
      obtain ⟨_, hlen, hcell⟩ := World.cells?_some h1
      obtain ⟨xs, k, hk, hxy, _, hxl, hg⟩ := DataW.trod_struct Tryz.underlying60 h2
      match xs, hxl, cs', hlen with
      | [y0, y1, y2], _, [v0, v1, v2], _ =>
        have g0 := hg 0 _ rfl
        have g1 := hg 1 _ rfl
        have g2 := hg 2 _ rfl
        simp [Tryz.cellsU8L, Tryz.cellsI8L] at g0 g1 g2
        obtain ⟨x0, e0, _, w0⟩ := DataW.trod_int Tryz.underlying58 g0
        obtain ⟨x1, e1, _, w1⟩ := DataW.trod_int Tryz.underlying58 g1
        obtain ⟨x2, e2, _, w2⟩ := DataW.trod_int Tryz.underlying5 g2
        simp only [List.cons.injEq, and_true] at e0 e1 e2
        subst e0 e1 e2
        have c0 := hcell 0 (by omega)
        have c1 := hcell 1 (by omega)
        have c2 := hcell 2 (by omega)
        rw [add_add, add_atG hs] at c0 c1 c2
        exact ⟨⟨x0, x1, x2⟩, ⟨by simpa using c0, by simpa [Nat.add_assoc] using c1, by simpa [Nat.add_assoc] using c2⟩, ⟨bounds_i8 w0, bounds_i8 w1, bounds_u8 w2⟩⟩
    obtain ⟨q, hq⟩ := choose_lt each
    refine ⟨some a, (List.range len).map q, cap, by simpa using hc, ⟨?_, fun k hk => ?_⟩, by simp [maxLen] at hm ⊢; omega⟩
    · refine .inr ⟨a.block, a.off, by obtain ⟨_, _, _⟩ := a; subst hs; rfl, fun k hk => ?_⟩
      have hk2 : k < len := by simpa using hk
      have := (hq k hk2).1
      simpa using this
    · have hk2 : k < len := by simpa using hk
      have := (hq k hk2).2
      simpa using this
/-- The legs read as they did. -/
theorem legs_shut {H : Type} {enc : TypeId × Value → H} {W W' : World} {sp : Nat → Bool} {v : Value} {d : DataW H} {p : List MemPlace} (h : DataW.Trod enc Tryz.prog W 0 (fun _ => true) true 23 v d p) (hb : Below W.heap.size W W') (hlt : ∀ x ∈ p, x.block < W.heap.size) (hsp : ∀ x ∈ p, sp x.block = true) :
    DataW.Trod enc Tryz.prog W' 0 sp true 23 v d p :=
  WideElems.Trod_stays Tryz.laidOutLg Tryz.readLegs (of_decide_eq_true (by kernel_rfl)) h (fun x hx => hb.same (hlt x hx)) hsp
end Go.Proofs.YtooochbfnmmnkaaGreat
namespace Go.Proofs.YtooochbfnmmnkaaGreat
open Go.RowKit Go.Proofs.Gn
theorem bxm2 (W : World) (v1 v2 : List Value) (t1 t2 : TypeId) : Bx ((W.alloc (.cells v1.toArray t1)).alloc (.cells v2.toArray t2)) W.heap.size v1 ∧ Bx ((W.alloc (.cells v1.toArray t1)).alloc (.cells v2.toArray t2)) (W.heap.size + 1) v2 := by
  refine ⟨bx_alloc (bx_new W v1 t1) _, ?_⟩
  have := bx_new (W.alloc (.cells v1.toArray t1)) v2 t2
  rwa [sz1] at this
theorem bxm3 (W : World) (v1 v2 v3 : List Value) (t1 t2 t3 : TypeId) :
    Bx (((W.alloc (.cells v1.toArray t1)).alloc (.cells v2.toArray t2)).alloc (.cells v3.toArray t3)) W.heap.size v1 ∧ Bx (((W.alloc (.cells v1.toArray t1)).alloc (.cells v2.toArray t2)).alloc (.cells v3.toArray t3)) (W.heap.size + 1) v2 ∧ Bx (((W.alloc (.cells v1.toArray t1)).alloc (.cells v2.toArray t2)).alloc (.cells v3.toArray t3)) (W.heap.size + 1 + 1) v3 := by
  refine ⟨bx_alloc (bx_alloc (bx_new W v1 t1) _) _, ?_, ?_⟩
  · have := bx_new (W.alloc (.cells v1.toArray t1)) v2 t2
    rw [sz1] at this
    exact bx_alloc this _
  · have := bx_new ((W.alloc (.cells v1.toArray t1)).alloc (.cells v2.toArray t2)) v3 t3
    rw [sz1, sz1] at this
    exact this
set_option maxRecDepth 100000 in
set_option maxHeartbeats 4000000 in
theorem p_ends {x y z l wd h m : Int} (hp : okPp ⟨x, y, z, l, wd, h, m⟩) (w : World) :
    Calls Tryz.prog 51 #[.agg #[.int .i64 x, .int .i64 y, .int .i64 z, .int .i64 l, .int .i64 wd, .int .i64 h, .int .i64 m]] w fun e w' => e = .returned (.tuple #[.agg #[.int .i64 x, .int .i64 y, .int .i64 z], .agg #[.int .i64 (x + l), .int .i64 (y + wd), .int .i64 (z + h)]]) ∧ Up w w' := by
  unfold okPp at hp
  simp only at hp
  have hx : IntKind.i64.wrap (x + l) = x + l := IntWalk.i64_in _ ⟨by omega, by omega⟩
  have hy : IntKind.i64.wrap (y + wd) = y + wd := IntWalk.i64_in _ ⟨by omega, by omega⟩
  have hz : IntKind.i64.wrap (z + h) = z + h := IntWalk.i64_in _ ⟨by omega, by omega⟩
  clear hp
  go_enter Tryz.func51, Tryz.ntmps51
  go_upto_region 1 with fail
  refine at_wp (fun W0 hW0 => ?_)
  have t3 := bxm3 w [.int .i64 x, .int .i64 y, .int .i64 z, .int .i64 l, .int .i64 wd, .int .i64 h, .int .i64 m] [.int .i64 0, .int .i64 0, .int .i64 0] [.int .i64 0, .int .i64 0, .int .i64 0] 57 31 31
  have U0 : Up w W0 := by rw [hW0]; exact (by repeat' (first | (with_reducible exact up_refl _) | (with_reducible assumption) | (with_reducible refine up_alloc ?_ _) | (with_reducible refine up_drewN ?_ _) | (with_reducible refine up_drew ?_) | (with_reducible refine up_set ?_ (by first | (simp; done) | (simp; omega) | omega) _) | (refine up_trans ?_ (by with_reducible assumption))))
  have B0 : Bx W0 w.heap.size [.int .i64 x, .int .i64 y, .int .i64 z, .int .i64 l, .int .i64 wd, .int .i64 h, .int .i64 m] := by rw [hW0]; exact t3.1
  have R0 : Bx W0 (w.heap.size + 1) [.int .i64 0, .int .i64 0, .int .i64 0] := by rw [hW0]; exact t3.2.1
  have S0 : Bx W0 (w.heap.size + 1 + 1) [.int .i64 0, .int .i64 0, .int .i64 0] := by rw [hW0]; exact t3.2.2
  clear hW0 t3
  have c0 := (B0 0 _ rfl).1
  have c1 := (B0 1 _ rfl).1
  have c2 := (B0 2 _ rfl).1
  have c3 := (B0 3 _ rfl).1
  have c4 := (B0 4 _ rfl).1
  have c5 := (B0 5 _ rfl).1
  obtain ⟨p0, p1, p2⟩ := bx3 R0
  obtain ⟨f0, f1, f2⟩ := bxf3 R0
  obtain ⟨q0, q1, q2⟩ := bx3 S0
  obtain ⟨g0, g1, g2⟩ := bxf3 S0
  have HR := hide R0
  have HS := hide S0
  have HU := hide U0
  clear B0 R0 S0 U0
  go_wp2_with fail
  go_region_held3 (fun wx => wx.cell? ⟨w.heap.size, 0, none⟩ = some (.int .i64 x) ∧ wx.cell? ⟨w.heap.size, 1, none⟩ = some (.int .i64 y) ∧ wx.cell? ⟨w.heap.size, 2, none⟩ = some (.int .i64 z) ∧ wx.cell? ⟨w.heap.size, 3, none⟩ = some (.int .i64 l) ∧ wx.cell? ⟨w.heap.size, 4, none⟩ = some (.int .i64 wd) ∧ wx.cell? ⟨w.heap.size, 5, none⟩ = some (.int .i64 h)) ((go_split_ands; go_cell)) (fail)
  go_wp2_with fail
  rename_i hHeld
  clear hHeld
  obtain ⟨W9, hW9⟩ : ∃ W9 : World, W9 = ((((((W0.setCell ⟨w.heap.size + 1, 0, none⟩ (.int .i64 x)).setCell ⟨w.heap.size + 1, 1, none⟩ (.int .i64 y)).setCell ⟨w.heap.size + 1, 2, none⟩ (.int .i64 z)).setCell ⟨w.heap.size + 1 + 1, 0, none⟩ (.int .i64 (x + l))).setCell ⟨w.heap.size + 1 + 1, 1, none⟩ (.int .i64 (y + wd))).setCell ⟨w.heap.size + 1 + 1, 2, none⟩ (.int .i64 (z + h))).drew := ⟨_, rfl⟩
  rw [← hW9]
  have R9 : Bx W9 (w.heap.size + 1) [.int .i64 x, .int .i64 y, .int .i64 z] := by rw [hW9]; exact bx_drew (bx_far3 (bx_set3 (unhide HR)) (by omega))
  have S9 : Bx W9 (w.heap.size + 1 + 1) [.int .i64 (x + l), .int .i64 (y + wd), .int .i64 (z + h)] := by rw [hW9]; exact bx_drew (bx_set3 (bx_far3 (unhide HS) (by omega)))
  have U9 : Up w W9 := by rw [hW9]; have u := unhide HU; exact up_drew (up_set (up_set (up_set (up_set (up_set (up_set u (by simp) _) (by simp) _) (by simp) _) (by simp; omega) _) (by simp; omega) _) (by simp; omega) _)
  clear hW9 p0 p1 p2 q0 q1 q2 c0 c1 c2 c3 c4 c5 f0 f1 f2 g0 g1 g2
  obtain ⟨p0, p1, p2⟩ := bx3 R9
  obtain ⟨q0, q1, q2⟩ := bx3 S9
  refine bodyPost_ret (v := .tuple #[.agg #[.int .i64 x, .int .i64 y, .int .i64 z], .agg #[.int .i64 (x + l), .int .i64 (y + wd), .int .i64 (z + h)]]) (by simp [results, Tryz.results51, go_sem, p0, p1, p2, q0, q1, q2]) rfl ⟨rfl, U9⟩
end Go.Proofs.YtooochbfnmmnkaaGreat
namespace Go.Proofs.YtooochbfnmmnkaaGreat
open Go.RowKit Go.Proofs.Gn
/-- Far from the limits, all of them. -/
def BdL (ps : Pl) : Prop := ∀ p ∈ ps, Bd p.1 ∧ Bd p.2
theorem bdL_get {ps : Pl} (h : BdL ps) {k : Nat} (hk : k < ps.length) : Bd (Gx.g ps k).1 ∧ Bd (Gx.g ps k).2 := h _ (Gx.g_mem hk)
theorem pts_g {w : World} {b off : Nat} {ps : Pl} (hc : ∀ k (h : k < ps.length), w.cell? ⟨b, off + k * 2, none⟩ = some (.int .i64 ps[k].1) ∧ w.cell? ⟨b, off + k * 2 + 1, none⟩ = some (.int .i64 ps[k].2)) {k : Nat} (hk : k < ps.length) :
    w.cell? ⟨b, off + k * 2, none⟩ = some (.int .i64 (Gx.g ps k).1) ∧ w.cell? ⟨b, off + k * 2 + 1, none⟩ = some (.int .i64 (Gx.g ps k).2) := by
  rw [Gx.g_eq hk]
  exact hc k hk
theorem det_dt (a b c : Int × Int) : det a.1 a.2 b.1 b.2 c.1 c.2 = Gx.dt a b c := rfl
theorem cmp_le (d : Int) : decide (cmpV d 0 ≤ 0) = decide (d ≤ 0) := by
  unfold cmpV
  rw [Bool.eq_iff_iff]
  simp only [decide_eq_true_eq]
  split
  · omega
  · split <;> omega
theorem p_off0 (A : Option Addr) (n : Nat) (cap : Nat) (p : Addr) (w : World) (h : n < 2) :
    Calls Tryz.prog 101 #[.slice A n cap, .pointer (some p)] w fun e w' => e = .returned (.bool false) ∧ Up w w' := by
  have h1 : (n : Int) < 2 := by omega
  have h2 : decide ((2 : Int) ≤ (n : Int)) = false := by simp; omega
  go_enter Tryz.func101, Tryz.ntmps101
  go_wp2_with fail
  go_quiet (fail)
  all_goals go_wp2_with fail
  all_goals go_ret
  all_goals exact ⟨rfl, (by repeat' (first | (with_reducible exact up_refl _) | (with_reducible assumption) | (with_reducible refine up_alloc ?_ _) | (with_reducible refine up_drewN ?_ _) | (with_reducible refine up_drew ?_) | (with_reducible refine up_set ?_ (by first | (simp; done) | (simp; omega) | omega) _) | (refine up_trans ?_ (by with_reducible assumption))))⟩
set_option maxHeartbeats 1000000 in
theorem p_off2 (b off : Nat) (ps : Pl) (cap : Nat) (pb : Nat) (x y : Int) (w : World) (hc : ∀ k (h : k < ps.length), w.cell? ⟨b, off + k * 2, none⟩ = some (.int .i64 ps[k].1) ∧ w.cell? ⟨b, off + k * 2 + 1, none⟩ = some (.int .i64 ps[k].2))
    (hx : w.cell? ⟨pb, 0, none⟩ = some (.int .i64 x)) (hy : w.cell? ⟨pb, 1, none⟩ = some (.int .i64 y)) (n : Nat) (hn : ps.length = n + 2) (h63 : n + 2 ≤ 9223372036854775807) (hb : BdL ps) (bx : Bd x) (b_y : Bd y) :
    Calls Tryz.prog 101 #[.slice (some ⟨b, off, none⟩) ((n + 2 : Nat)) cap, .pointer (some ⟨pb, 0, none⟩)] w fun e w' => e = .returned (.bool (decide (Gx.dt (Gx.g ps n) (Gx.g ps (n + 1)) (x, y) ≤ 0))) ∧ Up w w' := by
  obtain ⟨a0, a1⟩ := pts_g hc (k := n) (by omega)
  obtain ⟨b0, b1⟩ := pts_g hc (k := n + 1) (by omega)
  have ba := bdL_get hb (k := n) (by omega)
  have bb := bdL_get hb (k := n + 1) (by omega)
  obtain ⟨P, hP⟩ : ∃ P, Gx.g ps n = P := ⟨_, rfl⟩
  obtain ⟨Q, hQ⟩ : ∃ P, Gx.g ps (n + 1) = P := ⟨_, rfl⟩
  rw [hP] at a0 a1 ba ⊢
  rw [hQ] at b0 b1 bb ⊢
  obtain ⟨p1, p2⟩ := P
  obtain ⟨q1, q2⟩ := Q
  simp only at a0 a1 b0 b1 ba bb
  have PT : ∀ W : World, Calls Tryz.prog 102 #[pt p1 p2, pt q1 q2, pt x y] W fun e w' => e = .returned (.int .i64 (cmpV (det p1 p2 q1 q2 x y) 0)) ∧ Up W w' := fun W => p_turn p1 p2 q1 q2 x y W ba.1 ba.2 bb.1 bb.2 bx b_y
  have hd : decide (cmpV (det p1 p2 q1 q2 x y) 0 ≤ 0) = decide (Gx.dt (p1, p2) (q1, q2) (x, y) ≤ 0) := cmp_le _
  obtain ⟨T, hT⟩ : ∃ T, cmpV (det p1 p2 q1 q2 x y) 0 = T := ⟨_, rfl⟩
  rw [hT] at hd PT
  obtain ⟨D, hD⟩ : ∃ D, decide (Gx.dt (p1, p2) (q1, q2) (x, y) ≤ 0) = D := ⟨_, rfl⟩
  rw [hD] at hd ⊢
  have HPT := hide PT
  clear PT hP hQ hT hD hc hn hb ba bb bx b_y
  have k1 : (2 : Int) ≤ ((n + 2 : Nat) : Int) := by omega
  have k2 : decide ((2 : Int) ≤ ((n + 2 : Nat) : Int)) = true := by simp; omega
  have k3 : IntKind.i64.wrap (((n + 2 : Nat) : Int) - 2) = (n : Int) := by rw [IntWalk.i64_in _ ⟨by omega, by omega⟩]; omega
  have k4 : IntKind.i64.wrap (((n + 2 : Nat) : Int) - 1) = ((n + 1 : Nat) : Int) := by rw [IntWalk.i64_in _ ⟨by omega, by omega⟩]; omega
  have k5 : (n : Int) < ((n + 2 : Nat) : Int) := by omega
  have k6 : ((n + 1 : Nat) : Int) < ((n + 2 : Nat) : Int) := by omega
  obtain ⟨N, hN⟩ : ∃ N : Nat, N = n + 2 := ⟨_, rfl⟩
  obtain ⟨M, hM⟩ : ∃ M : Nat, M = n + 1 := ⟨_, rfl⟩
  rw [← hN] at k1 k2 k3 k4 k5 k6 ⊢
  rw [← hM] at k4 k6 b0 b1
  clear hN hM
  go_enter Tryz.func101, Tryz.ntmps101
  go_wp2_with fail
  go_region_held3 (fun wx => wx.cell? ⟨b, off + n * 2, none⟩ = some (.int .i64 p1) ∧ wx.cell? ⟨b, off + n * 2 + 1, none⟩ = some (.int .i64 p2) ∧ wx.cell? ⟨b, off + M * 2, none⟩ = some (.int .i64 q1) ∧ wx.cell? ⟨b, off + M * 2 + 1, none⟩ = some (.int .i64 q2) ∧ wx.cell? ⟨pb, 0, none⟩ = some (.int .i64 x) ∧ wx.cell? ⟨pb, 1, none⟩ = some (.int .i64 y) ∧ Up w wx)
    ((first | exact ⟨a0, a1, b0, b1, hx, hy, up_drew (up_refl _)⟩ | (with_reducible assumption) | exact ⟨up_cell hb3 a0, up_cell hb3 a1, up_cell hb3 b0, up_cell hb3 b1, up_cell hb3 hx, up_cell hb3 hy, (by repeat' (first | (with_reducible exact up_refl _) | (with_reducible assumption) | (with_reducible refine up_alloc ?_ _) | (with_reducible refine up_drewN ?_ _) | (with_reducible refine up_drew ?_) | (with_reducible refine up_set ?_ (by first | (simp; done) | (simp; omega) | omega) _) | (refine up_trans ?_ (by with_reducible assumption))))⟩))
    (first | (go_at_call 102; (with_reducible refine (unhide HPT _).mono ?_); rintro e w3 ⟨rfl, hb3⟩))
  go_wp2
  go_ret
  exact ⟨rfl, (by repeat' (first | (with_reducible exact up_refl _) | (with_reducible assumption) | (with_reducible refine up_alloc ?_ _) | (with_reducible refine up_drewN ?_ _) | (with_reducible refine up_drew ?_) | (with_reducible refine up_set ?_ (by first | (simp; done) | (simp; omega) | omega) _) | (refine up_trans ?_ (by with_reducible assumption))))⟩
/-- What is left of a stack. -/
def leftS (p : Int × Int) (ps : Pl) : Pl := (Gx.popS p ps.reverse).reverse
theorem leftS_prefix (p : Int × Int) (ps : Pl) : leftS p ps <+: ps := by
  have := Gx.pop_suffix p ps.reverse
  unfold leftS
  rw [← List.reverse_suffix, List.reverse_reverse]
  exact this
theorem leftS_short {p : Int × Int} {ps : Pl} (h : ps.length < 2) : leftS p ps = ps := by
  match ps, h with
  | [], _ => rfl
  | [_], _ => rfl
theorem leftS_step {p : Int × Int} {ps : Pl} {n : Nat} (h : ps.length = n + 2) : leftS p ps = if Gx.dt (Gx.g ps n) (Gx.g ps (n + 1)) p ≤ 0 then leftS p (ps.take (n + 1)) else ps := by
  obtain ⟨r, rfl⟩ : ∃ r, ps = r.reverse := ⟨ps.reverse, by simp⟩
  match r, h with
  | b :: a :: t, h =>
    have ht : t.length = n := by simpa using h
    have e1 : Gx.g (b :: a :: t).reverse n = a := by
      rw [Gx.g_eq (by simp; omega)]
      simp [ht]
    have e2 : Gx.g (b :: a :: t).reverse (n + 1) = b := by
      rw [Gx.g_eq (by simp; omega)]
      simp [ht]
    have e3 : (b :: a :: t).reverse.take (n + 1) = (a :: t).reverse := by
      rw [List.reverse_cons, List.take_append_of_le_length (by simp; omega), List.take_of_length_le (by simp; omega)]
    rw [e1, e2, e3]
    unfold leftS
    rw [List.reverse_reverse, List.reverse_reverse]
    conv => lhs; unfold Gx.popS
    split <;> rfl
set_option maxHeartbeats 1000000 in
theorem p_drop (g : Nat) (ps : Pl) (cap : Nat) (pb : Nat) (x y : Int) (w : World) (hc : ∀ k (h : k < ps.length), w.cell? ⟨g, 0 + k * 2, none⟩ = some (.int .i64 ps[k].1) ∧ w.cell? ⟨g, 0 + k * 2 + 1, none⟩ = some (.int .i64 ps[k].2))
    (hx : w.cell? ⟨pb, 0, none⟩ = some (.int .i64 x)) (hy : w.cell? ⟨pb, 1, none⟩ = some (.int .i64 y)) (hcap : ps.length ≤ cap) (h63 : cap ≤ 9223372036854775807) (hb : BdL ps) (bx : Bd x) (b_y : Bd y) :
    Calls Tryz.prog 100 #[.slice (some ⟨g, 0, none⟩) ps.length cap, .func (.func 101) #[] #[.pointer (some ⟨pb, 0, none⟩)]] w fun e w' => e = .returned (.slice (some ⟨g, 0, none⟩) (leftS (x, y) ps).length cap) ∧ Up w w' := by
  obtain ⟨N, hN⟩ : ∃ N, ps.length = N := ⟨_, rfl⟩
  rw [hN] at hcap ⊢
  have HC := hide hc
  have HN := hide hN
  have HB := hide hb
  clear hc hN hb
  go_enter Tryz.func100, Tryz.ntmps100
  go_wp2_with fail
  go_loopw [0] (fun v wr => ∃ m : Nat, m ≤ N ∧ v = .slice (some ⟨g, 0, none⟩) m cap ∧ Up w wr ∧ leftS (x, y) (ps.take m) = leftS (x, y) ps) (fun v _ => match v with | .slice _ n _ => n | _ => 0)
  case atStart => exact ⟨N, Nat.le_refl _, rfl, up_refl _, by rw [List.take_of_length_le (by rw [unhide HN]; exact Nat.le_refl _)]⟩
  case round =>
    obtain ⟨m, hm, rfl, hu, hl⟩ := hrel
    have hlen : (ps.take m).length = m := by rw [List.length_take, unhide HN]; omega
    have hcm : ∀ k (h : k < (ps.take m).length), wr.cell? ⟨g, 0 + k * 2, none⟩ = some (.int .i64 (ps.take m)[k].1) ∧ wr.cell? ⟨g, 0 + k * 2 + 1, none⟩ = some (.int .i64 (ps.take m)[k].2) := fun k h => by
      rw [List.getElem_take]
      have := unhide HC k (by rw [unhide HN]; omega)
      exact ⟨up_cell hu this.1, up_cell hu this.2⟩
    have hbm : BdL (ps.take m) := fun p hp => unhide HB p (List.mem_of_mem_take hp)
    have HL := hide hl
    have hx' := up_cell hu hx
    have hy' := up_cell hu hy
    by_cases h2 : m < 2
    · have e : (leftS (x, y) ps).length = m := by rw [← unhide HL, leftS_short (by omega), hlen]
      have HE := hide e
      clear e hcm hbm hlen hl
      go_wp2_with (go_at_call 101; refine (p_off0 _ _ _ _ _ h2).mono ?_; rintro e w1 ⟨rfl, hb1⟩)
      go_ret
      refine ⟨?_, (by repeat' (first | (with_reducible exact up_refl _) | (with_reducible assumption) | (with_reducible refine up_alloc ?_ _) | (with_reducible refine up_drewN ?_ _) | (with_reducible refine up_drew ?_) | (with_reducible refine up_set ?_ (by first | (simp; done) | (simp; omega) | omega) _) | (refine up_trans ?_ (by with_reducible assumption))))⟩
      rw [unhide HE]; rfl
    · obtain ⟨n, hn⟩ : ∃ n, m = n + 2 := ⟨m - 2, by omega⟩
      have hstep := leftS_step (p := (x, y)) (ps := ps.take m) (n := n) (by rw [hlen]; exact hn)
      have hoff := p_off2 g 0 (ps.take m) cap pb x y wr hcm hx' hy' n (by rw [hlen]; exact hn) (by omega) hbm bx b_y
      rw [← hn] at hoff
      have et : (ps.take m).take (n + 1) = ps.take (n + 1) := by rw [List.take_take, Nat.min_eq_left (by omega)]
      rw [et] at hstep
      by_cases hd : Gx.dt (Gx.g (ps.take m) n) (Gx.g (ps.take m) (n + 1)) (x, y) ≤ 0
      · rw [if_pos hd] at hstep
        rw [decide_eq_true hd] at hoff
        have hl2 : leftS (x, y) (ps.take (n + 1)) = leftS (x, y) ps := by rw [← hstep]; exact unhide HL
        have HL2 := hide hl2
        have HO := hide hoff
        have e1 : IntKind.i64.wrap ((m : Int) - 1) = ((n + 1 : Nat) : Int) := by rw [IntWalk.i64_in _ ⟨by omega, by omega⟩]; omega
        have e2 : ((n + 1 : Nat) : Int) ≤ (cap : Int) := by omega
        have e3 : n + 1 ≤ cap := by omega
        obtain ⟨M, hM⟩ : ∃ M : Nat, M = n + 1 := ⟨_, rfl⟩
        rw [← hM] at e1 e2 e3 HL2
        have e4 : M < m := by omega
        have e5 : M ≤ N := by omega
        clear hstep hoff hd et hcm hbm hlen hl hl2 hn hM h2
        go_wp2_with (go_at_call 101; refine (unhide HO).mono ?_; rintro e w1 ⟨rfl, hb1⟩)
        go_roundw
        case rel => exact ⟨M, e5, rfl, (by repeat' (first | (with_reducible exact up_refl _) | (with_reducible assumption) | (with_reducible refine up_alloc ?_ _) | (with_reducible refine up_drewN ?_ _) | (with_reducible refine up_drew ?_) | (with_reducible refine up_set ?_ (by first | (simp; done) | (simp; omega) | omega) _) | (refine up_trans ?_ (by with_reducible assumption)))), unhide HL2⟩
        case measure => exact e4
      · rw [if_neg hd] at hstep
        rw [decide_eq_false hd] at hoff
        have e : (leftS (x, y) ps).length = m := by rw [← unhide HL, hstep, hlen]
        have HE := hide e
        have HO := hide hoff
        clear e hcm hbm hlen hl hstep hoff hd et hn h2
        go_wp2_with (go_at_call 101; refine (unhide HO).mono ?_; rintro e w1 ⟨rfl, hb1⟩)
        go_ret
        refine ⟨?_, (by repeat' (first | (with_reducible exact up_refl _) | (with_reducible assumption) | (with_reducible refine up_alloc ?_ _) | (with_reducible refine up_drewN ?_ _) | (with_reducible refine up_drew ?_) | (with_reducible refine up_set ?_ (by first | (simp; done) | (simp; omega) | omega) _) | (refine up_trans ?_ (by with_reducible assumption))))⟩
        rw [unhide HE]; rfl
theorem p_drop0 (cap : Nat) (p : Addr) (w : World) :
    Calls Tryz.prog 100 #[.slice none 0 cap, .func (.func 101) #[] #[.pointer (some p)]] w fun e w' => e = .returned (.slice none 0 cap) ∧ Up w w' := by
  go_enter Tryz.func100, Tryz.ntmps100
  go_wp2_with fail
  go_loopw [0] (fun v wr => v = .slice none 0 cap ∧ Up w wr) (fun _ _ => 0)
  case atStart => exact ⟨rfl, up_refl _⟩
  case round =>
    obtain ⟨rfl, hu⟩ := hrel
    have PO := fun W => p_off0 none 0 cap p W (by omega)
    have HPO := hide PO
    clear PO
    go_wp2_with (go_at_call 101; refine (unhide HPO _).mono ?_; rintro e w1 ⟨rfl, hb1⟩)
    go_ret
    exact ⟨rfl, (by repeat' (first | (with_reducible exact up_refl _) | (with_reducible assumption) | (with_reducible refine up_alloc ?_ _) | (with_reducible refine up_drewN ?_ _) | (with_reducible refine up_drew ?_) | (with_reducible refine up_set ?_ (by first | (simp; done) | (simp; omega) | omega) _) | (refine up_trans ?_ (by with_reducible assumption))))⟩
end Go.Proofs.YtooochbfnmmnkaaGreat
namespace Go.Proofs.YtooochbfnmmnkaaGreat
open Go.RowKit Go.Proofs.Gn
/-- What compare returns. -/
def cmp2 (ax ay bx b_y : Int) : Int := if cmpV ax bx = 0 then cmpV ay b_y else cmpV ax bx
theorem c_Or {b off : Nat} {x y : Int} (w : World) (h0 : w.cell? ⟨b, off, none⟩ = some (.int .i64 x)) (h1 : w.cell? ⟨b, off + 1, none⟩ = some (.int .i64 y)) :
    Calls Tryz.prog 99 #[.slice (some ⟨b, off, none⟩) 2 2] w fun e w' => e = .returned (.int .i64 (if x = 0 then y else x)) ∧ w = w' := by
  by_cases hx : x = 0
  · subst hx
    by_cases hy : y = 0
    · subst hy
      go_enter Tryz.func99, Tryz.ntmps99
      go_wp2
      go_rounds 3
      go_ret
      exact ⟨rfl, rfl⟩
    · have e1 : (y == 0) = false := by simp; exact hy
      go_enter Tryz.func99, Tryz.ntmps99
      go_wp2
      go_rounds 2
      go_ret
      exact ⟨rfl, rfl⟩
  · have e1 : (x == 0) = false := by simp; exact hx
    rw [if_neg hx]
    go_enter Tryz.func99, Tryz.ntmps99
    go_wp2
    go_rounds 1
    go_ret
    exact ⟨rfl, rfl⟩

/-- New blocks and draws, and nothing else. -/
def Gr (w w' : World) : Prop := ∃ q os, w' = Go.Sort.grow (w.drewN q) os
theorem gr_refl (w : World) : Gr w w := ⟨0, #[], by simp [Go.Sort.grow, World.drewN]⟩
theorem gr_alloc {a b : World} (h : Gr a b) (o : Obj) : Gr a (b.alloc o) := by
  obtain ⟨q, os, rfl⟩ := h
  exact ⟨q, os ++ #[o], by rw [Go.Sort.alloc_eq_grow, Go.Sort.grow_grow]⟩
theorem gr_drew {a b : World} (h : Gr a b) : Gr a b.drew := by
  obtain ⟨q, os, rfl⟩ := h
  exact ⟨q + 1, os, rfl⟩
theorem gr_up {a b : World} (h : Gr a b) : Up a b := by
  obtain ⟨q, os, rfl⟩ := h
  refine ⟨rfl, rfl, rfl, by simp, fun k hk => ?_⟩
  simp [Go.Sort.grow, Array.getElem?_append, hk]
theorem gr_cell {a b : World} (h : Gr a b) {p : Addr} {v : Value} (hc : a.cell? p = some v) : b.cell? p = some v := up_cell (gr_up h) hc
theorem gr_trans {a b c : World} (h : Gr a b) (k : Gr b c) : Gr a c := by
  obtain ⟨q, os, rfl⟩ := h
  obtain ⟨q', os', rfl⟩ := k
  exact ⟨q + q', os ++ os', by simp [Go.Sort.grow, World.drewN, Nat.add_assoc]⟩
set_option maxHeartbeats 1000000 in
theorem p_compareG (ax ay bx b_y : Int) (w : World) :
    Calls Tryz.prog 75 #[pt ax ay, pt bx b_y] w fun e w' => e = .returned (.int .i64 (cmp2 ax ay bx b_y)) ∧ Gr w w' := by
  obtain ⟨X, hX⟩ : ∃ X, cmpV ax bx = X := ⟨_, rfl⟩
  obtain ⟨Y, hY⟩ : ∃ X, cmpV ay b_y = X := ⟨_, rfl⟩
  unfold cmp2
  rw [hX, hY]
  have CX : ∀ W : World, Calls Tryz.prog 55 #[.int .i64 ax, .int .i64 bx] W fun e w' => e = .returned (.int .i64 X) ∧ W = w' := fun W => by rw [← hX]; exact c_Compare ax bx W
  have CY : ∀ W : World, Calls Tryz.prog 55 #[.int .i64 ay, .int .i64 b_y] W fun e w' => e = .returned (.int .i64 Y) ∧ W = w' := fun W => by rw [← hY]; exact c_Compare ay b_y W
  obtain ⟨Z, hZ⟩ : ∃ Z, (if X = 0 then Y else X) = Z := ⟨_, rfl⟩
  rw [hZ]
  have CO : ∀ (W : World) (b : Nat), W.cell? ⟨b, 0, none⟩ = some (.int .i64 X) → W.cell? ⟨b, 1, none⟩ = some (.int .i64 Y) → Calls Tryz.prog 99 #[.slice (some ⟨b, 0, none⟩) 2 2] W fun e w' => e = .returned (.int .i64 Z) ∧ W = w' := fun W b h0 h1 => by rw [← hZ]; exact c_Or W h0 h1
  have HCX := hide CX
  have HCY := hide CY
  have HCO := hide CO
  clear CX CY CO hX hY hZ
  go_enter Tryz.func75, Tryz.ntmps75
  go_wp2
  obtain ⟨W, hW⟩ : ∃ W : World, W = ((w.alloc (Obj.cells #[Value.int IntKind.i64 ax, Value.int IntKind.i64 ay] 43)).alloc (Obj.cells #[Value.int IntKind.i64 bx, Value.int IntKind.i64 b_y] 43)) := ⟨_, rfl⟩
  rw [← hW]
  have c1 : W.cell? ⟨w.heap.size, 0, none⟩ = some (.int .i64 ax) := by rw [hW]; go_cell
  have c2 : W.cell? ⟨w.heap.size, 1, none⟩ = some (.int .i64 ay) := by rw [hW]; go_cell
  have c3 : W.cell? ⟨w.heap.size + 1, 0, none⟩ = some (.int .i64 bx) := by rw [hW]; go_cell
  have c4 : W.cell? ⟨w.heap.size + 1, 1, none⟩ = some (.int .i64 b_y) := by rw [hW]; go_cell
  have c5 : Gr w W := by rw [hW]; exact gr_alloc (gr_alloc (gr_refl _) _) _
  clear hW
  go_region_held3 (fun wx => wx.cell? ⟨w.heap.size, 0, none⟩ = some (.int .i64 ax) ∧ wx.cell? ⟨w.heap.size, 1, none⟩ = some (.int .i64 ay) ∧ wx.cell? ⟨w.heap.size + 1, 0, none⟩ = some (.int .i64 bx) ∧ wx.cell? ⟨w.heap.size + 1, 1, none⟩ = some (.int .i64 b_y) ∧ Gr w wx)
    ((first | exact ⟨c1, c2, c3, c4, gr_drew c5⟩ | exact ⟨alloc_cell _ c1, alloc_cell _ c2, alloc_cell _ c3, alloc_cell _ c4, gr_drew (gr_alloc c5 _)⟩ | (with_reducible assumption)))
    (first | (go_at_call 55; (with_reducible refine (unhide HCX _).mono ?_); rintro e w1 ⟨rfl, rfl⟩) | (go_at_call 55; (with_reducible refine (unhide HCY _).mono ?_); rintro e w1 ⟨rfl, rfl⟩) | (go_at_call 99; (with_reducible refine (unhide HCO _ _ (by go_cell) (by go_cell)).mono ?_); rintro e w2 ⟨rfl, rfl⟩))
  all_goals go_wp2
  all_goals go_ret
  all_goals exact ⟨rfl, gr_drew (gr_alloc c5 _)⟩
theorem cmpV_neg (a b : Int) : cmpV a b < 0 ↔ a < b := by unfold cmpV; split; simp_all; split <;> simp_all
theorem cmpV_zero (a b : Int) : cmpV a b = 0 ↔ a = b := by unfold cmpV; split; omega; split <;> omega
theorem cmp2_neg (a b : Int × Int) : cmp2 a.1 a.2 b.1 b.2 < 0 ↔ Gx.lt2 a b := by
  unfold cmp2 Gx.lt2
  have h1 := cmpV_neg a.1 b.1
  have h2 := cmpV_neg a.2 b.2
  have h3 := cmpV_zero a.1 b.1
  split <;> omega
theorem cmp2_pos (a b : Int × Int) : 0 < cmp2 a.1 a.2 b.1 b.2 ↔ Gx.lt2 b a := by
  unfold cmp2 Gx.lt2 cmpV
  split <;> split <;> (try split) <;> (try split) <;> omega
theorem p_compare (ax ay bx b_y : Int) (w : World) :
    Calls Tryz.prog 75 #[pt ax ay, pt bx b_y] w fun e w' => e = .returned (.int .i64 (cmp2 ax ay bx b_y)) ∧ Up w w' :=
  (p_compareG ax ay bx b_y w).mono fun _ _ ⟨he, hw⟩ => ⟨he, gr_up hw⟩
end Go.Proofs.YtooochbfnmmnkaaGreat
namespace Go.Proofs.YtooochbfnmmnkaaGreat
open Go.RowKit Go.Proofs.Gn Go.Shelf Go.Sort
def encP (x : Int × Int) : List Value := [.int .i64 x.1, .int .i64 x.2]
theorem flatK_encP (ps : Pl) : (flatK encP 2 ps.toArray).toList = cellsPl ps := by
  apply List.ext_getElem?
  intro i
  rcases Nat.lt_or_ge i (ps.length * 2) with h | h
  · have hs : (flatK encP 2 ps.toArray).size = ps.length * 2 := by simp
    have hg := get_flatK encP 2 ps.toArray i (by simpa using h)
    rw [getElem!_pos _ i (by rw [hs]; exact h)] at hg
    rw [Array.getElem?_toList, Array.getElem?_eq_getElem (by rw [hs]; exact h), hg]
    have hk : i / 2 < ps.length := by omega
    have c := cellsPl_at hk
    have ee : (ps.toArray)[i / 2]! = ps[i / 2] := by rw [getElem!_pos _ _ (by simpa using hk)]; simp
    rw [ee]
    rcases Nat.mod_two_eq_zero_or_one i with m | m
    · rw [m]
      have e : i = i / 2 * 2 := by omega
      rw [← e] at c
      rw [c.1]; rfl
    · rw [m]
      have e : i = i / 2 * 2 + 1 := by omega
      have c2 := c.2
      rw [← e] at c2
      rw [c2]; rfl
  · rw [List.getElem?_eq_none (by simp; omega), List.getElem?_eq_none (by rw [cellsPl_length]; omega)]
theorem own_holds {W : World} {base e n cap g : Nat} {ps : Pl} (h : W.ownsRow base e 2 (.slice (some ⟨g, 0, none⟩) n cap) n (cellsPl ps)) : HoldsK encP 2 W g 0 ps.toArray := by
  intro j hj
  have hl : (cellsPl ps).length = n * 2 := h.1
  have hl2 := hl
  rw [cellsPl_length] at hl2
  have hj2 : j < n * 2 := by simp at hj; omega
  rw [Nat.zero_add, h.cellAt j hj2, h.frozenAt j]
  refine ⟨?_, rfl⟩
  rw [getElem!_pos _ j hj, id, ← flatK_encP, Array.getElem?_toList, Array.getElem?_eq_getElem hj]
/-- Other points of the same number laid into the row. -/
theorem own_put {W : World} {base e n cap g m : Nat} {ps qs : Pl} {os : Array Obj} (h : W.ownsRow base e 2 (.slice (some ⟨g, 0, none⟩) n cap) n (cellsPl ps)) (hq : qs.length = ps.length) :
    (grow (putRowK encP 2 (Go.Sort.ahead W m) g 0 qs.toArray) os).ownsRow base e 2 (.slice (some ⟨g, 0, none⟩) n cap) n (cellsPl qs) := by
  have hn := own_len h
  rcases h with ⟨hl, h | ⟨g', cap', cur, e1, hb, hg, h1, h2, h3, h4⟩⟩
  · simp at h
  · simp only [Value.slice.injEq, Option.some.injEq, Addr.mk.injEq, and_true, true_and] at e1
    obtain ⟨rfl, rfl⟩ := e1
    have hlt : g < W.heap.size := (Array.getElem?_eq_some_iff.1 hg).1
    refine ⟨by rw [cellsPl_length]; omega, .inr ⟨g, cap, putCells id 0 (flatK encP 2 qs.toArray) cur, rfl, hb, ?_, h1, h2, by simp [putCells, h3], ?_⟩⟩
    · unfold grow putRowK putRow mapBlock
      simp only [Array.getElem?_append, Array.size_modify]
      have hlt2 : g < (Go.Sort.ahead W m).heap.size := hlt
      rw [if_pos hlt2]
      have hh : (Go.Sort.ahead W m).heap[g]? = some (.cells cur e (0, 0)) := hg
      rw [Array.getElem?_modify, if_pos rfl, hh]
      rfl
    · have hs : (flatK encP 2 qs.toArray).size = n * 2 := by simp [hq, hn]
      rw [← flatK_encP]
      apply List.ext_getElem?
      intro i
      have hcs : n * 2 ≤ cur.size := by rw [h3]; exact Nat.mul_le_mul_right _ h1
      rcases Nat.lt_or_ge i (n * 2) with k | k
      · rw [List.getElem?_take, if_pos k, Array.getElem?_toList]
        unfold putCells
        rw [Array.getElem?_mapIdx, Array.getElem?_eq_getElem (by omega)]
        simp only [Option.map_some, hs]
        rw [if_pos ⟨Nat.zero_le _, by omega⟩, Array.getElem?_toList, Array.getElem?_eq_getElem (by rw [hs]; exact k), Nat.sub_zero, getElem!_pos _ i (by rw [hs]; exact k)]
        rfl
      · rw [List.getElem?_take, if_neg (by omega), List.getElem?_eq_none (by simp at hs ⊢; omega)]
theorem below_put {W : World} {B g m : Nat} {qs : Pl} {os : Array Obj} (hg : B ≤ g) (hB : B ≤ W.heap.size) : Go.RowKit.Below B W (grow (putRowK encP 2 (Go.Sort.ahead W m) g 0 qs.toArray) os) := by
  refine ⟨rfl, rfl, rfl, by simp [putRowK, Go.Sort.ahead], fun k hk => ?_⟩
  unfold grow putRowK putRow mapBlock
  simp only [Array.getElem?_append, Array.size_modify]
  have : k < (Go.Sort.ahead W m).heap.size := by show k < W.heap.size; omega
  rw [if_pos this, Array.getElem?_modify, if_neg (by omega)]
  rfl
/-! ### Sorting -/
theorem swoP : SWO (ltOf fun a b : Int × Int => cmp2 a.1 a.2 b.1 b.2) where
  irrefl x := by unfold ltOf; rw [decide_eq_false_iff_not, cmp2_neg]; exact Gx.lt2_irrefl x
  trans x y z h1 h2 := by
    unfold ltOf at *
    rw [decide_eq_true_eq, cmp2_neg] at *
    exact Gx.lt2_trans h1 h2
  ntrans x y z h1 h2 := by
    unfold ltOf at *
    rw [decide_eq_false_iff_not, cmp2_neg] at *
    intro h
    rcases Gx.lt2_tri y x with k | k | k
    · exact h2 (Gx.lt2_trans k h)
    · subst k; exact h2 h
    · exact h1 k
theorem cmpLaysP (blk off size : Nat) (w : World) : CmpLays Tryz.prog 75 #[] encP 2 (fun a b : Int × Int => cmp2 a.1 a.2 b.1 b.2) blk off size w :=
  fun _ _ _ _ x y => (p_compareG x.1 x.2 y.1 y.2 _).mono fun _ _ ⟨he, hg⟩ => ⟨he, hg⟩
theorem encP_one : ∀ x, ∀ v ∈ encP x, v.oneCell' = true := fun x v hv => by simp [encP] at hv; rcases hv with rfl | rfl <;> rfl
theorem p_sort {B n cap g : Nat} {ps : Pl} (W : World) (h : W.ownsRow B 43 2 (.slice (some ⟨g, 0, none⟩) n cap) n (cellsPl ps)) (hB : B ≤ W.heap.size) (hg : B ≤ g) (hgl : g < W.heap.size) (hn : n ≤ 70000) :
    Calls Tryz.prog 74 #[.slice (some ⟨g, 0, none⟩) n cap, .func (.func 75) #[] #[]] W fun e w' => e = .returned (.tuple #[]) ∧
      ∃ qs : Pl, qs.Perm ps ∧ qs.Pairwise Gx.le2 ∧ w'.ownsRow B 43 2 (.slice (some ⟨g, 0, none⟩) n cap) n (cellsPl qs) ∧ Go.RowKit.Below B W w' := by
  have eg : ∀ args w, (callFunc 75 args).run Tryz.prog w = .ok (.enter 75 args) w := enters_of Tryz.func75 (by kernel_rfl) rfl
  have hln := own_len h
  have hcon := AnyQ.slices_SortFunc Tryz.sortP 2 Tryz.isAgg43 Tryz.sizeOf43 encP (fun _ => rfl) encP_one (fun a b : Int × Int => cmp2 a.1 a.2 b.1 b.2) swoP 75 #[] g 0 cap ps.toArray W eg (cmpLaysP g 0 _ W) (own_holds h) hgl (by simp; omega)
  change Calls Tryz.prog 74 _ _ _ at hcon
  have e1 : (ps.toArray).size = n := by simp [hln]
  rw [e1] at hcon
  refine hcon.mono fun e w' ⟨he, d', m, os, hp, hs, hw⟩ => ⟨he, d'.toList, ?_, ?_, ?_, ?_⟩
  · obtain ⟨h1, _, h3⟩ := hp
    have h1' : d'.size = n := by rw [h1, e1]
    rw [← h1'] at h3
    simp only [Array.extract_size] at h3
    have : (ps.toArray).extract 0 d'.size = ps.toArray := by rw [h1', ← e1, Array.extract_size]
    rw [this] at h3
    simpa using h3
  · have h1' : d'.size = n := by rw [hp.1, e1]
    rw [List.pairwise_iff_getElem]
    intro i j hi hj hij
    have k := hs i j (Nat.zero_le _) hij (by simp at hj; omega)
    rw [getElem!_pos d' i (by simpa using hi), getElem!_pos d' j (by simpa using hj)] at k
    unfold ltOf at k
    rw [decide_eq_false_iff_not, cmp2_neg] at k
    simp only [Array.getElem_toList]
    rcases Gx.lt2_tri d'[i] d'[j] with t | t | t
    · exact .inr t
    · exact .inl t
    · exact absurd t k
  · have h1' : d'.toList.length = ps.length := by have := hp.1; simp at this ⊢; omega
    have := own_put (m := m) (os := os) h h1'
    rw [Array.toArray_toList] at this
    rw [hw]; exact this
  · have := below_put (W := W) (m := m) (qs := d'.toList) (os := os) hg hB
    rw [Array.toArray_toList] at this
    rw [hw]; exact this
theorem p_reverse {B n cap g : Nat} {ps : Pl} (W : World) (h : W.ownsRow B 43 2 (.slice (some ⟨g, 0, none⟩) n cap) n (cellsPl ps)) (hB : B ≤ W.heap.size) (hg : B ≤ g) (hn : n ≤ 70000) :
    Calls Tryz.prog 78 #[.slice (some ⟨g, 0, none⟩) n cap] W fun e w' => e = .returned (.tuple #[]) ∧
      w'.ownsRow B 43 2 (.slice (some ⟨g, 0, none⟩) n cap) n (cellsPl ps.reverse) ∧ Go.RowKit.Below B W w' ∧ W.grownBy w' (some g) := by
  have hln := own_len h
  have hcon := AnyQ.slices_Reverse Tryz.revP 2 Tryz.isAgg43 Tryz.sizeOf43 encP (fun _ => rfl) encP_one g 0 cap ps.toArray W (own_holds h) (by simp; omega)
  change Calls Tryz.prog 78 _ _ _ at hcon
  have e1 : (ps.toArray).size = n := by simp [hln]
  rw [e1] at hcon
  refine hcon.mono fun e w' ⟨he, m, hw⟩ => ⟨he, ?_, ?_, ?_⟩
  · have := own_put (m := m) (os := #[]) (qs := ps.reverse) h (by simp)
    rw [grow_empty] at this
    rw [hw]; simpa using this
  · have := below_put (W := W) (m := m) (qs := ps.reverse) (os := #[]) hg hB
    rw [grow_empty] at this
    rw [hw]; simpa using this
  · rw [hw]
    refine ⟨rfl, rfl, rfl, by simp [putRowK, Go.Sort.ahead], fun k hk hne => ?_⟩
    unfold putRowK putRow mapBlock
    have : g ≠ k := fun e => hne (by rw [e])
    simp only [Array.getElem?_modify]
    rw [if_neg this]
    rfl
theorem cells_at {w : World} {b off : Nat} {ps : Pl} (hc : ∀ k (h : k < ps.length), w.cell? ⟨b, off + k * 2, none⟩ = some (.int .i64 ps[k].1) ∧ w.cell? ⟨b, off + k * 2 + 1, none⟩ = some (.int .i64 ps[k].2)) :
    ∀ j u, (cellsPl ps)[j]? = some u → w.cell? ⟨b, off + j, none⟩ = some u := by
  intro j u hj
  have hl : j < ps.length * 2 := by rw [← cellsPl_length]; exact (List.getElem?_eq_some_iff.1 hj).1
  have hk : j / 2 < ps.length := by omega
  have c := cellsPl_at hk
  have d := hc _ hk
  rcases Nat.mod_two_eq_zero_or_one j with m | m
  · have e : j = j / 2 * 2 := by omega
    rw [← e] at c d
    rw [c.1] at hj
    rw [d.1, ← hj]
  · have e : j / 2 * 2 + 1 = j := by omega
    have c2 := c.2
    have d2 := d.2
    rw [Nat.add_assoc, e] at d2
    rw [e] at c2
    rw [c2] at hj
    rw [d2, ← hj]
theorem cellsPl_one (ps : Pl) : ∀ u ∈ cellsPl ps, u.oneCell' = true := by
  intro u hu
  simp only [cellsPl, List.mem_flatMap] at hu
  obtain ⟨p, _, hp⟩ := hu
  exact encP_one p u hp
theorem p_clone (A : Option Addr) (ps : Pl) (cap : Nat) (W : World) (h : Pts W A ps) (h0 : 0 < ps.length) (hn : ps.length ≤ 70000) :
    Calls Tryz.prog 73 #[.slice A ps.length cap] W fun e w' => ∃ v, e = .returned v ∧ w'.ownsRow W.heap.size 43 2 v ps.length (cellsPl ps) ∧ Go.RowKit.Below W.heap.size W w' := by
  rcases h with rfl | ⟨b, off, rfl, hc⟩
  · simp at h0
  obtain ⟨i0, hi, hz0, hz1, hz2⟩ := info_parts info_pt
  have hcon := AnyE.slices_Clone Tryz.cloneP i0 _ 2 16 hi hz0 hz1 hz2 rfl (by decide) Tryz.sizeOf43 b off ps.length cap (cellsPl ps) W (cellsPl_length ps) (by unfold maxLen; omega) (by omega) (cells_at hc) (cellsPl_one ps)
  change Calls Tryz.prog 73 _ _ _ at hcon
  exact hcon.mono fun e w' ⟨v, he, ho, _, hb⟩ => ⟨v, he, ho, hb⟩
end Go.Proofs.YtooochbfnmmnkaaGreat
namespace Go.Proofs.YtooochbfnmmnkaaGreat
open Go.RowKit Go.Proofs.Gn
open Gx (dedup)
theorem dedup_snoc : ∀ (l : Pl) (a b : Int × Int), dedup (l ++ [a, b]) = if a = b then dedup (l ++ [a]) else dedup (l ++ [a]) ++ [b] := by
  intro l
  induction l with
  | nil =>
    intro a b
    simp only [List.nil_append, dedup]
    split
    · rename_i h; subst h; rfl
    · rfl
  | cons x l ih =>
    intro a b
    match l, ih with
    | [], ih =>
      have := ih a b
      simp only [List.nil_append] at this
      simp only [List.cons_append, List.nil_append]
      unfold dedup
      split
      · rename_i h
        subst h
        exact this
      · rw [this]
        split
        · rfl
        · rfl
    | y :: l, ih =>
      have := ih a b
      simp only [List.cons_append] at this ⊢
      conv => lhs; unfold dedup
      conv => rhs; unfold dedup
      split
      · exact this
      · rw [this]
        split <;> rfl
theorem dedup_take {ps : Pl} {k : Nat} (h0 : 0 < k) (h : k < ps.length) : dedup (ps.take (k + 1)) = if Gx.g ps (k - 1) = Gx.g ps k then dedup (ps.take k) else dedup (ps.take k) ++ [Gx.g ps k] := by
  obtain ⟨j, rfl⟩ : ∃ j, k = j + 1 := ⟨k - 1, by omega⟩
  have e1 : ps.take (j + 1 + 1) = ps.take j ++ [ps[j], ps[j + 1]] := by
    rw [List.take_succ_eq_append_getElem h, List.take_succ_eq_append_getElem (by omega), List.append_assoc]; rfl
  have e2 : ps.take (j + 1) = ps.take j ++ [ps[j]] := by rw [List.take_succ_eq_append_getElem (by omega)]
  rw [e1, dedup_snoc, Gx.g_eq h, Nat.add_sub_cancel, Gx.g_eq (by omega), e2]
theorem dedup_len : ∀ l : Pl, (dedup l).length ≤ l.length := by
  intro l
  induction l with
  | nil => exact Nat.le_refl _
  | cons a l ih =>
    match l, ih with
    | [], _ => exact Nat.le_refl _
    | b :: t, ih =>
      unfold dedup
      split
      · exact Nat.le_trans ih (by simp)
      · simp only [List.length_cons] at ih ⊢; omega
/-- Where the library stands behind the first equal neighbours: d points are kept of the first k + j. -/
def Inn (B : Nat) (W : World) (n k : Nat) (ps : Pl) (g cap : Nat) (wx : World) (d j : Nat) : Prop :=
  ∃ cur : Pl, d = (dedup (ps.take (k + j))).length ∧ d + 1 ≤ k + j ∧ cur.take d = dedup (ps.take (k + j)) ∧ (∀ t, k + j ≤ t + 1 → t < n → Gx.g cur t = Gx.g ps t) ∧
    wx.ownsRow B 43 2 (.slice (some ⟨g, 0, none⟩) n cap) n (cellsPl cur) ∧ Below B W wx
theorem cellsPl_set2 {ps : Pl} {k : Nat} (h : k < ps.length) (x y : Int) : ((cellsPl ps).set (k * 2) (.int .i64 x)).set (k * 2 + 1) (.int .i64 y) = cellsPl (ps.set k (x, y)) := by
  induction ps generalizing k with
  | nil => simp at h
  | cons p ps ih =>
    cases k with
    | zero => rfl
    | succ k =>
      have := ih (k := k) (by simpa using h)
      rw [show (k + 1) * 2 = k * 2 + 2 by omega, show k * 2 + 2 + 1 = k * 2 + 1 + 2 by omega]
      show .int .i64 p.1 :: .int .i64 p.2 :: ((cellsPl ps).set (k * 2) (.int .i64 x)).set (k * 2 + 1) (.int .i64 y) = _
      rw [this]
      rfl
theorem g_set_ne {l : Pl} {i j : Nat} {x : Int × Int} (h : i ≠ j) : Gx.g (l.set i x) j = Gx.g l j := by
  unfold Gx.g
  rw [List.getD_eq_getElem?_getD, List.getD_eq_getElem?_getD, List.getElem?_set_ne h]
theorem inn_same {B : Nat} {W : World} {n k : Nat} {ps : Pl} {g cap : Nat} {wx w' : World} {d j : Nat} (h : Inn B W n k ps g cap wx d j) (e : dedup (ps.take (k + j + 1)) = dedup (ps.take (k + j))) (hu : Up wx w') (hB : B ≤ W.heap.size) : Inn B W n k ps g cap w' d (j + 1) := by
  obtain ⟨cur, f1, f2, f3, f4, f5, f6⟩ := h
  exact ⟨cur, by rw [← Nat.add_assoc, e]; exact f1, by omega, by rw [← Nat.add_assoc, e]; exact f3, fun t h1 h2 => f4 t (by omega) h2, own_up f5 hu, below_up f6 hB hu⟩
theorem inn_step {B : Nat} {W : World} {n k : Nat} {ps : Pl} {g cap : Nat} {wx w' : World} {d j : Nat} {x y : Int} (h : Inn B W n k ps g cap wx d j) (e : dedup (ps.take (k + j + 1)) = dedup (ps.take (k + j)) ++ [(x, y)]) (hu : Up wx w') (hB : B ≤ W.heap.size) (hg : B ≤ g) (hkj : k + j < n) :
    Inn B W n k ps g cap ((w'.setCell ⟨g, d * 2, none⟩ (.int .i64 x)).setCell ⟨g, d * 2 + 1, none⟩ (.int .i64 y)) (d + 1) (j + 1) := by
  obtain ⟨cur, f1, f2, f3, f4, f5, f6⟩ := h
  have hl := own_len f5
  have f5' := own_up f5 hu
  have s1 := ((f5'.stored (d * 2) (.int .i64 x)).1.stored (d * 2 + 1) (.int .i64 y)).1
  rw [cellsPl_set2 (by omega)] at s1
  refine ⟨cur.set d (x, y), by rw [← Nat.add_assoc, e, List.length_append, ← f1]; rfl, by omega, ?_, fun t h1 h2 => ?_, s1, ?_⟩
  · rw [← Nat.add_assoc, e, ← f3, List.take_succ_eq_append_getElem (by simp; omega), List.take_set, List.set_eq_of_length_le (by rw [List.length_take]; omega)]
    simp
  · rw [g_set_ne (by omega)]
    exact f4 t (by omega) h2
  · exact ((below_up f6 hB hu).setCell hg _).setCell hg _
theorem own_setCells {B T d cap g : Nat} {xs : List Value} : ∀ (vs : List Value) (W : World) (o : Nat), W.ownsRow B T 2 (.slice (some ⟨g, 0, none⟩) d cap) d xs → d * 2 ≤ o → B ≤ g →
    (W.setCells g o vs).ownsRow B T 2 (.slice (some ⟨g, 0, none⟩) d cap) d xs ∧ Below B W (W.setCells g o vs) := by
  intro vs
  induction vs with
  | nil => intro W o h _ _; exact ⟨h, Below.refl _ _⟩
  | cons v r ih =>
    intro W o h ho hg
    have s1 := (h.stored o v).1
    rw [List.set_eq_of_length_le (by rw [h.1]; exact ho)] at s1
    have := ih _ (o + 1) s1 (by omega) hg
    exact ⟨this.1, ((Below.refl B W).setCell (p := ⟨g, o, none⟩) hg v).trans this.2⟩
theorem run_clear_pts (W : World) (ty : TypeId) (b o n c : Nat) (hn : 0 < n) (hc : ∀ j, j < n * 2 → (W.cell? ⟨b, o + j, none⟩).isSome = true) (hf : ∀ j, j < n * 2 → W.frozen? ⟨b, o + j, none⟩ = false) :
    ∃ vs, (Builtin.clear_ #[67] ty #[.slice (some ⟨b, o, none⟩) n c]).run Tryz.prog W = .ok (.tuple #[]) (W.setCells b o vs) := by
  have hz : ∀ v ∈ (Builtin.zeroCells (Value.agg #[Value.int IntKind.i64 0, Value.int IntKind.i64 0]).cells n).toList, v.oneCell' = true := by
    intro v hv
    simp only [Builtin.zeroCells, Array.mem_toList_iff, Array.mem_map, Array.mem_range] at hv
    obtain ⟨i, hi, rfl⟩ := hv
    have : i % (Value.agg #[Value.int IntKind.i64 0, Value.int IntKind.i64 0]).cells.size < 2 := Nat.mod_lt _ (by decide)
    generalize i % (Value.agg #[Value.int IntKind.i64 0, Value.int IntKind.i64 0]).cells.size = r at this ⊢
    match r, this with
    | 0, _ => rfl
    | 1, _ => rfl
  have hl : (Builtin.zeroCells (Value.agg #[Value.int IntKind.i64 0, Value.int IntKind.i64 0]).cells n).toList.length = n * 2 := by
    rw [Array.length_toList, size_zeroCells]; rfl
  refine ⟨(Builtin.zeroCells (Value.agg #[Value.int IntKind.i64 0, Value.int IntKind.i64 0]).cells n).toList, ?_⟩
  have hst := run_storeCells_cells (P := Tryz.prog) b o (Builtin.zeroCells (Value.agg #[Value.int IntKind.i64 0, Value.int IntKind.i64 0]).cells n).toList 0 W (by rw [hl]; simpa using hc) (by rw [hl]; simpa using hf) hz
  rw [Nat.add_zero] at hst
  obtain ⟨m, rfl⟩ : ∃ m, n = m + 1 := ⟨n - 1, by omega⟩
  simp [Builtin.clear_, run_underlying Tryz.underlying67, Tryz.zeroValue43, hst]
theorem p_compact1 {cap g : Nat} (W : World) :
    Calls Tryz.prog 76 #[.slice (some ⟨g, 0, none⟩) 1 cap] W fun e w' => e = .returned (.slice (some ⟨g, 0, none⟩) 1 cap) ∧ W = w' := by
  go_enter Tryz.func76, Tryz.ntmps76
  go_wp2
  go_ret
  exact ⟨rfl, rfl⟩
set_option maxRecDepth 100000 in
set_option maxHeartbeats 2000000 in
theorem p_compact {B n cap g : Nat} {ps : Pl} (W : World) (h : W.ownsRow B 43 2 (.slice (some ⟨g, 0, none⟩) n cap) n (cellsPl ps)) (hB : B ≤ W.heap.size) (hg : B ≤ g) (h2 : 2 ≤ n) (hn : n ≤ 70000) (hcap : n ≤ cap) (hcap2 : cap ≤ 9223372036854775807) :
    Calls Tryz.prog 76 #[.slice (some ⟨g, 0, none⟩) n cap] W fun e w' => e = .returned (.slice (some ⟨g, 0, none⟩) (dedup ps).length cap) ∧
      w'.ownsRow B 43 2 (.slice (some ⟨g, 0, none⟩) (dedup ps).length cap) (dedup ps).length (cellsPl (dedup ps)) ∧ Below B W w' := by
  have hln := own_len h
  have HO := hide h
  have HLN := hide hln
  clear h hln
  have g1 : (2 : Int) ≤ (n : Int) := by omega
  go_enter Tryz.func76, Tryz.ntmps76
  go_wp2_with fail
  go_loopw [3] (fun i wr => ∃ k : Nat, 1 ≤ k ∧ k ≤ n ∧ i = .int .i64 k ∧ Up W wr ∧ dedup (ps.take k) = ps.take k) (fun i _ => n - (intOf i).toNat)
  case atStart => exact ⟨1, by omega, by omega, rfl, up_refl _, by
    match ps with
    | [] => rfl
    | a :: t => rfl⟩
  case round =>
    obtain ⟨k, k1, kn, rfl, hu, hd⟩ := hrel
    by_cases hlt : k < n
    · have hl : k < ps.length := by rw [← unhide HLN]; exact hlt
      have hc := own_cells (own_up (unhide HO) hu)
      obtain ⟨a0, a1⟩ := pts_g hc (k := k - 1) (by omega)
      obtain ⟨b0, b1⟩ := pts_g hc (k := k) hl
      have hdt := dedup_take k1 hl
      have ht : ps.take k ++ [Gx.g ps k] = ps.take (k + 1) := by rw [List.take_succ_eq_append_getElem hl, Gx.g_eq hl]
      obtain ⟨P, hP⟩ : ∃ P, Gx.g ps (k - 1) = P := ⟨_, rfl⟩
      obtain ⟨Q, hQ⟩ : ∃ Q, Gx.g ps k = Q := ⟨_, rfl⟩
      rw [hP] at a0 a1 hdt
      rw [hQ] at b0 b1 hdt ht
      obtain ⟨p1, p2⟩ := P
      obtain ⟨q1, q2⟩ := Q
      simp only [Nat.zero_add] at a0 a1 b0 b1
      have HD := hide hd
      have HDT := hide hdt
      have HT := hide ht
      have j1 : IntKind.i64.wrap ((k : Int) - 1) = ((k - 1 : Nat) : Int) := by rw [IntWalk.i64_in _ ⟨by omega, by omega⟩]; omega
      have j2 : (k : Int) < (n : Int) := by omega
      have j3 : ((k - 1 : Nat) : Int) < (n : Int) := by omega
      clear hc hP hQ hd hdt ht
      have hcase : (q1 == p1) = false ∨ (q1 = p1 ∧ (q2 == p2) = false) ∨ (q1 = p1 ∧ q2 = p2) := by
        by_cases c1 : q1 = p1
        · by_cases c2 : q2 = p2
          · exact .inr (.inr ⟨c1, c2⟩)
          · exact .inr (.inl ⟨c1, by simpa using c2⟩)
        · exact .inl (by simpa using c1)
      rcases hcase with c | ⟨rfl, c⟩ | ⟨rfl, rfl⟩
      · have hd2 : dedup (ps.take (k + 1)) = ps.take (k + 1) := by
          rw [unhide HDT, if_neg (by intro e; simp at e; simp [e.1] at c), unhide HD, unhide HT]
        have HD2 := hide hd2
        clear hd2
        go_wp2_with fail
        go_quiet (fail)
        go_wp2_with fail
        go_roundw
        case rel => exact ⟨k + 1, by omega, by omega, by go_num, (by repeat' (first | (with_reducible exact up_refl _) | (with_reducible assumption) | (with_reducible refine up_alloc ?_ _) | (with_reducible refine up_drewN ?_ _) | (with_reducible refine up_drew ?_) | (with_reducible refine up_set ?_ (by first | (simp; done) | (simp; omega) | omega) _) | (refine up_trans ?_ (by with_reducible assumption)))), unhide HD2⟩
        case measure => simp [intOf]; omega
      · have hd2 : dedup (ps.take (k + 1)) = ps.take (k + 1) := by
          rw [unhide HDT, if_neg (by intro e; simp at e; simp [e] at c), unhide HD, unhide HT]
        have HD2 := hide hd2
        clear hd2
        go_wp2_with fail
        go_quiet (fail)
        go_wp2_with fail
        go_roundw
        case rel => exact ⟨k + 1, by omega, by omega, by go_num, (by repeat' (first | (with_reducible exact up_refl _) | (with_reducible assumption) | (with_reducible refine up_alloc ?_ _) | (with_reducible refine up_drewN ?_ _) | (with_reducible refine up_drew ?_) | (with_reducible refine up_set ?_ (by first | (simp; done) | (simp; omega) | omega) _) | (refine up_trans ?_ (by with_reducible assumption)))), unhide HD2⟩
        case measure => simp [intOf]; omega
      · have hd2 : dedup (ps.take (k + 1)) = ps.take k := by
          have := unhide HDT
          simp only [if_true] at this
          rw [this, unhide HD]
        have hlk : (ps.take k).length = k := by rw [List.length_take, ← unhide HLN]; omega
        go_wp2_with fail
        go_quiet (fail)
        go_wp2_with fail
        obtain ⟨L, hL⟩ : ∃ L, n - k = L := ⟨_, rfl⟩
        rw [hL]
        obtain ⟨wo, hwo⟩ : ∃ wo : World, wo = wr.drewN nq := ⟨_, rfl⟩
        have huo : Up W wo := by rw [hwo]; exact up_drewN hu _
        rw [← hwo]
        clear hwo
        have HS : Hid (Inn B W n k ps g cap wo k 1) := hide ⟨ps, by rw [hd2, hlk], Nat.le_refl _, by rw [hd2], fun _ _ _ => rfl, own_up (unhide HO) huo, huo.mono hB⟩
        clear hd2 hlk b0 b1 a0 a1 huo hu HT HD HDT
        go_loopw [3, 5] (fun i j wx => ∃ jn d : Nat, 1 ≤ jn ∧ jn ≤ L ∧ j = .int .i64 jn ∧ i = .int .i64 d ∧ Inn B W n k ps g cap wx d jn) (fun _ j _ => L - (intOf j).toNat)
        case atStart => exact ⟨1, k, by omega, by omega, rfl, rfl, unhide HS⟩
        case round =>
          obtain ⟨jn, d, e1, e2, rfl, rfl, hin⟩ := hrel
          have HIN := hide hin
          obtain ⟨cur, f1, f2, f3, f4, f5, f6⟩ := hin
          have f5l := own_len f5
          by_cases hlj : jn < L
          · obtain ⟨a0, a1⟩ := pts_g (own_cells f5) (k := k + jn) (by omega)
            obtain ⟨b0, b1⟩ := pts_g (own_cells f5) (k := k + (jn - 1)) (by omega)
            obtain ⟨d0, d1⟩ := pts_g (own_cells f5) (k := d) (by omega)
            have z0 := f5.frozenAt (d * 2)
            have z1 := f5.frozenAt (d * 2 + 1)
            rw [f4 (k + jn) (by omega) (by omega)] at a0 a1
            rw [f4 (k + (jn - 1)) (by omega) (by omega)] at b0 b1
            simp only [Nat.zero_add, Nat.add_mul] at a0 a1 b0 b1 d0 d1
            have hdt := dedup_take (ps := ps) (k := k + jn) (by omega) (by rw [← unhide HLN]; omega)
            rw [show k + jn - 1 = k + (jn - 1) by omega] at hdt
            obtain ⟨X, hX⟩ : ∃ X, Gx.g ps (k + jn) = X := ⟨_, rfl⟩
            obtain ⟨Y, hY⟩ : ∃ X, Gx.g ps (k + (jn - 1)) = X := ⟨_, rfl⟩
            rw [hX] at a0 a1 hdt
            rw [hY] at b0 b1 hdt
            obtain ⟨x1, x2⟩ := X
            obtain ⟨y1, y2⟩ := Y
            simp only at a0 a1 b0 b1
            have HDT := hide hdt
            have HX := hide hX
            have i1 : IntKind.i64.wrap ((jn : Int) - 1) = ((jn - 1 : Nat) : Int) := by rw [IntWalk.i64_in _ ⟨by omega, by omega⟩]; omega
            have i2 : (jn : Int) < (L : Int) := by omega
            have i3 : ((jn - 1 : Nat) : Int) < (L : Int) := by omega
            have i4 : (d : Int) < (n : Int) := by omega
            clear hdt hX hY f1 f3 f4 f5 f6
            have hcase : (x1 == y1) = false ∨ (x1 = y1 ∧ (x2 == y2) = false) ∨ (x1 = y1 ∧ x2 = y2) := by
              by_cases c1 : x1 = y1
              · by_cases c2 : x2 = y2
                · exact .inr (.inr ⟨c1, c2⟩)
                · exact .inr (.inl ⟨c1, by simpa using c2⟩)
              · exact .inl (by simpa using c1)
            rcases hcase with c | ⟨rfl, c⟩ | ⟨rfl, rfl⟩
            · have ed : dedup (ps.take (k + jn + 1)) = dedup (ps.take (k + jn)) ++ [(x1, x2)] := by
                rw [unhide HDT, if_neg (by intro e; simp at e; simp [e.1] at c)]
              have ST := hide (fun (w' : World) (hu : Up wr w') => inn_step (unhide HIN) ed hu hB hg (by omega))
              clear ed HDT
              go_wp2_with fail
              go_quiet (fail)
              go_wp2_with fail
              exact ⟨⟨jn + 1, d + 1, by omega, by omega, by go_num, by go_num, unhide ST _ (by repeat' (first | (with_reducible exact up_refl _) | (with_reducible assumption) | (with_reducible refine up_alloc ?_ _) | (with_reducible refine up_drewN ?_ _) | (with_reducible refine up_drew ?_) | (with_reducible refine up_set ?_ (by first | (simp; done) | (simp; omega) | omega) _) | (refine up_trans ?_ (by with_reducible assumption))))⟩, by simp [intOf]; omega⟩
            · have ed : dedup (ps.take (k + jn + 1)) = dedup (ps.take (k + jn)) ++ [(x1, x2)] := by
                rw [unhide HDT, if_neg (by intro e; simp at e; simp [e] at c)]
              have ST := hide (fun (w' : World) (hu : Up wr w') => inn_step (unhide HIN) ed hu hB hg (by omega))
              clear ed HDT
              go_wp2_with fail
              go_quiet (fail)
              go_wp2_with fail
              exact ⟨⟨jn + 1, d + 1, by omega, by omega, by go_num, by go_num, unhide ST _ (by repeat' (first | (with_reducible exact up_refl _) | (with_reducible assumption) | (with_reducible refine up_alloc ?_ _) | (with_reducible refine up_drewN ?_ _) | (with_reducible refine up_drew ?_) | (with_reducible refine up_set ?_ (by first | (simp; done) | (simp; omega) | omega) _) | (refine up_trans ?_ (by with_reducible assumption))))⟩, by simp [intOf]; omega⟩
            · have ed : dedup (ps.take (k + jn + 1)) = dedup (ps.take (k + jn)) := by
                rw [unhide HDT, if_pos rfl]
              have ST := hide (fun (w' : World) (hu : Up wr w') => inn_same (unhide HIN) ed hu hB)
              clear ed HDT
              go_wp2_with fail
              go_quiet (fail)
              go_wp2_with fail
              exact ⟨⟨jn + 1, d, by omega, by omega, by go_num, rfl, unhide ST _ (by repeat' (first | (with_reducible exact up_refl _) | (with_reducible assumption) | (with_reducible refine up_alloc ?_ _) | (with_reducible refine up_drewN ?_ _) | (with_reducible refine up_drew ?_) | (with_reducible refine up_set ?_ (by first | (simp; done) | (simp; omega) | omega) _) | (refine up_trans ?_ (by with_reducible assumption))))⟩, by simp [intOf]; omega⟩
          · obtain rfl : jn = L := by omega
            have ek : k + jn = n := by omega
            have ep : ps.take n = ps := List.take_of_length_le (by rw [← unhide HLN]; exact Nat.le_refl _)
            rw [ek, ep] at f1 f3
            have fz := fun j => f5.frozenAt j
            obtain ⟨vs, hvs⟩ := run_clear_pts wr 0 g (d * 2) (n - d) (cap - d) (by omega) (fun j hj => by
              rw [f5.cellAt _ (by omega)]
              have : d * 2 + j < (cellsPl cur).length := by rw [cellsPl_length]; omega
              rw [List.getElem?_eq_getElem this]; rfl) (fun j _ => fz _)
            have f7 := own_setCells vs wr (d * 2) (own_prefix f5 (m := d) (by omega)) (Nat.le_refl _) hg
            rw [cellsPl_take, f3] at f7
            have F7 := hide (show _ ∧ Below B W (wr.setCells g (d * 2) vs) from ⟨f7.1, f6.trans f7.2⟩)
            obtain ⟨WS, hWS⟩ : ∃ WS, wr.setCells g (d * 2) vs = WS := ⟨_, rfl⟩
            rw [hWS] at hvs F7
            have F1 := hide f1
            have i4 : (d : Int) < (n : Int) := by omega
            have i5 : d < n := by omega
            have i6 : d ≤ cap := by omega
            clear f1 f3 f4 f5 f6 f5l f7 fz hWS ep ek
            go_wp2_with fail
            go_ret
            rw [← unhide F1]
            exact ⟨rfl, unhide F7⟩
    · obtain rfl : k = n := by omega
      have e : dedup ps = ps := by
        have := hd
        rwa [List.take_of_length_le (by rw [← unhide HLN]; exact Nat.le_refl _)] at this
      have HF : Hid ((dedup ps).length = k) := hide (by rw [e]; exact (unhide HLN).symm)
      have HE := hide e
      clear hd e
      go_wp2_with fail
      go_ret
      refine ⟨?_, ?_, hu.mono hB⟩
      · rw [unhide HF]; rfl
      · rw [unhide HF, unhide HE]; exact own_up (unhide HO) hu
theorem p_compact_any {B n cap g : Nat} {ps : Pl} (W : World) (h : W.ownsRow B 43 2 (.slice (some ⟨g, 0, none⟩) n cap) n (cellsPl ps)) (hB : B ≤ W.heap.size) (hg : B ≤ g) (h1 : 1 ≤ n) (hn : n ≤ 70000) (hcap : n ≤ cap) (hcap2 : cap ≤ 9223372036854775807) :
    Calls Tryz.prog 76 #[.slice (some ⟨g, 0, none⟩) n cap] W fun e w' => e = .returned (.slice (some ⟨g, 0, none⟩) (dedup ps).length cap) ∧
      w'.ownsRow B 43 2 (.slice (some ⟨g, 0, none⟩) (dedup ps).length cap) (dedup ps).length (cellsPl (dedup ps)) ∧ Below B W w' := by
  rcases Nat.lt_or_ge n 2 with h2 | h2
  · obtain rfl : n = 1 := by omega
    have hl := own_len h
    match ps, hl with
    | [p], _ => exact (p_compact1 W).mono fun e w' ⟨he, hw⟩ => ⟨he, by rw [← hw]; exact h, by rw [← hw]; exact Below.refl _ _⟩
  · exact p_compact W h hB hg h2 hn hcap hcap2
end Go.Proofs.YtooochbfnmmnkaaGreat
