/- The parts of a platform at a point. The sums of the groups of a platform. load's Check and Mass. load's allValid and Check. Slices of pieces and of eyes that are only read; the mass of pieces. The document's piece and eye: they take what load's isPiece takes. (genrefpiece.py) -/
import Derived.Test.YtooochbfnmmnkaaGreatPiece
import Derived.Test.YtooochbfnmmnkaaGreatName
import Derived.Test.YtooochbfnmmnkaaGreatPlat
namespace Go.Proofs.YtooochbfnmmnkaaGreat
open Go.RowKit Go.Proofs.Gn
def okPp (p : Pce) : Prop := (-131072 ≤ p.x ∧ p.x ≤ 131072) ∧ (-131072 ≤ p.y ∧ p.y ≤ 131072) ∧ (0 ≤ p.z ∧ p.z ≤ 131072) ∧ 1 ≤ p.l ∧ 1 ≤ p.w ∧ 1 ≤ p.h ∧ p.l ≤ 131072 - p.x ∧ p.w ≤ 131072 - p.y ∧ p.h ≤ 131072 - p.z ∧ (0 ≤ p.m ∧ p.m ≤ 16777216)
theorem okP_iff (p : Pce) : okP p = true ↔ okPp p := by
  unfold okP okPp plcL
  simp only [Bool.and_eq_true, win_iff]
  constructor <;> (intro h; omega)
theorem okP_no {p : Pce} (h : ¬ okPp p) : okP p = false := Bool.eq_false_iff.2 fun t => h ((okP_iff p).1 t)
theorem okP_yes {p : Pce} (h : okPp p) : okP p = true := (okP_iff p).2 h
/-- An eye. -/
structure Eye where
  (x y z s : Int)
abbrev eyV (p : Eye) : Value := .agg #[.int .i64 p.x, .int .i64 p.y, .int .i64 p.z, .int .i64 p.s]
/-- Is an eye valid, alone? -/
def okY (p : Eye) : Bool := plcL p.x p.y p.z && win p.s 0 4194304
def okYp (p : Eye) : Prop := (-131072 ≤ p.x ∧ p.x ≤ 131072) ∧ (-131072 ≤ p.y ∧ p.y ≤ 131072) ∧ (0 ≤ p.z ∧ p.z ≤ 131072) ∧ (0 ≤ p.s ∧ p.s ≤ 4194304)
theorem okY_iff (p : Eye) : okY p = true ↔ okYp p := by
  unfold okY okYp plcL
  simp only [Bool.and_eq_true, win_iff]
  constructor <;> (intro h; omega)
theorem okY_no {p : Eye} (h : ¬ okYp p) : okY p = false := Bool.eq_false_iff.2 fun t => h ((okY_iff p).1 t)
theorem okY_yes {p : Eye} (h : okYp p) : okY p = true := (okY_iff p).2 h
end Go.Proofs.YtooochbfnmmnkaaGreat
namespace Go.Proofs.YtooochbfnmmnkaaGreat
open Go.RowKit Go.Proofs.Gn
/-- The cells of a piece. -/
def PceAt (w : World) (b o : Nat) (p : Pce) : Prop :=
  w.cell? ⟨b, o, none⟩ = some (.int .i64 p.x) ∧ w.cell? ⟨b, o + 1, none⟩ = some (.int .i64 p.y) ∧ w.cell? ⟨b, o + 2, none⟩ = some (.int .i64 p.z) ∧ w.cell? ⟨b, o + 3, none⟩ = some (.int .i64 p.l) ∧ w.cell? ⟨b, o + 4, none⟩ = some (.int .i64 p.w) ∧ w.cell? ⟨b, o + 5, none⟩ = some (.int .i64 p.h) ∧ w.cell? ⟨b, o + 6, none⟩ = some (.int .i64 p.m)
theorem pceAt_up {w w' : World} {b o : Nat} {p : Pce} (h : PceAt w b o p) (hu : Up w w') : PceAt w' b o p :=
  ⟨up_cell hu h.1, up_cell hu h.2.1, up_cell hu h.2.2.1, up_cell hu h.2.2.2.1, up_cell hu h.2.2.2.2.1, up_cell hu h.2.2.2.2.2.1, up_cell hu h.2.2.2.2.2.2⟩
/-- The slice at A holds these pieces. -/
def Pcs (w : World) (A : Option Addr) (ps : List Pce) : Prop :=
  ps = [] ∨ ∃ b off, A = some ⟨b, off, none⟩ ∧ ∀ k (h : k < ps.length), PceAt w b (off + k * 7) ps[k]
theorem pcs_up {w w' : World} {A : Option Addr} {ps : List Pce} (h : Pcs w A ps) (hu : Up w w') : Pcs w' A ps := by
  rcases h with h | ⟨b, off, hA, hc⟩
  · exact .inl h
  · exact .inr ⟨b, off, hA, fun k hk => pceAt_up (hc k hk) hu⟩
/-- The cells of an eye. -/
def EyeAt (w : World) (b o : Nat) (p : Eye) : Prop :=
  w.cell? ⟨b, o, none⟩ = some (.int .i64 p.x) ∧ w.cell? ⟨b, o + 1, none⟩ = some (.int .i64 p.y) ∧ w.cell? ⟨b, o + 2, none⟩ = some (.int .i64 p.z) ∧ w.cell? ⟨b, o + 3, none⟩ = some (.int .i64 p.s)
theorem eyeAt_up {w w' : World} {b o : Nat} {p : Eye} (h : EyeAt w b o p) (hu : Up w w') : EyeAt w' b o p :=
  ⟨up_cell hu h.1, up_cell hu h.2.1, up_cell hu h.2.2.1, up_cell hu h.2.2.2⟩
/-- The slice at A holds these eyes. -/
def Eyes (w : World) (A : Option Addr) (ys : List Eye) : Prop :=
  ys = [] ∨ ∃ b off, A = some ⟨b, off, none⟩ ∧ ∀ k (h : k < ys.length), EyeAt w b (off + k * 4) ys[k]
theorem eyes_up {w w' : World} {A : Option Addr} {ys : List Eye} (h : Eyes w A ys) (hu : Up w w') : Eyes w' A ys := by
  rcases h with h | ⟨b, off, hA, hc⟩
  · exact .inl h
  · exact .inr ⟨b, off, hA, fun k hk => eyeAt_up (hc k hk) hu⟩
def okPs (ps : List Pce) : Bool := ps.all okP
def okYs (ys : List Eye) : Bool := ys.all okY
theorem all_atP {α : Type} {f : α → Bool} {l : List α} {k : Nat} (h : k < l.length) (hk : f l[k] = false) : l.all f = false := by
  rw [List.all_eq_false]
  exact ⟨l[k], List.getElem_mem h, by simp [hk]⟩
theorem all_take {α : Type} {f : α → Bool} {l : List α} {k : Nat} (h : k < l.length) (hk : (l.take k).all f = true) (h1 : f l[k] = true) : (l.take (k + 1)).all f = true := by
  rw [List.take_succ_eq_append_getElem h, List.all_append, hk]
  simp [h1]
theorem okPs_get {ps : List Pce} (h : okPs ps = true) {k : Nat} (hk : k < ps.length) : okP ps[k] = true := by
  unfold okPs at h
  exact List.all_eq_true.1 h _ (List.getElem_mem hk)
/-- The mass of pieces. -/
def mas : List Pce → Int
  | [] => 0
  | p :: ps => p.m + mas ps
theorem mas_append (a b : List Pce) : mas (a ++ b) = mas a + mas b := by
  induction a with
  | nil => simp [mas]
  | cons p a ih => simp only [List.cons_append, mas, ih]; omega
theorem mas_take {ps : List Pce} {k : Nat} (h : k < ps.length) : mas (ps.take (k + 1)) = mas (ps.take k) + ps[k].m := by
  rw [List.take_succ_eq_append_getElem h, mas_append]
  simp [mas]
theorem mas_bd {ps : List Pce} (h : okPs ps = true) (k : Nat) (hk : k ≤ ps.length) : 0 ≤ mas (ps.take k) ∧ mas (ps.take k) ≤ 16777216 * k := by
  induction k with
  | zero => simp [mas]
  | succ k ih =>
    have i := ih (by omega)
    have t := (okP_iff _).1 (okPs_get h (k := k) (by omega))
    unfold okPp at t
    rw [mas_take (by omega)]
    omega
set_option maxRecDepth 100000 in
set_option maxHeartbeats 4000000 in
theorem p_mass (A : Option Addr) (ps : List Pce) (cap : Nat) (w : World) (h : Pcs w A ps) (ho : okPs ps = true) (hn : ps.length ≤ 32) :
    Calls Tryz.prog 24 #[.slice A ps.length cap] w fun e w' => e = .returned (.int .i64 (mas ps)) ∧ Up w w' := by
  rcases h with rfl | ⟨b, off, rfl, hc⟩
  · go_enter Tryz.func24, Tryz.ntmps24
    go_wp2_with fail
    go_rounds 1
    go_ret
    exact ⟨rfl, (by repeat' (first | (with_reducible exact up_refl _) | (with_reducible assumption) | (with_reducible refine up_alloc ?_ _) | (with_reducible refine up_drewN ?_ _) | (with_reducible refine up_drew ?_) | (with_reducible refine up_set ?_ (by first | (simp; done) | (simp; omega) | omega) _) | (refine up_trans ?_ (by with_reducible assumption))))⟩
  have HC := hide hc
  have HO := hide ho
  clear hc ho
  obtain ⟨n, hN⟩ : ∃ n, ps.length = n := ⟨_, rfl⟩
  rw [hN] at hn ⊢
  have HN := hide hN
  clear hN
  go_enter Tryz.func24, Tryz.ntmps24
  go_wp2_with fail
  go_loopw [3, 8] (fun s i wr => ∃ k : Nat, k ≤ n ∧ s = .int .i64 (mas (ps.take k)) ∧ i = .int .i64 k ∧ Up w wr) (fun _ i _ => n - (intOf i).toNat)
  case atStart => exact ⟨0, by omega, rfl, rfl, (by repeat' (first | (with_reducible exact up_refl _) | (with_reducible assumption) | (with_reducible refine up_alloc ?_ _) | (with_reducible refine up_drewN ?_ _) | (with_reducible refine up_drew ?_) | (with_reducible refine up_set ?_ (by first | (simp; done) | (simp; omega) | omega) _) | (refine up_trans ?_ (by with_reducible assumption))))⟩
  case round =>
    obtain ⟨k, hk, rfl, rfl, hu⟩ := hrel
    by_cases hlt : k < n
    · have hl : k < ps.length := by rw [unhide HN]; exact hlt
      have hp := pceAt_up (unhide HC k hl) hu
      obtain ⟨d0, d1, d2, d3, d4, d5, d6⟩ := hp
      have bk := mas_bd (unhide HO) k (by rw [unhide HN]; exact hk)
      have bs := mas_bd (unhide HO) (k + 1) hl
      have ht := mas_take hl
      obtain ⟨S, hS⟩ : ∃ S, mas (ps.take k) = S := ⟨_, rfl⟩
      obtain ⟨m, hm⟩ : ∃ m, ps[k].m = m := ⟨_, rfl⟩
      rw [hS] at bk ht ⊢
      rw [hm] at d6 ht
      have HT := hide ht
      have hw1 : IntKind.i64.wrap (S + m) = S + m := IntWalk.i64_in _ ⟨by omega, by omega⟩
      have hw2 : IntKind.i64.wrap ((k : Int) + 1) = (k : Int) + 1 := IntWalk.i64_in _ ⟨by omega, by omega⟩
      clear bk bs ht hS hm
      go_wp2_with fail
      go_roundw
      case rel => exact ⟨k + 1, by omega, by rw [unhide HT], by first | rfl | trivial | go_num, (by repeat' (first | (with_reducible exact up_refl _) | (with_reducible assumption) | (with_reducible refine up_alloc ?_ _) | (with_reducible refine up_drewN ?_ _) | (with_reducible refine up_drew ?_) | (with_reducible refine up_set ?_ (by first | (simp; done) | (simp; omega) | omega) _) | (refine up_trans ?_ (by with_reducible assumption))))⟩
      case measure => simp [intOf]; omega
    · obtain rfl : k = n := by omega
      have hF : mas (ps.take k) = mas ps := by rw [List.take_of_length_le (by rw [unhide HN]; omega)]
      have HF := hide hF
      clear hF
      go_wp2_with fail
      go_ret
      exact ⟨by rw [← unhide HF]; rfl, hu⟩
end Go.Proofs.YtooochbfnmmnkaaGreat
namespace Go.Proofs.YtooochbfnmmnkaaGreat
open Go.RowKit Go.Proofs.Gn
abbrev loV (s : ByteArray) (A : Option Addr) (n capA : Nat) (B : Option Addr) (m capB : Nat) (f : Int) : Value :=
  .agg #[.string s, .slice A n capA, .slice B m capB, .int .i64 f]
set_option maxRecDepth 100000 in
set_option maxHeartbeats 8000000 in
theorem p_allValid (s : ByteArray) (A : Option Addr) (ps : List Pce) (capA : Nat) (B : Option Addr) (ys : List Eye) (capB : Nat) (f : Int) (w : World) (hA : Pcs w A ps) (hB : Eyes w B ys) (hn : ps.length ≤ 32) (hm : ys.length ≤ 32) :
    Calls Tryz.prog 50 #[loV s A ps.length capA B ys.length capB f] w fun e w' => e = .returned (.bool (okPs ps && okYs ys)) ∧ Up w w' := by
  have HPI := hide (fun p W => p_isPiece p W)
  have HPL := hide (fun x y z W => p_isPlace x y z W)
  obtain ⟨n, hN⟩ : ∃ n, ps.length = n := ⟨_, rfl⟩
  obtain ⟨m, hM⟩ : ∃ n, ys.length = n := ⟨_, rfl⟩
  rw [hN] at hn ⊢
  rw [hM] at hm ⊢
  have HN := hide hN
  have HM := hide hM
  have HA := hide hA
  have HB := hide hB
  clear hN hM hA hB
  go_enter Tryz.func50, Tryz.ntmps50
  go_upto_region 1 with fail
  refine at_wp (fun W0 hW0 => ?_)
  have U0 : Up w W0 := by rw [hW0]; exact (by repeat' (first | (with_reducible exact up_refl _) | (with_reducible assumption) | (with_reducible refine up_alloc ?_ _) | (with_reducible refine up_drewN ?_ _) | (with_reducible refine up_drew ?_) | (with_reducible refine up_set ?_ (by first | (simp; done) | (simp; omega) | omega) _) | (refine up_trans ?_ (by with_reducible assumption))))
  have B0 : Bx W0 w.heap.size [.string s, .slice A n capA, .slice B m capB, .int .i64 f] := by rw [hW0]; exact bx_new w _ 27
  clear hW0
  have c1 := (B0 1 _ rfl).1
  go_wp2_with fail
  go_loopw [10] (fun i wr => ∃ k : Nat, k ≤ n ∧ i = .int .i64 k ∧ Up W0 wr ∧ okPs (ps.take k) = true) (fun i _ => n - (intOf i).toNat)
  case atStart => exact ⟨0, by omega, rfl, up_refl _, rfl⟩
  case round =>
    obtain ⟨k, hk, rfl, hu, ho⟩ := hrel
    have HO := hide ho
    clear ho c1
    have B1 := bx_up B0 hu
    by_cases hlt : k < n
    · have hl : k < ps.length := by rw [unhide HN]; exact hlt
      rcases pcs_up (unhide HA) (up_trans U0 hu) with hnil | ⟨b, off, rfl, hc⟩
      · rw [hnil] at hl; simp at hl
      obtain ⟨d0, d1, d2, d3, d4, d5, d6⟩ := hc k hl
      clear hc
      have HI := hide (fun W => unhide HPI ps[k] W)
      have HF := hide (fun h => all_atP (f := okP) hl h)
      have HT := hide (fun h => all_take (f := okP) hl (unhide HO) h)
      obtain ⟨q, hq⟩ : ∃ q, okP ps[k] = q := ⟨_, rfl⟩
      rw [hq] at HI HF HT
      clear hq
      obtain ⟨x, hx⟩ : ∃ x, ps[k].x = x := ⟨_, rfl⟩
      obtain ⟨y, hy⟩ : ∃ x, ps[k].y = x := ⟨_, rfl⟩
      obtain ⟨z, hz⟩ : ∃ x, ps[k].z = x := ⟨_, rfl⟩
      obtain ⟨l, hL⟩ : ∃ x, ps[k].l = x := ⟨_, rfl⟩
      obtain ⟨wd, hwd⟩ : ∃ x, ps[k].w = x := ⟨_, rfl⟩
      obtain ⟨h, hh⟩ : ∃ x, ps[k].h = x := ⟨_, rfl⟩
      obtain ⟨mm, hmm⟩ : ∃ x, ps[k].m = x := ⟨_, rfl⟩
      rw [hx] at d0; rw [hy] at d1; rw [hz] at d2; rw [hL] at d3; rw [hwd] at d4; rw [hh] at d5; rw [hmm] at d6
      have HI2 : Hid (∀ W, Calls Tryz.prog 79 #[.agg #[.int .i64 x, .int .i64 y, .int .i64 z, .int .i64 l, .int .i64 wd, .int .i64 h, .int .i64 mm]] W fun e w' => e = .returned (.bool q) ∧ Up W w') := by
        rw [← hx, ← hy, ← hz, ← hL, ← hwd, ← hh, ← hmm]; exact HI
      clear hx hy hz hL hwd hh hmm HI
      cases q
      · have HF2 := hide (show okPs ps = false from unhide HF rfl)
        clear HF HT
        go_wp2_with (go_at_call 79; (with_reducible refine (unhide HI2 _).mono ?_); rintro e w1 ⟨rfl, hb⟩)
        go_ret
        exact ⟨by rw [unhide HF2]; rfl, (by repeat' (first | (with_reducible exact up_refl _) | (with_reducible assumption) | (with_reducible refine up_alloc ?_ _) | (with_reducible refine up_drewN ?_ _) | (with_reducible refine up_drew ?_) | (with_reducible refine up_set ?_ (by first | (simp; done) | (simp; omega) | omega) _) | (refine up_trans ?_ (by with_reducible assumption))))⟩
      · have HT2 := hide (show okPs (ps.take (k + 1)) = true from unhide HT rfl)
        clear HF HT
        go_wp2_with (go_at_call 79; (with_reducible refine (unhide HI2 _).mono ?_); rintro e w1 ⟨rfl, hb⟩)
        go_roundw
        case rel => exact ⟨k + 1, by omega, by first | rfl | trivial | go_num, (by repeat' (first | (with_reducible exact up_refl _) | (with_reducible assumption) | (with_reducible refine up_alloc ?_ _) | (with_reducible refine up_drewN ?_ _) | (with_reducible refine up_drew ?_) | (with_reducible refine up_set ?_ (by first | (simp; done) | (simp; omega) | omega) _) | (refine up_trans ?_ (by with_reducible assumption)))), unhide HT2⟩
        case measure => simp [intOf]; omega
    · obtain rfl : k = n := by omega
      have HP := hide (show okPs ps = true by have t := unhide HO; rwa [List.take_of_length_le (by rw [unhide HN]; omega)] at t)
      have V1 := up_trans U0 hu
      have c2 := (B1 2 _ rfl).1
      clear HO hu HPI
      go_wp2_with fail
      obtain ⟨wo, hwo⟩ : ∃ wo, wo = wr := ⟨_, rfl⟩
      rw [← hwo] at V1 B1 c2 ⊢
      clear hwo
      go_loopw [21] (fun i wr => ∃ k : Nat, k ≤ m ∧ i = .int .i64 k ∧ Up wo wr ∧ okYs (ys.take k) = true) (fun i _ => m - (intOf i).toNat)
      case atStart => exact ⟨0, by omega, rfl, up_refl _, rfl⟩
      case round =>
        obtain ⟨j, hj, rfl, hu, ho⟩ := hrel
        have HO := hide ho
        have V2 := up_trans V1 hu
        clear ho c2
        by_cases hlt : j < m
        · have hl : j < ys.length := by rw [unhide HM]; exact hlt
          rcases eyes_up (unhide HB) V2 with hnil | ⟨b, off, rfl, hc⟩
          · rw [hnil] at hl; simp at hl
          obtain ⟨d0, d1, d2, d3⟩ := hc j hl
          clear hc
          have hy : okY ys[j] = (plcL ys[j].x ys[j].y ys[j].z && win ys[j].s 0 4194304) := rfl
          have HI := hide (fun W => unhide HPL ys[j].x ys[j].y ys[j].z W)
          have HW := hide (fun W => p_withinL ys[j].s 0 4194304 W)
          have HF := hide (fun h => all_atP (f := okY) hl h)
          have HT := hide (fun h => all_take (f := okY) hl (unhide HO) h)
          rw [hy] at HF HT
          clear hy
          generalize plcL ys[j].x ys[j].y ys[j].z = q at *
          generalize win ys[j].s 0 4194304 = r at *
          obtain ⟨x, hx⟩ : ∃ x, ys[j].x = x := ⟨_, rfl⟩
          obtain ⟨y, hy⟩ : ∃ x, ys[j].y = x := ⟨_, rfl⟩
          obtain ⟨z, hz⟩ : ∃ x, ys[j].z = x := ⟨_, rfl⟩
          obtain ⟨t, ht⟩ : ∃ x, ys[j].s = x := ⟨_, rfl⟩
          rw [hx] at d0 HI; rw [hy] at d1 HI; rw [hz] at d2 HI; rw [ht] at d3 HW
          clear hx hy hz ht
          cases q
          · have HF2 := hide (show okYs ys = false from unhide HF rfl)
            clear HF HT
            go_wp2_with (go_at_call 80; (with_reducible refine (unhide HI _).mono ?_); rintro e w1 ⟨rfl, hb⟩)
            go_ret
            exact ⟨by rw [unhide HF2, Bool.and_false]; rfl, (by repeat' (first | (with_reducible exact up_refl _) | (with_reducible assumption) | (with_reducible refine up_alloc ?_ _) | (with_reducible refine up_drewN ?_ _) | (with_reducible refine up_drew ?_) | (with_reducible refine up_set ?_ (by first | (simp; done) | (simp; omega) | omega) _) | (refine up_trans ?_ (by with_reducible assumption))))⟩
          cases r
          · have HF2 := hide (show okYs ys = false from unhide HF rfl)
            clear HF HT
            have KD : ∀ w1 : World, Up (wr.alloc (.cells #[.int .i64 x, .int .i64 y, .int .i64 z, .int .i64 t] 96)) w1 → w1.cell? ⟨wr.heap.size, 3, none⟩ = some (.int .i64 t) := fun w1 hb => (bx_up (bx_new wr [.int .i64 x, .int .i64 y, .int .i64 z, .int .i64 t] 96) hb 3 _ rfl).1
            have HKD := hide KD
            clear KD
            go_wp2_with (first | (go_at_call 80; (with_reducible refine (unhide HI _).mono ?_); rintro e w1 ⟨rfl, hb⟩; have kd := unhide HKD _ hb) | (go_at_call 49; (with_reducible refine (unhide HW _).mono ?_); rintro e w2 ⟨rfl, rfl⟩))
            go_ret
            exact ⟨by rw [unhide HF2, Bool.and_false]; rfl, (by repeat' (first | (with_reducible exact up_refl _) | (with_reducible assumption) | (with_reducible refine up_alloc ?_ _) | (with_reducible refine up_drewN ?_ _) | (with_reducible refine up_drew ?_) | (with_reducible refine up_set ?_ (by first | (simp; done) | (simp; omega) | omega) _) | (refine up_trans ?_ (by with_reducible assumption))))⟩
          · have HT2 := hide (show okYs (ys.take (j + 1)) = true from unhide HT rfl)
            clear HF HT
            have KD : ∀ w1 : World, Up (wr.alloc (.cells #[.int .i64 x, .int .i64 y, .int .i64 z, .int .i64 t] 96)) w1 → w1.cell? ⟨wr.heap.size, 3, none⟩ = some (.int .i64 t) := fun w1 hb => (bx_up (bx_new wr [.int .i64 x, .int .i64 y, .int .i64 z, .int .i64 t] 96) hb 3 _ rfl).1
            have HKD := hide KD
            clear KD
            go_wp2_with (first | (go_at_call 80; (with_reducible refine (unhide HI _).mono ?_); rintro e w1 ⟨rfl, hb⟩; have kd := unhide HKD _ hb) | (go_at_call 49; (with_reducible refine (unhide HW _).mono ?_); rintro e w2 ⟨rfl, rfl⟩))
            go_roundw
            case rel => exact ⟨j + 1, by omega, by first | rfl | trivial | go_num, (by repeat' (first | (with_reducible exact up_refl _) | (with_reducible assumption) | (with_reducible refine up_alloc ?_ _) | (with_reducible refine up_drewN ?_ _) | (with_reducible refine up_drew ?_) | (with_reducible refine up_set ?_ (by first | (simp; done) | (simp; omega) | omega) _) | (refine up_trans ?_ (by with_reducible assumption)))), unhide HT2⟩
            case measure => simp [intOf]; omega
        · obtain rfl : j = m := by omega
          have HY := hide (show okYs ys = true by have t := unhide HO; rwa [List.take_of_length_le (by rw [unhide HM]; omega)] at t)
          clear HO
          go_wp2_with fail
          go_ret
          exact ⟨by rw [unhide HP, unhide HY]; rfl, V2⟩
end Go.Proofs.YtooochbfnmmnkaaGreat
namespace Go.Proofs.YtooochbfnmmnkaaGreat
open Go.RowKit Go.Proofs.Gn
/-- Which error a load has. -/
def loE (s : ByteArray) (ps : List Pce) (ys : List Eye) (f : Int) : Int :=
  if 1 ≤ ps.length ∧ ps.length ≤ 32 ∧ ys.length ≤ 32 then
    (if nmS s = true ∧ win f 0 1000 = true ∧ (okPs ps && okYs ys) = true ∧ win (mas ps) 1 16777216 = true then 0 else 2)
  else 6
def loM (s : ByteArray) (ps : List Pce) (ys : List Eye) (f : Int) : Int := if loE s ps ys f = 0 then mas ps else 0
theorem loE_ok {s : ByteArray} {ps : List Pce} {ys : List Eye} {f : Int} (h : loE s ps ys f = 0) :
    (1 ≤ ps.length ∧ ps.length ≤ 32 ∧ ys.length ≤ 32) ∧ nmS s = true ∧ (0 ≤ f ∧ f ≤ 1000) ∧ okPs ps = true ∧ okYs ys = true ∧ 1 ≤ mas ps ∧ mas ps ≤ 16777216 := by
  unfold loE at h
  split at h
  · rename_i h1
    split at h
    · rename_i h2
      obtain ⟨a, b, c, d⟩ := h2
      rw [Bool.and_eq_true] at c
      exact ⟨h1, a, win_t b, c.1, c.2, win_t d⟩
    · cases h
  · cases h
theorem lo6 {s : ByteArray} {ps : List Pce} {ys : List Eye} {f : Int} (h : ¬ (1 ≤ ps.length ∧ ps.length ≤ 32 ∧ ys.length ≤ 32)) : loE s ps ys f = 6 := by
  unfold loE; rw [if_neg h]
theorem lo2 {s : ByteArray} {ps : List Pce} {ys : List Eye} {f : Int} (g : 1 ≤ ps.length ∧ ps.length ≤ 32 ∧ ys.length ≤ 32) (h : nmS s = false ∨ win f 0 1000 = false ∨ (okPs ps && okYs ys) = false ∨ win (mas ps) 1 16777216 = false) : loE s ps ys f = 2 := by
  unfold loE
  rw [if_pos g, if_neg]
  rintro ⟨a, b, c, d⟩
  rcases h with h | h | h | h <;> simp_all
theorem lo0 {s : ByteArray} {ps : List Pce} {ys : List Eye} {f : Int} (g : 1 ≤ ps.length ∧ ps.length ≤ 32 ∧ ys.length ≤ 32) (a : nmS s = true) (b : win f 0 1000 = true) (c : (okPs ps && okYs ys) = true) (d : win (mas ps) 1 16777216 = true) : loE s ps ys f = 0 := by
  unfold loE
  rw [if_pos g, if_pos ⟨a, b, c, d⟩]
set_option maxRecDepth 100000 in
set_option maxHeartbeats 8000000 in
theorem p_CheckL (s : ByteArray) (A : Option Addr) (ps : List Pce) (capA : Nat) (B : Option Addr) (ys : List Eye) (capB : Nat) (f : Int) (w : World) (hA : Pcs w A ps) (hB : Eyes w B ys) (hn : ps.length ≤ 9223372036854775807) (hm : ys.length ≤ 9223372036854775807) :
    Calls Tryz.prog 23 #[loV s A ps.length capA B ys.length capB f] w fun e w' => e = .returned (.int .i64 (loE s ps ys f)) ∧ Up w w' := by
  have HE6 := hide (lo6 (s := s) (ps := ps) (ys := ys) (f := f))
  have HE2 := hide (lo2 (s := s) (ps := ps) (ys := ys) (f := f))
  have HE0 := hide (lo0 (s := s) (ps := ps) (ys := ys) (f := f))
  have HV := hide (fun W (hW : Up w W) h1 h2 => p_allValid s A ps capA B ys capB f W (pcs_up hA hW) (eyes_up hB hW) h1 h2)
  have HM := hide (fun W (hW : Up w W) h1 h2 => p_mass A ps capA W (pcs_up hA hW) h1 h2)
  have HK := hide (fun (h : (okPs ps && okYs ys) = true) => (by rw [Bool.and_eq_true] at h; exact h.1 : okPs ps = true))
  have HNm := hide (fun W => p_IsName s W)
  have HF := hide (fun W => p_withinL f 0 1000 W)
  have HW := hide (fun W => p_withinL (mas ps) 1 16777216 W)
  clear hA hB
  generalize loE s ps ys f = E at *
  generalize nmS s = q0 at *
  generalize win f 0 1000 = q1 at *
  generalize (okPs ps && okYs ys) = q2 at *
  generalize win (mas ps) 1 16777216 = q3 at *
  generalize mas ps = S at *
  generalize ps.length = n at *
  generalize ys.length = m at *
  by_cases g1 : (1 : Int) ≤ n
  rotate_left
  · have F := hide (unhide HE6 (by omega))
    go_enter Tryz.func23, Tryz.ntmps23
    go_wp2_with fail
    go_ret
    exact ⟨by rw [unhide F]; rfl, (by repeat' (first | (with_reducible exact up_refl _) | (with_reducible assumption) | (with_reducible refine up_alloc ?_ _) | (with_reducible refine up_drewN ?_ _) | (with_reducible refine up_drew ?_) | (with_reducible refine up_set ?_ (by first | (simp; done) | (simp; omega) | omega) _) | (refine up_trans ?_ (by with_reducible assumption))))⟩
  by_cases g2 : 32 < (n : Int)
  · have F := hide (unhide HE6 (by omega))
    go_enter Tryz.func23, Tryz.ntmps23
    go_wp2_with fail
    go_ret
    exact ⟨by rw [unhide F]; rfl, (by repeat' (first | (with_reducible exact up_refl _) | (with_reducible assumption) | (with_reducible refine up_alloc ?_ _) | (with_reducible refine up_drewN ?_ _) | (with_reducible refine up_drew ?_) | (with_reducible refine up_set ?_ (by first | (simp; done) | (simp; omega) | omega) _) | (refine up_trans ?_ (by with_reducible assumption))))⟩
  by_cases g3 : 32 < (m : Int)
  · have F := hide (unhide HE6 (by omega))
    go_enter Tryz.func23, Tryz.ntmps23
    go_wp2_with fail
    go_ret
    exact ⟨by rw [unhide F]; rfl, (by repeat' (first | (with_reducible exact up_refl _) | (with_reducible assumption) | (with_reducible refine up_alloc ?_ _) | (with_reducible refine up_drewN ?_ _) | (with_reducible refine up_drew ?_) | (with_reducible refine up_set ?_ (by first | (simp; done) | (simp; omega) | omega) _) | (refine up_trans ?_ (by with_reducible assumption))))⟩
  have HG := hide (show 1 ≤ n ∧ n ≤ 32 ∧ m ≤ 32 by omega)
  cases q0
  · have F := hide (unhide HE2 (unhide HG) (.inl rfl))
    clear HE6 HE2 HE0 HV HM HK HF HW
    go_enter Tryz.func23, Tryz.ntmps23
    go_wp2_with (go_at_call 48; (with_reducible refine (unhide HNm _).mono ?_); rintro e w1 ⟨rfl, hb⟩)
    go_ret
    exact ⟨by rw [unhide F]; rfl, (by repeat' (first | (with_reducible exact up_refl _) | (with_reducible assumption) | (with_reducible refine up_alloc ?_ _) | (with_reducible refine up_drewN ?_ _) | (with_reducible refine up_drew ?_) | (with_reducible refine up_set ?_ (by first | (simp; done) | (simp; omega) | omega) _) | (refine up_trans ?_ (by with_reducible assumption))))⟩
  cases q1
  · have F := hide (unhide HE2 (unhide HG) (.inr (.inl rfl)))
    clear HE6 HE2 HE0 HV HM HK HW
    go_enter Tryz.func23, Tryz.ntmps23
    go_upto_region 1 with fail
    refine at_wp (fun W0 hW0 => ?_)
    have U0 : Up w W0 := by rw [hW0]; exact (by repeat' (first | (with_reducible exact up_refl _) | (with_reducible assumption) | (with_reducible refine up_alloc ?_ _) | (with_reducible refine up_drewN ?_ _) | (with_reducible refine up_drew ?_) | (with_reducible refine up_set ?_ (by first | (simp; done) | (simp; omega) | omega) _) | (refine up_trans ?_ (by with_reducible assumption))))
    have B0 : Bx W0 w.heap.size [.string s, .slice A n capA, .slice B m capB, .int .i64 f] := by rw [hW0]; exact bx_new w _ 27
    clear hW0
    have c0 := (B0 0 _ rfl).1
    have c1 := (B0 1 _ rfl).1
    have c2 := (B0 2 _ rfl).1
    go_wp2_with (first | (go_at_call 48; (with_reducible refine (unhide HNm _).mono ?_); rintro e w1 ⟨rfl, hb⟩; have c3 := (bx_up B0 hb 3 _ rfl).1) | (go_at_call 49; (with_reducible refine (unhide HF _).mono ?_); rintro e w2 ⟨rfl, rfl⟩))
    go_ret
    exact ⟨by rw [unhide F]; rfl, up_trans U0 hb⟩
  cases q2
  · have F := hide (unhide HE2 (unhide HG) (.inr (.inr (.inl rfl))))
    clear HE6 HE2 HE0 HM HK HW
    go_enter Tryz.func23, Tryz.ntmps23
    go_upto_region 1 with fail
    refine at_wp (fun W0 hW0 => ?_)
    have U0 : Up w W0 := by rw [hW0]; exact (by repeat' (first | (with_reducible exact up_refl _) | (with_reducible assumption) | (with_reducible refine up_alloc ?_ _) | (with_reducible refine up_drewN ?_ _) | (with_reducible refine up_drew ?_) | (with_reducible refine up_set ?_ (by first | (simp; done) | (simp; omega) | omega) _) | (refine up_trans ?_ (by with_reducible assumption))))
    have B0 : Bx W0 w.heap.size [.string s, .slice A n capA, .slice B m capB, .int .i64 f] := by rw [hW0]; exact bx_new w _ 27
    clear hW0
    have c0 := (B0 0 _ rfl).1
    have c1 := (B0 1 _ rfl).1
    have c2 := (B0 2 _ rfl).1
    have L1 := (unhide HG).2.1
    have L2 := (unhide HG).2.2
    have HL := hide (And.intro L1 L2)
    clear L1 L2
    go_upto_region 3 with fail
    go_wp2_with (first | (go_at_call 48; (with_reducible refine (unhide HNm _).mono ?_); rintro e w1 ⟨rfl, hb⟩; have B1 := bx_up B0 hb; have k0 := (B1 0 _ rfl).1; have k1 := (B1 1 _ rfl).1; have k2 := (B1 2 _ rfl).1; have k3 := (B1 3 _ rfl).1; have U1 := up_trans U0 hb) | (go_at_call 49; (with_reducible refine (unhide HF _).mono ?_); rintro e w2 ⟨rfl, rfl⟩) | (go_at_call 50; (with_reducible refine (unhide HV _ U1 (unhide HL).1 (unhide HL).2).mono ?_); rintro e w3 ⟨rfl, hb3⟩; have m1 := (bx_up B1 hb3 1 _ rfl).1; have U3 := up_trans U1 hb3))
    go_ret
    exact ⟨by rw [unhide F]; rfl, U3⟩
  have HOk := hide (unhide HK rfl)
  clear HK
  cases q3
  · have F := hide (unhide HE2 (unhide HG) (.inr (.inr (.inr rfl))))
    clear HE6 HE2 HE0
    go_enter Tryz.func23, Tryz.ntmps23
    go_upto_region 1 with fail
    refine at_wp (fun W0 hW0 => ?_)
    have U0 : Up w W0 := by rw [hW0]; exact (by repeat' (first | (with_reducible exact up_refl _) | (with_reducible assumption) | (with_reducible refine up_alloc ?_ _) | (with_reducible refine up_drewN ?_ _) | (with_reducible refine up_drew ?_) | (with_reducible refine up_set ?_ (by first | (simp; done) | (simp; omega) | omega) _) | (refine up_trans ?_ (by with_reducible assumption))))
    have B0 : Bx W0 w.heap.size [.string s, .slice A n capA, .slice B m capB, .int .i64 f] := by rw [hW0]; exact bx_new w _ 27
    clear hW0
    have c0 := (B0 0 _ rfl).1
    have c1 := (B0 1 _ rfl).1
    have c2 := (B0 2 _ rfl).1
    have L1 := (unhide HG).2.1
    have L2 := (unhide HG).2.2
    have HL := hide (And.intro L1 L2)
    clear L1 L2
    go_upto_region 3 with fail
    go_wp2_with (first | (go_at_call 48; (with_reducible refine (unhide HNm _).mono ?_); rintro e w1 ⟨rfl, hb⟩; have B1 := bx_up B0 hb; have k0 := (B1 0 _ rfl).1; have k1 := (B1 1 _ rfl).1; have k2 := (B1 2 _ rfl).1; have k3 := (B1 3 _ rfl).1; have U1 := up_trans U0 hb) | (go_at_call 49; (with_reducible refine (unhide HF _).mono ?_); rintro e w2 ⟨rfl, rfl⟩) | (go_at_call 50; (with_reducible refine (unhide HV _ U1 (unhide HL).1 (unhide HL).2).mono ?_); rintro e w3 ⟨rfl, hb3⟩; have m1 := (bx_up B1 hb3 1 _ rfl).1; have U3 := up_trans U1 hb3) | (go_at_call 24; (with_reducible refine (unhide HM _ U3 (unhide HOk) (unhide HL).1).mono ?_); rintro e w4 ⟨rfl, hb4⟩; have U4 := up_trans U3 hb4) | (go_at_call 49; (with_reducible refine (unhide HW _).mono ?_); rintro e w5 ⟨rfl, rfl⟩))
    go_ret
    exact ⟨by rw [unhide F]; rfl, U4⟩
  · have F := hide (unhide HE0 (unhide HG) rfl rfl rfl rfl)
    clear HE6 HE2 HE0
    go_enter Tryz.func23, Tryz.ntmps23
    go_upto_region 1 with fail
    refine at_wp (fun W0 hW0 => ?_)
    have U0 : Up w W0 := by rw [hW0]; exact (by repeat' (first | (with_reducible exact up_refl _) | (with_reducible assumption) | (with_reducible refine up_alloc ?_ _) | (with_reducible refine up_drewN ?_ _) | (with_reducible refine up_drew ?_) | (with_reducible refine up_set ?_ (by first | (simp; done) | (simp; omega) | omega) _) | (refine up_trans ?_ (by with_reducible assumption))))
    have B0 : Bx W0 w.heap.size [.string s, .slice A n capA, .slice B m capB, .int .i64 f] := by rw [hW0]; exact bx_new w _ 27
    clear hW0
    have c0 := (B0 0 _ rfl).1
    have c1 := (B0 1 _ rfl).1
    have c2 := (B0 2 _ rfl).1
    have L1 := (unhide HG).2.1
    have L2 := (unhide HG).2.2
    have HL := hide (And.intro L1 L2)
    clear L1 L2
    go_upto_region 3 with fail
    go_wp2_with (first | (go_at_call 48; (with_reducible refine (unhide HNm _).mono ?_); rintro e w1 ⟨rfl, hb⟩; have B1 := bx_up B0 hb; have k0 := (B1 0 _ rfl).1; have k1 := (B1 1 _ rfl).1; have k2 := (B1 2 _ rfl).1; have k3 := (B1 3 _ rfl).1; have U1 := up_trans U0 hb) | (go_at_call 49; (with_reducible refine (unhide HF _).mono ?_); rintro e w2 ⟨rfl, rfl⟩) | (go_at_call 50; (with_reducible refine (unhide HV _ U1 (unhide HL).1 (unhide HL).2).mono ?_); rintro e w3 ⟨rfl, hb3⟩; have m1 := (bx_up B1 hb3 1 _ rfl).1; have U3 := up_trans U1 hb3) | (go_at_call 24; (with_reducible refine (unhide HM _ U3 (unhide HOk) (unhide HL).1).mono ?_); rintro e w4 ⟨rfl, hb4⟩; have U4 := up_trans U3 hb4) | (go_at_call 49; (with_reducible refine (unhide HW _).mono ?_); rintro e w5 ⟨rfl, rfl⟩))
    go_ret
    exact ⟨by rw [unhide F]; rfl, U4⟩
set_option maxRecDepth 100000 in
theorem p_MassL (s : ByteArray) (A : Option Addr) (ps : List Pce) (capA : Nat) (B : Option Addr) (ys : List Eye) (capB : Nat) (f : Int) (w : World) (hA : Pcs w A ps) (hB : Eyes w B ys) (hn : ps.length ≤ 9223372036854775807) (hm : ys.length ≤ 9223372036854775807) :
    Calls Tryz.prog 10 #[loV s A ps.length capA B ys.length capB f] w fun e w' => e = .returned (.tuple #[.int .i64 (loM s ps ys f), .int .i64 (loE s ps ys f)]) ∧ Up w w' := by
  have HC := hide (fun W (hW : Up w W) => p_CheckL s A ps capA B ys capB f W (pcs_up hA hW) (eyes_up hB hW) hn hm)
  have HM := hide (fun W (hW : Up w W) (he : loE s ps ys f = 0) => p_mass A ps capA W (pcs_up hA hW) (loE_ok he).2.2.2.1 (loE_ok he).1.2.1)
  unfold loM
  clear hA hB
  generalize loE s ps ys f = E at *
  generalize mas ps = S at *
  generalize ps.length = n at *
  generalize ys.length = m at *
  go_enter Tryz.func10, Tryz.ntmps10
  go_upto_region 1 with fail
  refine at_wp (fun W0 hW0 => ?_)
  have U0 : Up w W0 := by rw [hW0]; exact (by repeat' (first | (with_reducible exact up_refl _) | (with_reducible assumption) | (with_reducible refine up_alloc ?_ _) | (with_reducible refine up_drewN ?_ _) | (with_reducible refine up_drew ?_) | (with_reducible refine up_set ?_ (by first | (simp; done) | (simp; omega) | omega) _) | (refine up_trans ?_ (by with_reducible assumption))))
  have B0 : Bx W0 w.heap.size [.string s, .slice A n capA, .slice B m capB, .int .i64 f] := by rw [hW0]; exact bx_new w _ 27
  clear hW0
  have c0 := (B0 0 _ rfl).1
  have c1 := (B0 1 _ rfl).1
  have c2 := (B0 2 _ rfl).1
  have c3 := (B0 3 _ rfl).1
  by_cases he : E = 0
  · subst he
    have HM2 := hide (fun W hW => unhide HM W hW rfl)
    clear HM
    go_wp2_with (first | (go_at_call 23; (with_reducible refine (unhide HC _ U0).mono ?_); rintro e w1 ⟨rfl, hb⟩; have k1 := (bx_up B0 hb 1 _ rfl).1; have U1 := up_trans U0 hb) | (go_at_call 24; (with_reducible refine (unhide HM2 _ U1).mono ?_); rintro e w2 ⟨rfl, hb2⟩))
    go_returns
    exact ⟨rfl, up_trans U1 hb2⟩
  · have t : (E == 0) = false := by simp [he]
    have HH := hide he
    clear he
    go_wp2_with (go_at_call 23; (with_reducible refine (unhide HC _ U0).mono ?_); rintro e w1 ⟨rfl, hb⟩; have k1 := (bx_up B0 hb 1 _ rfl).1; have U1 := up_trans U0 hb)
    go_returns
    exact ⟨by first | rfl | (rw [if_neg (unhide HH)]; rfl), U1⟩
end Go.Proofs.YtooochbfnmmnkaaGreat
namespace Go.Proofs.YtooochbfnmmnkaaGreat
open Go.RowKit Go.Proofs.Gn
set_option maxHeartbeats 4000000 in
theorem p_sums (A : Option Addr) (ps : List Gs.Sup) (cap : Nat) (w : World) (h : Sups w A ps) (ho : Gs.okA ps = true) (hn : ps.length ≤ 48) :
    Calls Tryz.prog 18 #[.slice A ps.length cap] w fun e w' => e = .returned (.agg (l9 ps).toArray) ∧ Up w w' := by
  rcases h with rfl | ⟨b, off, rfl, hc⟩
  · go_enter Tryz.func18, Tryz.ntmps18
    go_wp2_with fail
    go_rounds 1
    go_returns
    exact ⟨rfl, (by repeat' (first | (with_reducible exact up_refl _) | (with_reducible assumption) | (with_reducible refine up_alloc ?_ _) | (with_reducible refine up_drewN ?_ _) | (with_reducible refine up_drew ?_) | (with_reducible refine up_set ?_ (by first | (simp; done) | (simp; omega) | omega) _) | (refine up_trans ?_ (by with_reducible assumption))))⟩
  have HC := hide hc
  have HO := hide ho
  clear hc ho
  obtain ⟨n, hN⟩ : ∃ n, ps.length = n := ⟨_, rfl⟩
  rw [hN] at hn ⊢
  have HN := hide hN
  clear hN
  go_enter Tryz.func18, Tryz.ntmps18
  go_wp2_with fail
  go_loopw [10] (fun i wr => ∃ k : Nat, k ≤ n ∧ i = .int .i64 k ∧ Up w wr ∧ Bx wr (w.heap.size + 1) (l9 (ps.take k)) ∧ Bx wr w.heap.size (l9 [])) (fun i _ => n - (intOf i).toNat)
  case atStart => exact ⟨0, by omega, rfl, (by repeat' (first | (with_reducible exact up_refl _) | (with_reducible assumption) | (with_reducible refine up_alloc ?_ _) | (with_reducible refine up_drewN ?_ _) | (with_reducible refine up_drew ?_) | (with_reducible refine up_set ?_ (by first | (simp; done) | (simp; omega) | omega) _) | (refine up_trans ?_ (by with_reducible assumption)))), by have h1 := bx_new (w.alloc (.cells #[.int .i64 0, .int .i64 0, .int .i64 0, .int .i64 0, .int .i64 0, .int .i64 0, .int .i64 0, .int .i64 0, .int .i64 0] 65)) (l9 []) 65; rwa [sz1] at h1, bx_alloc (bx_new w (l9 []) 65) _⟩
  case round =>
    obtain ⟨k, hk, rfl, hu, hB, hZ⟩ := hrel
    have hUs := bx_lt hB (by simp)
    by_cases hlt : k < n
    · have hl : k < ps.length := by rw [unhide HN]; exact hlt
      have hsup := supAt_up (unhide HC k hl) hu
      have hok := Gs.okS_yes (Gs.okA_get (unhide HO) hl)
      have R0 := row_take (unhide HO) (by rw [unhide HN]; exact hn) k 0 (.inl rfl)
      have R1 := row_take (unhide HO) (by rw [unhide HN]; exact hn) k 1 (.inr (.inl rfl))
      have R2 := row_take (unhide HO) (by rw [unhide HN]; exact hn) k 2 (.inr (.inr rfl))
      obtain ⟨d0, d1, d2, d3, d4, d5⟩ := hsup
      have HS := hide (⟨fun g hg => sums_step hl g hg, fun g hg => sums_stay hl g hg⟩ : (∀ g, ps[k].g = g → _) ∧ (∀ g, ¬ ps[k].g = g → _))
      obtain ⟨x, hx⟩ : ∃ x, ps[k].x = x := ⟨_, rfl⟩
      obtain ⟨y, hy⟩ : ∃ x, ps[k].y = x := ⟨_, rfl⟩
      obtain ⟨g, hg⟩ : ∃ x, ps[k].g = x := ⟨_, rfl⟩
      rw [hx] at d0 hok
      rw [hy] at d1 hok
      rw [hg] at d2 hok
      have HX := hide (And.intro hx (And.intro hy hg))
      clear hx hy hg
      obtain ⟨n0, hn0⟩ : ∃ x, Gs.cN 0 (ps.take k) = x := ⟨_, rfl⟩
      obtain ⟨x0, hx0⟩ : ∃ x, Gs.cX 0 (ps.take k) = x := ⟨_, rfl⟩
      obtain ⟨y0, hy0⟩ : ∃ x, Gs.cY 0 (ps.take k) = x := ⟨_, rfl⟩
      obtain ⟨n1, hn1⟩ : ∃ x, Gs.cN 1 (ps.take k) = x := ⟨_, rfl⟩
      obtain ⟨x1, hx1⟩ : ∃ x, Gs.cX 1 (ps.take k) = x := ⟨_, rfl⟩
      obtain ⟨y1, hy1⟩ : ∃ x, Gs.cY 1 (ps.take k) = x := ⟨_, rfl⟩
      obtain ⟨n2, hn2⟩ : ∃ x, Gs.cN 2 (ps.take k) = x := ⟨_, rfl⟩
      obtain ⟨x2, hx2⟩ : ∃ x, Gs.cX 2 (ps.take k) = x := ⟨_, rfl⟩
      obtain ⟨y2, hy2⟩ : ∃ x, Gs.cY 2 (ps.take k) = x := ⟨_, rfl⟩
      have hB' : Bx wr (w.heap.size + 1) [.int .i64 n0, .int .i64 x0, .int .i64 y0, .int .i64 n1, .int .i64 x1, .int .i64 y1, .int .i64 n2, .int .i64 x2, .int .i64 y2] := by
        rw [← hn0, ← hx0, ← hy0, ← hn1, ← hx1, ← hy1, ← hn2, ← hx2, ← hy2]; exact hB
      rw [hn0, hx0, hy0] at R0
      rw [hn1, hx1, hy1] at R1
      rw [hn2, hx2, hy2] at R2
      have HE := hide (And.intro hn0 (And.intro hx0 (And.intro hy0 (And.intro hn1 (And.intro hx1 (And.intro hy1 (And.intro hn2 (And.intro hx2 hy2))))))))
      clear hn0 hx0 hy0 hn1 hx1 hy1 hn2 hx2 hy2 hB
      obtain ⟨q0, q1, q2, q3, q4, q5, q6, q7, q8⟩ := bx9 hB'
      obtain ⟨f0, f1, f2, f3, f4, f5, f6, f7, f8⟩ := bxf9 hB'
      have HB := hide hB'
      clear hB'
      unfold Gs.Row at R0 R1 R2
      obtain ⟨⟨o1, o2⟩, ⟨o3, o4⟩, ⟨o5, o6⟩, _⟩ := hok
      obtain ⟨⟨_, _⟩, ⟨_, _⟩, _, _⟩ := R0
      obtain ⟨⟨_, _⟩, ⟨_, _⟩, _, _⟩ := R1
      obtain ⟨⟨_, _⟩, ⟨_, _⟩, _, _⟩ := R2
      rcases (show g = 0 ∨ g = 1 ∨ g = 2 by omega) with rfl | rfl | rfl
      · go_wp2_with fail
        refine at_wp (fun W0 hW0 => ?_)
        have u0 : Up wr W0 := by rw [hW0]; exact (by repeat' (first | (with_reducible exact up_refl _) | (with_reducible assumption) | (with_reducible refine up_alloc ?_ _) | (with_reducible refine up_drewN ?_ _) | (with_reducible refine up_drew ?_) | (with_reducible refine up_set ?_ (by first | (simp; done) | (simp; omega) | omega) _) | (refine up_trans ?_ (by with_reducible assumption))))
        have B0 : Bx W0 (w.heap.size + 1) [.int .i64 n0, .int .i64 x0, .int .i64 y0, .int .i64 n1, .int .i64 x1, .int .i64 y1, .int .i64 n2, .int .i64 x2, .int .i64 y2] := bx_up (unhide HB) u0
        have S0 : Bx W0 wr.heap.size [.int .i64 x, .int .i64 y, .int .i64 0, .int .i64 ps[k].lim, .int .i64 ps[k].lo, .int .i64 ps[k].hi] := by rw [hW0]; exact bx_alloc (bx_new wr _ 45) _
        have T0 : Bx W0 (wr.heap.size + 1) [.int .i64 1, .int .i64 x, .int .i64 y] := by
          rw [hW0]
          have t := bx_new (wr.alloc (.cells #[.int .i64 x, .int .i64 y, .int .i64 0, .int .i64 ps[k].lim, .int .i64 ps[k].lo, .int .i64 ps[k].hi] 45)) [.int .i64 1, .int .i64 x, .int .i64 y] 31
          rwa [sz1] at t
        have Z0 : Bx W0 w.heap.size (l9 []) := bx_up hZ u0
        have U0 : Up w W0 := up_trans hu u0
        clear hW0 u0 q0 q1 q2 q3 q4 q5 q6 q7 q8 f0 f1 f2 f3 f4 f5 f6 f7 f8 d0 d1 d2 d3 d4 d5
        refine wp_loop_rounds 4 ?_
        obtain ⟨q0, q1, q2, q3, q4, q5, q6, q7, q8⟩ := bx9 B0
        obtain ⟨f0, f1, f2, f3, f4, f5, f6, f7, f8⟩ := bxf9 B0
        have s2 := (S0 2 _ rfl).1
        have tc := (T0 0 _ rfl).1
        rw [rounds_succ]
        go_wp2_with fail
        go_region
        all_goals go_wp2_with fail
        refine at_rounds (fun W1 hW1 => ?_)
        have B1 : Bx W1 (w.heap.size + 1) [.int .i64 (n0 + 1), .int .i64 x0, .int .i64 y0, .int .i64 n1, .int .i64 x1, .int .i64 y1, .int .i64 n2, .int .i64 x2, .int .i64 y2] := by rw [hW1]; exact bx_set (bx_drew B0) 0 _
        have S1 : Bx W1 wr.heap.size [.int .i64 x, .int .i64 y, .int .i64 0, .int .i64 ps[k].lim, .int .i64 ps[k].lo, .int .i64 ps[k].hi] := by rw [hW1]; exact bx_far (bx_drew S0) (by simp; omega) _
        have T1 : Bx W1 (wr.heap.size + 1) [.int .i64 1, .int .i64 x, .int .i64 y] := by rw [hW1]; exact bx_far (bx_drew T0) (by simp; omega) _
        have Z1 : Bx W1 w.heap.size (l9 []) := by rw [hW1]; exact bx_far (bx_drew Z0) (by simp) _
        have U1 : Up w W1 := by rw [hW1]; exact up_set (up_drew U0) (by simp) _
        clear hW1 B0 S0 T0 U0 Z0 q0 q1 q2 q3 q4 q5 q6 q7 q8 f0 f1 f2 f3 f4 f5 f6 f7 f8 s2 tc
        obtain ⟨q0, q1, q2, q3, q4, q5, q6, q7, q8⟩ := bx9 B1
        obtain ⟨f0, f1, f2, f3, f4, f5, f6, f7, f8⟩ := bxf9 B1
        have s2 := (S1 2 _ rfl).1
        have tc := (T1 1 _ rfl).1
        rw [rounds_succ]
        go_wp2_with fail
        go_region
        all_goals go_wp2_with fail
        refine at_rounds (fun W2 hW2 => ?_)
        have B2 : Bx W2 (w.heap.size + 1) [.int .i64 (n0 + 1), .int .i64 (x0 + x), .int .i64 y0, .int .i64 n1, .int .i64 x1, .int .i64 y1, .int .i64 n2, .int .i64 x2, .int .i64 y2] := by rw [hW2]; exact bx_set (bx_drew B1) 1 _
        have S2 : Bx W2 wr.heap.size [.int .i64 x, .int .i64 y, .int .i64 0, .int .i64 ps[k].lim, .int .i64 ps[k].lo, .int .i64 ps[k].hi] := by rw [hW2]; exact bx_far (bx_drew S1) (by simp; omega) _
        have T2 : Bx W2 (wr.heap.size + 1) [.int .i64 1, .int .i64 x, .int .i64 y] := by rw [hW2]; exact bx_far (bx_drew T1) (by simp; omega) _
        have Z2 : Bx W2 w.heap.size (l9 []) := by rw [hW2]; exact bx_far (bx_drew Z1) (by simp) _
        have U2 : Up w W2 := by rw [hW2]; exact up_set (up_drew U1) (by simp) _
        clear hW2 B1 S1 T1 U1 Z1 q0 q1 q2 q3 q4 q5 q6 q7 q8 f0 f1 f2 f3 f4 f5 f6 f7 f8 s2 tc
        obtain ⟨q0, q1, q2, q3, q4, q5, q6, q7, q8⟩ := bx9 B2
        obtain ⟨f0, f1, f2, f3, f4, f5, f6, f7, f8⟩ := bxf9 B2
        have s2 := (S2 2 _ rfl).1
        have tc := (T2 2 _ rfl).1
        rw [rounds_succ]
        go_wp2_with fail
        go_region
        all_goals go_wp2_with fail
        refine at_rounds (fun W3 hW3 => ?_)
        have B3 : Bx W3 (w.heap.size + 1) [.int .i64 (n0 + 1), .int .i64 (x0 + x), .int .i64 (y0 + y), .int .i64 n1, .int .i64 x1, .int .i64 y1, .int .i64 n2, .int .i64 x2, .int .i64 y2] := by rw [hW3]; exact bx_set (bx_drew B2) 2 _
        have S3 : Bx W3 wr.heap.size [.int .i64 x, .int .i64 y, .int .i64 0, .int .i64 ps[k].lim, .int .i64 ps[k].lo, .int .i64 ps[k].hi] := by rw [hW3]; exact bx_far (bx_drew S2) (by simp; omega) _
        have T3 : Bx W3 (wr.heap.size + 1) [.int .i64 1, .int .i64 x, .int .i64 y] := by rw [hW3]; exact bx_far (bx_drew T2) (by simp; omega) _
        have Z3 : Bx W3 w.heap.size (l9 []) := by rw [hW3]; exact bx_far (bx_drew Z2) (by simp) _
        have U3 : Up w W3 := by rw [hW3]; exact up_set (up_drew U2) (by simp) _
        clear hW3 B2 S2 T2 U2 Z2 q0 q1 q2 q3 q4 q5 q6 q7 q8 f0 f1 f2 f3 f4 f5 f6 f7 f8 s2 tc
        rw [rounds_succ]
        go_wp2_with fail
        go_roundw
        case rel =>
          refine ⟨k + 1, by omega, by go_num, U3, ?_, Z3⟩
          obtain ⟨e1, e2, e3⟩ := unhide HX
          obtain ⟨k1, k2⟩ := unhide HS
          obtain ⟨z0, z1, z2, z3, z4, z5, z6, z7, z8⟩ := unhide HE
          have a := k1 0 e3
          have p := k2 1 (by rw [e3]; decide)
          have q := k2 2 (by rw [e3]; decide)
          rw [e1, e2] at a
          unfold l9
          rw [a.1, a.2.1, a.2.2, p.1, p.2.1, p.2.2, q.1, q.2.1, q.2.2, z0, z1, z2, z3, z4, z5, z6, z7, z8]
          exact B3
        case measure => simp [intOf]; omega
      · go_wp2_with fail
        refine at_wp (fun W0 hW0 => ?_)
        have u0 : Up wr W0 := by rw [hW0]; exact (by repeat' (first | (with_reducible exact up_refl _) | (with_reducible assumption) | (with_reducible refine up_alloc ?_ _) | (with_reducible refine up_drewN ?_ _) | (with_reducible refine up_drew ?_) | (with_reducible refine up_set ?_ (by first | (simp; done) | (simp; omega) | omega) _) | (refine up_trans ?_ (by with_reducible assumption))))
        have B0 : Bx W0 (w.heap.size + 1) [.int .i64 n0, .int .i64 x0, .int .i64 y0, .int .i64 n1, .int .i64 x1, .int .i64 y1, .int .i64 n2, .int .i64 x2, .int .i64 y2] := bx_up (unhide HB) u0
        have S0 : Bx W0 wr.heap.size [.int .i64 x, .int .i64 y, .int .i64 1, .int .i64 ps[k].lim, .int .i64 ps[k].lo, .int .i64 ps[k].hi] := by rw [hW0]; exact bx_alloc (bx_new wr _ 45) _
        have T0 : Bx W0 (wr.heap.size + 1) [.int .i64 1, .int .i64 x, .int .i64 y] := by
          rw [hW0]
          have t := bx_new (wr.alloc (.cells #[.int .i64 x, .int .i64 y, .int .i64 1, .int .i64 ps[k].lim, .int .i64 ps[k].lo, .int .i64 ps[k].hi] 45)) [.int .i64 1, .int .i64 x, .int .i64 y] 31
          rwa [sz1] at t
        have Z0 : Bx W0 w.heap.size (l9 []) := bx_up hZ u0
        have U0 : Up w W0 := up_trans hu u0
        clear hW0 u0 q0 q1 q2 q3 q4 q5 q6 q7 q8 f0 f1 f2 f3 f4 f5 f6 f7 f8 d0 d1 d2 d3 d4 d5
        refine wp_loop_rounds 4 ?_
        obtain ⟨q0, q1, q2, q3, q4, q5, q6, q7, q8⟩ := bx9 B0
        obtain ⟨f0, f1, f2, f3, f4, f5, f6, f7, f8⟩ := bxf9 B0
        have s2 := (S0 2 _ rfl).1
        have tc := (T0 0 _ rfl).1
        rw [rounds_succ]
        go_wp2_with fail
        go_region
        all_goals go_wp2_with fail
        refine at_rounds (fun W1 hW1 => ?_)
        have B1 : Bx W1 (w.heap.size + 1) [.int .i64 n0, .int .i64 x0, .int .i64 y0, .int .i64 (n1 + 1), .int .i64 x1, .int .i64 y1, .int .i64 n2, .int .i64 x2, .int .i64 y2] := by rw [hW1]; exact bx_set (bx_drew B0) 3 _
        have S1 : Bx W1 wr.heap.size [.int .i64 x, .int .i64 y, .int .i64 1, .int .i64 ps[k].lim, .int .i64 ps[k].lo, .int .i64 ps[k].hi] := by rw [hW1]; exact bx_far (bx_drew S0) (by simp; omega) _
        have T1 : Bx W1 (wr.heap.size + 1) [.int .i64 1, .int .i64 x, .int .i64 y] := by rw [hW1]; exact bx_far (bx_drew T0) (by simp; omega) _
        have Z1 : Bx W1 w.heap.size (l9 []) := by rw [hW1]; exact bx_far (bx_drew Z0) (by simp) _
        have U1 : Up w W1 := by rw [hW1]; exact up_set (up_drew U0) (by simp) _
        clear hW1 B0 S0 T0 U0 Z0 q0 q1 q2 q3 q4 q5 q6 q7 q8 f0 f1 f2 f3 f4 f5 f6 f7 f8 s2 tc
        obtain ⟨q0, q1, q2, q3, q4, q5, q6, q7, q8⟩ := bx9 B1
        obtain ⟨f0, f1, f2, f3, f4, f5, f6, f7, f8⟩ := bxf9 B1
        have s2 := (S1 2 _ rfl).1
        have tc := (T1 1 _ rfl).1
        rw [rounds_succ]
        go_wp2_with fail
        go_region
        all_goals go_wp2_with fail
        refine at_rounds (fun W2 hW2 => ?_)
        have B2 : Bx W2 (w.heap.size + 1) [.int .i64 n0, .int .i64 x0, .int .i64 y0, .int .i64 (n1 + 1), .int .i64 (x1 + x), .int .i64 y1, .int .i64 n2, .int .i64 x2, .int .i64 y2] := by rw [hW2]; exact bx_set (bx_drew B1) 4 _
        have S2 : Bx W2 wr.heap.size [.int .i64 x, .int .i64 y, .int .i64 1, .int .i64 ps[k].lim, .int .i64 ps[k].lo, .int .i64 ps[k].hi] := by rw [hW2]; exact bx_far (bx_drew S1) (by simp; omega) _
        have T2 : Bx W2 (wr.heap.size + 1) [.int .i64 1, .int .i64 x, .int .i64 y] := by rw [hW2]; exact bx_far (bx_drew T1) (by simp; omega) _
        have Z2 : Bx W2 w.heap.size (l9 []) := by rw [hW2]; exact bx_far (bx_drew Z1) (by simp) _
        have U2 : Up w W2 := by rw [hW2]; exact up_set (up_drew U1) (by simp) _
        clear hW2 B1 S1 T1 U1 Z1 q0 q1 q2 q3 q4 q5 q6 q7 q8 f0 f1 f2 f3 f4 f5 f6 f7 f8 s2 tc
        obtain ⟨q0, q1, q2, q3, q4, q5, q6, q7, q8⟩ := bx9 B2
        obtain ⟨f0, f1, f2, f3, f4, f5, f6, f7, f8⟩ := bxf9 B2
        have s2 := (S2 2 _ rfl).1
        have tc := (T2 2 _ rfl).1
        rw [rounds_succ]
        go_wp2_with fail
        go_region
        all_goals go_wp2_with fail
        refine at_rounds (fun W3 hW3 => ?_)
        have B3 : Bx W3 (w.heap.size + 1) [.int .i64 n0, .int .i64 x0, .int .i64 y0, .int .i64 (n1 + 1), .int .i64 (x1 + x), .int .i64 (y1 + y), .int .i64 n2, .int .i64 x2, .int .i64 y2] := by rw [hW3]; exact bx_set (bx_drew B2) 5 _
        have S3 : Bx W3 wr.heap.size [.int .i64 x, .int .i64 y, .int .i64 1, .int .i64 ps[k].lim, .int .i64 ps[k].lo, .int .i64 ps[k].hi] := by rw [hW3]; exact bx_far (bx_drew S2) (by simp; omega) _
        have T3 : Bx W3 (wr.heap.size + 1) [.int .i64 1, .int .i64 x, .int .i64 y] := by rw [hW3]; exact bx_far (bx_drew T2) (by simp; omega) _
        have Z3 : Bx W3 w.heap.size (l9 []) := by rw [hW3]; exact bx_far (bx_drew Z2) (by simp) _
        have U3 : Up w W3 := by rw [hW3]; exact up_set (up_drew U2) (by simp) _
        clear hW3 B2 S2 T2 U2 Z2 q0 q1 q2 q3 q4 q5 q6 q7 q8 f0 f1 f2 f3 f4 f5 f6 f7 f8 s2 tc
        rw [rounds_succ]
        go_wp2_with fail
        go_roundw
        case rel =>
          refine ⟨k + 1, by omega, by go_num, U3, ?_, Z3⟩
          obtain ⟨e1, e2, e3⟩ := unhide HX
          obtain ⟨k1, k2⟩ := unhide HS
          obtain ⟨z0, z1, z2, z3, z4, z5, z6, z7, z8⟩ := unhide HE
          have a := k1 1 e3
          have p := k2 2 (by rw [e3]; decide)
          have q := k2 0 (by rw [e3]; decide)
          rw [e1, e2] at a
          unfold l9
          rw [a.1, a.2.1, a.2.2, p.1, p.2.1, p.2.2, q.1, q.2.1, q.2.2, z0, z1, z2, z3, z4, z5, z6, z7, z8]
          exact B3
        case measure => simp [intOf]; omega
      · go_wp2_with fail
        refine at_wp (fun W0 hW0 => ?_)
        have u0 : Up wr W0 := by rw [hW0]; exact (by repeat' (first | (with_reducible exact up_refl _) | (with_reducible assumption) | (with_reducible refine up_alloc ?_ _) | (with_reducible refine up_drewN ?_ _) | (with_reducible refine up_drew ?_) | (with_reducible refine up_set ?_ (by first | (simp; done) | (simp; omega) | omega) _) | (refine up_trans ?_ (by with_reducible assumption))))
        have B0 : Bx W0 (w.heap.size + 1) [.int .i64 n0, .int .i64 x0, .int .i64 y0, .int .i64 n1, .int .i64 x1, .int .i64 y1, .int .i64 n2, .int .i64 x2, .int .i64 y2] := bx_up (unhide HB) u0
        have S0 : Bx W0 wr.heap.size [.int .i64 x, .int .i64 y, .int .i64 2, .int .i64 ps[k].lim, .int .i64 ps[k].lo, .int .i64 ps[k].hi] := by rw [hW0]; exact bx_alloc (bx_new wr _ 45) _
        have T0 : Bx W0 (wr.heap.size + 1) [.int .i64 1, .int .i64 x, .int .i64 y] := by
          rw [hW0]
          have t := bx_new (wr.alloc (.cells #[.int .i64 x, .int .i64 y, .int .i64 2, .int .i64 ps[k].lim, .int .i64 ps[k].lo, .int .i64 ps[k].hi] 45)) [.int .i64 1, .int .i64 x, .int .i64 y] 31
          rwa [sz1] at t
        have Z0 : Bx W0 w.heap.size (l9 []) := bx_up hZ u0
        have U0 : Up w W0 := up_trans hu u0
        clear hW0 u0 q0 q1 q2 q3 q4 q5 q6 q7 q8 f0 f1 f2 f3 f4 f5 f6 f7 f8 d0 d1 d2 d3 d4 d5
        refine wp_loop_rounds 4 ?_
        obtain ⟨q0, q1, q2, q3, q4, q5, q6, q7, q8⟩ := bx9 B0
        obtain ⟨f0, f1, f2, f3, f4, f5, f6, f7, f8⟩ := bxf9 B0
        have s2 := (S0 2 _ rfl).1
        have tc := (T0 0 _ rfl).1
        rw [rounds_succ]
        go_wp2_with fail
        go_region
        all_goals go_wp2_with fail
        refine at_rounds (fun W1 hW1 => ?_)
        have B1 : Bx W1 (w.heap.size + 1) [.int .i64 n0, .int .i64 x0, .int .i64 y0, .int .i64 n1, .int .i64 x1, .int .i64 y1, .int .i64 (n2 + 1), .int .i64 x2, .int .i64 y2] := by rw [hW1]; exact bx_set (bx_drew B0) 6 _
        have S1 : Bx W1 wr.heap.size [.int .i64 x, .int .i64 y, .int .i64 2, .int .i64 ps[k].lim, .int .i64 ps[k].lo, .int .i64 ps[k].hi] := by rw [hW1]; exact bx_far (bx_drew S0) (by simp; omega) _
        have T1 : Bx W1 (wr.heap.size + 1) [.int .i64 1, .int .i64 x, .int .i64 y] := by rw [hW1]; exact bx_far (bx_drew T0) (by simp; omega) _
        have Z1 : Bx W1 w.heap.size (l9 []) := by rw [hW1]; exact bx_far (bx_drew Z0) (by simp) _
        have U1 : Up w W1 := by rw [hW1]; exact up_set (up_drew U0) (by simp) _
        clear hW1 B0 S0 T0 U0 Z0 q0 q1 q2 q3 q4 q5 q6 q7 q8 f0 f1 f2 f3 f4 f5 f6 f7 f8 s2 tc
        obtain ⟨q0, q1, q2, q3, q4, q5, q6, q7, q8⟩ := bx9 B1
        obtain ⟨f0, f1, f2, f3, f4, f5, f6, f7, f8⟩ := bxf9 B1
        have s2 := (S1 2 _ rfl).1
        have tc := (T1 1 _ rfl).1
        rw [rounds_succ]
        go_wp2_with fail
        go_region
        all_goals go_wp2_with fail
        refine at_rounds (fun W2 hW2 => ?_)
        have B2 : Bx W2 (w.heap.size + 1) [.int .i64 n0, .int .i64 x0, .int .i64 y0, .int .i64 n1, .int .i64 x1, .int .i64 y1, .int .i64 (n2 + 1), .int .i64 (x2 + x), .int .i64 y2] := by rw [hW2]; exact bx_set (bx_drew B1) 7 _
        have S2 : Bx W2 wr.heap.size [.int .i64 x, .int .i64 y, .int .i64 2, .int .i64 ps[k].lim, .int .i64 ps[k].lo, .int .i64 ps[k].hi] := by rw [hW2]; exact bx_far (bx_drew S1) (by simp; omega) _
        have T2 : Bx W2 (wr.heap.size + 1) [.int .i64 1, .int .i64 x, .int .i64 y] := by rw [hW2]; exact bx_far (bx_drew T1) (by simp; omega) _
        have Z2 : Bx W2 w.heap.size (l9 []) := by rw [hW2]; exact bx_far (bx_drew Z1) (by simp) _
        have U2 : Up w W2 := by rw [hW2]; exact up_set (up_drew U1) (by simp) _
        clear hW2 B1 S1 T1 U1 Z1 q0 q1 q2 q3 q4 q5 q6 q7 q8 f0 f1 f2 f3 f4 f5 f6 f7 f8 s2 tc
        obtain ⟨q0, q1, q2, q3, q4, q5, q6, q7, q8⟩ := bx9 B2
        obtain ⟨f0, f1, f2, f3, f4, f5, f6, f7, f8⟩ := bxf9 B2
        have s2 := (S2 2 _ rfl).1
        have tc := (T2 2 _ rfl).1
        rw [rounds_succ]
        go_wp2_with fail
        go_region
        all_goals go_wp2_with fail
        refine at_rounds (fun W3 hW3 => ?_)
        have B3 : Bx W3 (w.heap.size + 1) [.int .i64 n0, .int .i64 x0, .int .i64 y0, .int .i64 n1, .int .i64 x1, .int .i64 y1, .int .i64 (n2 + 1), .int .i64 (x2 + x), .int .i64 (y2 + y)] := by rw [hW3]; exact bx_set (bx_drew B2) 8 _
        have S3 : Bx W3 wr.heap.size [.int .i64 x, .int .i64 y, .int .i64 2, .int .i64 ps[k].lim, .int .i64 ps[k].lo, .int .i64 ps[k].hi] := by rw [hW3]; exact bx_far (bx_drew S2) (by simp; omega) _
        have T3 : Bx W3 (wr.heap.size + 1) [.int .i64 1, .int .i64 x, .int .i64 y] := by rw [hW3]; exact bx_far (bx_drew T2) (by simp; omega) _
        have Z3 : Bx W3 w.heap.size (l9 []) := by rw [hW3]; exact bx_far (bx_drew Z2) (by simp) _
        have U3 : Up w W3 := by rw [hW3]; exact up_set (up_drew U2) (by simp) _
        clear hW3 B2 S2 T2 U2 Z2 q0 q1 q2 q3 q4 q5 q6 q7 q8 f0 f1 f2 f3 f4 f5 f6 f7 f8 s2 tc
        rw [rounds_succ]
        go_wp2_with fail
        go_roundw
        case rel =>
          refine ⟨k + 1, by omega, by go_num, U3, ?_, Z3⟩
          obtain ⟨e1, e2, e3⟩ := unhide HX
          obtain ⟨k1, k2⟩ := unhide HS
          obtain ⟨z0, z1, z2, z3, z4, z5, z6, z7, z8⟩ := unhide HE
          have a := k1 2 e3
          have p := k2 0 (by rw [e3]; decide)
          have q := k2 1 (by rw [e3]; decide)
          rw [e1, e2] at a
          unfold l9
          rw [a.1, a.2.1, a.2.2, p.1, p.2.1, p.2.2, q.1, q.2.1, q.2.2, z0, z1, z2, z3, z4, z5, z6, z7, z8]
          exact B3
        case measure => simp [intOf]; omega
    · obtain rfl : k = n := by omega
      have hz : ps.take k = ps := List.take_of_length_le (by rw [unhide HN]; omega)
      rw [hz] at hB
      obtain ⟨q0, q1, q2, q3, q4, q5, q6, q7, q8⟩ := bx9 hB
      obtain ⟨f0, f1, f2, f3, f4, f5, f6, f7, f8⟩ := bxf9 hZ
      obtain ⟨z0, z1, z2, z3, z4, z5, z6, z7, z8⟩ := bx9 hZ
      clear hz
      go_wp2_with fail
      obtain ⟨W9, hW9⟩ : ∃ W9 : World, W9 = (((((((((wr.setCell ⟨w.heap.size, 0, none⟩ (.int .i64 (Gs.cN 0 ps))).setCell ⟨w.heap.size, 1, none⟩ (.int .i64 (Gs.cX 0 ps))).setCell ⟨w.heap.size, 2, none⟩ (.int .i64 (Gs.cY 0 ps))).setCell ⟨w.heap.size, 3, none⟩ (.int .i64 (Gs.cN 1 ps))).setCell ⟨w.heap.size, 4, none⟩ (.int .i64 (Gs.cX 1 ps))).setCell ⟨w.heap.size, 5, none⟩ (.int .i64 (Gs.cY 1 ps))).setCell ⟨w.heap.size, 6, none⟩ (.int .i64 (Gs.cN 2 ps))).setCell ⟨w.heap.size, 7, none⟩ (.int .i64 (Gs.cX 2 ps))).setCell ⟨w.heap.size, 8, none⟩ (.int .i64 (Gs.cY 2 ps))) := ⟨_, rfl⟩
      rw [← hW9]
      have B9 : Bx W9 w.heap.size (l9 ps) := by rw [hW9]; exact (bx_set (bx_set (bx_set (bx_set (bx_set (bx_set (bx_set (bx_set (bx_set hZ 0 _) 1 _) 2 _) 3 _) 4 _) 5 _) 6 _) 7 _) 8 _)
      have U9 : Up w W9 := by rw [hW9]; exact (by repeat' (first | (with_reducible exact up_refl _) | (with_reducible assumption) | (with_reducible refine up_alloc ?_ _) | (with_reducible refine up_drewN ?_ _) | (with_reducible refine up_drew ?_) | (with_reducible refine up_set ?_ (by first | (simp; done) | (simp; omega) | omega) _) | (refine up_trans ?_ (by with_reducible assumption))))
      clear hW9 q0 q1 q2 q3 q4 q5 q6 q7 q8 f0 f1 f2 f3 f4 f5 f6 f7 f8 z0 z1 z2 z3 z4 z5 z6 z7 z8
      obtain ⟨q0, q1, q2, q3, q4, q5, q6, q7, q8⟩ := bx9 B9
      refine bodyPost_ret (v := .agg (l9 ps).toArray) ?_ rfl ⟨rfl, U9⟩
      simp [results, Tryz.results18, go_sem, q0, q1, q2, q3, q4, q5, q6, q7, q8]
end Go.Proofs.YtooochbfnmmnkaaGreat
namespace Go.Proofs.YtooochbfnmmnkaaGreat
open Go.RowKit Go.Proofs.Gn
def pv (D q : Int) : Int := if D < 0 then -q else if 0 < D then q else 0
theorem row_pt {X Y : Int} (hX : -262144 ≤ X ∧ X ≤ 262144) (hY : -262144 ≤ Y ∧ Y ≤ 262144) : Gs.Row 1 X Y := by unfold Gs.Row; omega
theorem cmpV_mul (D q : Int) : cmpV D 0 * q = pv D q := by
  unfold cmpV pv
  by_cases h : D < 0
  · rw [if_pos h, if_pos h]; omega
  · rw [if_neg h, if_neg h]
    by_cases h2 : 0 < D
    · rw [if_pos h2, if_pos h2]; omega
    · rw [if_neg h2, if_neg h2]; omega
theorem pv_bd {D q : Int} (h : -11399736556781568 ≤ q ∧ q ≤ 11399736556781568) : -11399736556781568 ≤ pv D q ∧ pv D q ≤ 11399736556781568 := by
  unfold pv; split
  · omega
  · split <;> omega
theorem bx_three (w : World) (v1 v2 v3 : List Value) (t1 t2 t3 : TypeId) : Bx (((w.alloc (.cells v1.toArray t1)).alloc (.cells v2.toArray t2)).alloc (.cells v3.toArray t3)) w.heap.size v1 ∧ Bx (((w.alloc (.cells v1.toArray t1)).alloc (.cells v2.toArray t2)).alloc (.cells v3.toArray t3)) (w.heap.size + 1) v2 ∧ Bx (((w.alloc (.cells v1.toArray t1)).alloc (.cells v2.toArray t2)).alloc (.cells v3.toArray t3)) (w.heap.size + 1 + 1) v3 := by
  refine ⟨bx_alloc (bx_alloc (bx_new w _ _) _) _, ?_, ?_⟩
  · have h := bx_alloc (bx_new (w.alloc (.cells v1.toArray t1)) v2 t2) (.cells v3.toArray t3)
    rwa [sz1] at h
  · have h := bx_new ((w.alloc (.cells v1.toArray t1)).alloc (.cells v2.toArray t2)) v3 t3
    rwa [sz1, sz1] at h
theorem bx_thru {W v : World} {o : Obj} {b : Nat} {vs : List Value} (h : Bx W b vs) (hv : Up (W.alloc o) v) : Bx v b vs := bx_up (bx_alloc h o) hv
set_option maxHeartbeats 4000000 in
theorem p_parts {a0 a1 a2 b0 b1 b2 c0 c1 c2 X Y : Int} (ha : Gs.Row a0 a1 a2) (hb : Gs.Row b0 b1 b2) (hc : Gs.Row c0 c1 c2) (hX : -262144 ≤ X ∧ X ≤ 262144) (hY : -262144 ≤ Y ∧ Y ≤ 262144) (w : World) :
    Calls Tryz.prog 28 #[m9 a0 a1 a2 b0 b1 b2 c0 c1 c2, pt X Y] w fun e w' => e = .returned (.tuple #[.agg #[.int .i64 (pv (Gs.dt a0 a1 a2 b0 b1 b2 c0 c1 c2) (Gs.dt 1 X Y b0 b1 b2 c0 c1 c2)), .int .i64 (pv (Gs.dt a0 a1 a2 b0 b1 b2 c0 c1 c2) (Gs.dt a0 a1 a2 1 X Y c0 c1 c2)), .int .i64 (pv (Gs.dt a0 a1 a2 b0 b1 b2 c0 c1 c2) (Gs.dt a0 a1 a2 b0 b1 b2 1 X Y))], .int .i64 (pv (Gs.dt a0 a1 a2 b0 b1 b2 c0 c1 c2) (Gs.dt a0 a1 a2 b0 b1 b2 c0 c1 c2))]) ∧ Up w w' := by
  have hp := row_pt hX hY
  have H0 := fun W => p_determinant ha hb hc W
  have H1 := fun W => p_determinant hp hb hc W
  have H2 := fun W => p_determinant ha hp hc W
  have H3 := fun W => p_determinant ha hb hp W
  have d0 := Gs.dt_bd ha hb hc
  have d1 := Gs.dt_bd hp hb hc
  have d2 := Gs.dt_bd ha hp hc
  have d3 := Gs.dt_bd ha hb hp
  clear ha hb hc hp hX hY
  generalize Gs.dt a0 a1 a2 b0 b1 b2 c0 c1 c2 = D at *
  generalize Gs.dt 1 X Y b0 b1 b2 c0 c1 c2 = E1 at *
  generalize Gs.dt a0 a1 a2 1 X Y c0 c1 c2 = E2 at *
  generalize Gs.dt a0 a1 a2 b0 b1 b2 1 X Y = E3 at *
  have HCm : ∀ W : World, Calls Tryz.prog 55 #[.int .i64 D, .int .i64 0] W fun e w' => e = .returned (.int .i64 (cmpV D 0)) ∧ W = w' := fun W => c_Compare D 0 W
  have p0 := pv_bd (D := D) d0
  have p1 := pv_bd (D := D) d1
  have p2 := pv_bd (D := D) d2
  have p3 := pv_bd (D := D) d3
  have e0 := cmpV_mul D D
  have e1 := cmpV_mul D E1
  have e2 := cmpV_mul D E2
  have e3 := cmpV_mul D E3
  rw [← e0, ← e1, ← e2, ← e3]
  rw [← e0] at p0
  rw [← e1] at p1
  rw [← e2] at p2
  rw [← e3] at p3
  clear e0 e1 e2 e3
  generalize cmpV D 0 = S at *
  have h0 := hide H0
  have h1 := hide H1
  have h2 := hide H2
  have h3 := hide H3
  have hcm := hide HCm
  clear H0 H1 H2 H3 HCm
  go_enter Tryz.func28, Tryz.ntmps28
  go_wp2_with (first | (go_at_call 17; (with_reducible refine (unhide h0 _).mono ?_); rintro e w1 ⟨rfl, hb1⟩) | (go_at_call 55; (with_reducible refine (unhide hcm _).mono ?_); rintro e w2 ⟨rfl, rfl⟩))
  have three := bx_three w [.int .i64 a0, .int .i64 a1, .int .i64 a2, .int .i64 b0, .int .i64 b1, .int .i64 b2, .int .i64 c0, .int .i64 c1, .int .i64 c2] [.int .i64 X, .int .i64 Y] [.int .i64 0, .int .i64 0, .int .i64 0] 65 43 31
  have R0 := bx_up three.1 hb1
  have P0 := bx_up three.2.1 hb1
  have Z0 := bx_up three.2.2 hb1
  have U0 : Up w w1 := up_trans (by repeat' (first | (with_reducible exact up_refl _) | (with_reducible assumption) | (with_reducible refine up_alloc ?_ _) | (with_reducible refine up_drewN ?_ _) | (with_reducible refine up_drew ?_) | (with_reducible refine up_set ?_ (by first | (simp; done) | (simp; omega) | omega) _) | (refine up_trans ?_ (by with_reducible assumption)))) hb1
  clear three hb1
  have l0 := bx_lt Z0 (by simp)
  refine at_wp (fun W0 hW0 => ?_)
  have O0 : Bx W0 w1.heap.size [.int .i64 0, .int .i64 0, .int .i64 0] := by rw [hW0]; exact bx_new w1 _ 31
  have u0 : Up w1 W0 := by rw [hW0]; exact (by repeat' (first | (with_reducible exact up_refl _) | (with_reducible assumption) | (with_reducible refine up_alloc ?_ _) | (with_reducible refine up_drewN ?_ _) | (with_reducible refine up_drew ?_) | (with_reducible refine up_set ?_ (by first | (simp; done) | (simp; omega) | omega) _) | (refine up_trans ?_ (by with_reducible assumption))))
  replace R0 := bx_up R0 u0
  replace P0 := bx_up P0 u0
  replace Z0 := bx_up Z0 u0
  replace U0 := up_trans U0 u0
  clear hW0 u0
  refine wp_loop_rounds 4 ?_
  have m0 := bx_lt O0 (by simp)
  obtain ⟨q0, q1, q2, q3, q4, q5, q6, q7, q8⟩ := bx9 R0
  obtain ⟨x0, x1⟩ := bx2 P0
  have y0 := fun o => alloc_cell o x0
  have y1 := fun o => alloc_cell o x1
  rw [rounds_succ]
  go_wp2_with (go_at_call 17; (with_reducible refine (unhide h1 _).mono ?_); rintro e v1 ⟨rfl, hv⟩; have o3 := bx3 (bx_thru O0 hv); have f3 := bxf3 (bx_thru O0 hv); obtain ⟨o3, o4, o5⟩ := o3; obtain ⟨f3, f4, f5⟩ := f3)
  refine at_rounds (fun W1 hW1 => ?_)
  have R1 : Bx W1 w.heap.size [.int .i64 a0, .int .i64 a1, .int .i64 a2, .int .i64 b0, .int .i64 b1, .int .i64 b2, .int .i64 c0, .int .i64 c1, .int .i64 c2] := by rw [hW1]; exact bx_far (bx_thru R0 hv) (by simp; omega) _
  have P1 : Bx W1 (w.heap.size + 1) [.int .i64 X, .int .i64 Y] := by rw [hW1]; exact bx_far (bx_thru P0 hv) (by simp; omega) _
  have Z1 : Bx W1 (w.heap.size + 1 + 1) [.int .i64 0, .int .i64 0, .int .i64 0] := by rw [hW1]; exact bx_far (bx_thru Z0 hv) (by simp; omega) _
  have O1 : Bx W1 w1.heap.size [.int .i64 (S * E1), .int .i64 0, .int .i64 0] := by rw [hW1]; exact bx_set (bx_thru O0 hv) 0 _
  have U1 : Up w W1 := by
    rw [hW1]
    exact up_set (up_trans (up_alloc U0 _) hv) (by simp; omega) _
  clear hW1 R0 P0 Z0 O0 U0 hv q0 q1 q2 q3 q4 q5 q6 q7 q8 x0 x1 y0 y1 o3 o4 o5 f3 f4 f5 m0
  have m0 := bx_lt O1 (by simp)
  obtain ⟨q0, q1, q2, q3, q4, q5, q6, q7, q8⟩ := bx9 R1
  obtain ⟨x0, x1⟩ := bx2 P1
  have y0 := fun o => alloc_cell o x0
  have y1 := fun o => alloc_cell o x1
  rw [rounds_succ]
  go_wp2_with (go_at_call 17; (with_reducible refine (unhide h2 _).mono ?_); rintro e v2 ⟨rfl, hv⟩; have o3 := bx3 (bx_thru O1 hv); have f3 := bxf3 (bx_thru O1 hv); obtain ⟨o3, o4, o5⟩ := o3; obtain ⟨f3, f4, f5⟩ := f3)
  refine at_rounds (fun W2 hW2 => ?_)
  have R2 : Bx W2 w.heap.size [.int .i64 a0, .int .i64 a1, .int .i64 a2, .int .i64 b0, .int .i64 b1, .int .i64 b2, .int .i64 c0, .int .i64 c1, .int .i64 c2] := by rw [hW2]; exact bx_far (bx_thru R1 hv) (by simp; omega) _
  have P2 : Bx W2 (w.heap.size + 1) [.int .i64 X, .int .i64 Y] := by rw [hW2]; exact bx_far (bx_thru P1 hv) (by simp; omega) _
  have Z2 : Bx W2 (w.heap.size + 1 + 1) [.int .i64 0, .int .i64 0, .int .i64 0] := by rw [hW2]; exact bx_far (bx_thru Z1 hv) (by simp; omega) _
  have O2 : Bx W2 w1.heap.size [.int .i64 (S * E1), .int .i64 (S * E2), .int .i64 0] := by rw [hW2]; exact bx_set (bx_thru O1 hv) 1 _
  have U2 : Up w W2 := by
    rw [hW2]
    exact up_set (up_trans (up_alloc U1 _) hv) (by simp; omega) _
  clear hW2 R1 P1 Z1 O1 U1 hv q0 q1 q2 q3 q4 q5 q6 q7 q8 x0 x1 y0 y1 o3 o4 o5 f3 f4 f5 m0
  have m0 := bx_lt O2 (by simp)
  obtain ⟨q0, q1, q2, q3, q4, q5, q6, q7, q8⟩ := bx9 R2
  obtain ⟨x0, x1⟩ := bx2 P2
  have y0 := fun o => alloc_cell o x0
  have y1 := fun o => alloc_cell o x1
  rw [rounds_succ]
  go_wp2_with (go_at_call 17; (with_reducible refine (unhide h3 _).mono ?_); rintro e v3 ⟨rfl, hv⟩; have o3 := bx3 (bx_thru O2 hv); have f3 := bxf3 (bx_thru O2 hv); obtain ⟨o3, o4, o5⟩ := o3; obtain ⟨f3, f4, f5⟩ := f3)
  refine at_rounds (fun W3 hW3 => ?_)
  have R3 : Bx W3 w.heap.size [.int .i64 a0, .int .i64 a1, .int .i64 a2, .int .i64 b0, .int .i64 b1, .int .i64 b2, .int .i64 c0, .int .i64 c1, .int .i64 c2] := by rw [hW3]; exact bx_far (bx_thru R2 hv) (by simp; omega) _
  have P3 : Bx W3 (w.heap.size + 1) [.int .i64 X, .int .i64 Y] := by rw [hW3]; exact bx_far (bx_thru P2 hv) (by simp; omega) _
  have Z3 : Bx W3 (w.heap.size + 1 + 1) [.int .i64 0, .int .i64 0, .int .i64 0] := by rw [hW3]; exact bx_far (bx_thru Z2 hv) (by simp; omega) _
  have O3 : Bx W3 w1.heap.size [.int .i64 (S * E1), .int .i64 (S * E2), .int .i64 (S * E3)] := by rw [hW3]; exact bx_set (bx_thru O2 hv) 2 _
  have U3 : Up w W3 := by
    rw [hW3]
    exact up_set (up_trans (up_alloc U2 _) hv) (by simp; omega) _
  clear hW3 R2 P2 Z2 O2 U2 hv q0 q1 q2 q3 q4 q5 q6 q7 q8 x0 x1 y0 y1 o3 o4 o5 f3 f4 f5 m0
  rw [rounds_succ]
  obtain ⟨o3, o4, o5⟩ := bx3 O3
  obtain ⟨f3, f4, f5⟩ := bxf3 Z3
  obtain ⟨z3, z4, z5⟩ := bx3 Z3
  go_wp2_with fail
  obtain ⟨W9, hW9⟩ : ∃ W9 : World, W9 = (((W3.setCell ⟨w.heap.size + 1 + 1, 0, none⟩ (.int .i64 (S * E1))).setCell ⟨w.heap.size + 1 + 1, 1, none⟩ (.int .i64 (S * E2))).setCell ⟨w.heap.size + 1 + 1, 2, none⟩ (.int .i64 (S * E3))) := ⟨_, rfl⟩
  rw [← hW9]
  have B9 : Bx W9 (w.heap.size + 1 + 1) [.int .i64 (S * E1), .int .i64 (S * E2), .int .i64 (S * E3)] := by rw [hW9]; exact bx_set3 Z3
  have U9 : Up w W9 := by rw [hW9]; exact up_set (up_set (up_set U3 (by simp; omega) _) (by simp; omega) _) (by simp; omega) _
  clear hW9 f3 f4 f5 z3 z4 z5 o3 o4 o5
  obtain ⟨q0, q1, q2⟩ := bx3 B9
  refine bodyPost_ret (v := .tuple #[.agg #[.int .i64 (S * E1), .int .i64 (S * E2), .int .i64 (S * E3)], .int .i64 (S * D)]) ?_ rfl ⟨rfl, U9⟩
  simp [results, Tryz.results28, go_sem, q0, q1, q2]
end Go.Proofs.YtooochbfnmmnkaaGreat
