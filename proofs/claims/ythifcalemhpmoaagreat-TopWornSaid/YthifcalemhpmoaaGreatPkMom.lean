/- The moments of pieces: the program's. Where a piece ends: the program's. load's Check and Mass. load's allValid and Check. Slices of pieces and of eyes that are only read; the mass of pieces. The document's piece and eye: they take what load's isPiece takes. (genrefpiece.py) -/
import Derived.Test.YthifcalemhpmoaaGreatPiece
import Derived.Test.YthifcalemhpmoaaGreatName
import Derived.Test.YthifcalemhpmoaaGreatPlat
import Derived.StillTailTactics
namespace Go.Proofs.YthifcalemhpmoaaGreat
open Go.RowKit Go.Proofs.Gn
def okPp (p : Pce) : Prop := (-131072 ≤ p.x ∧ p.x ≤ 131072) ∧ (-131072 ≤ p.y ∧ p.y ≤ 131072) ∧ (0 ≤ p.z ∧ p.z ≤ 131072) ∧ 1 ≤ p.l ∧ 1 ≤ p.w ∧ 1 ≤ p.h ∧ p.l ≤ 131072 - p.x ∧ p.w ≤ 131072 - p.y ∧ p.h ≤ 131072 - p.z ∧ (0 ≤ p.m ∧ p.m ≤ 16777216)
theorem okP_iff (p : Pce) : okP p = true ↔ okPp p := by
  unfold okP okPp plcL
  simp only [Bool.and_eq_true, win_iff]
  constructor <;> (intro h; omega)
theorem okP_no {p : Pce} (h : ¬ okPp p) : okP p = false := Bool.eq_false_iff.2 fun t => h ((okP_iff p).1 t)
theorem okP_yes {p : Pce} (h : okPp p) : okP p = true := (okP_iff p).2 h
/-- An eye. -/
structure Eye where
  (x y z s : Int)
abbrev eyV (p : Eye) : Value := .agg #[.int .i64 p.x, .int .i64 p.y, .int .i64 p.z, .int .i64 p.s]
/-- Is an eye valid, alone? -/
def okY (p : Eye) : Bool := plcL p.x p.y p.z && win p.s 0 4194304
def okYp (p : Eye) : Prop := (-131072 ≤ p.x ∧ p.x ≤ 131072) ∧ (-131072 ≤ p.y ∧ p.y ≤ 131072) ∧ (0 ≤ p.z ∧ p.z ≤ 131072) ∧ (0 ≤ p.s ∧ p.s ≤ 4194304)
theorem okY_iff (p : Eye) : okY p = true ↔ okYp p := by
  unfold okY okYp plcL
  simp only [Bool.and_eq_true, win_iff]
  constructor <;> (intro h; omega)
theorem okY_no {p : Eye} (h : ¬ okYp p) : okY p = false := Bool.eq_false_iff.2 fun t => h ((okY_iff p).1 t)
theorem okY_yes {p : Eye} (h : okYp p) : okY p = true := (okY_iff p).2 h
end Go.Proofs.YthifcalemhpmoaaGreat
namespace Go.Proofs.YthifcalemhpmoaaGreat
open Go.RowKit Go.Proofs.Gn
/-- The cells of a piece. -/
def PceAt (w : World) (b o : Nat) (p : Pce) : Prop :=
  w.cell? ⟨b, o, none⟩ = some (.int .i64 p.x) ∧ w.cell? ⟨b, o + 1, none⟩ = some (.int .i64 p.y) ∧ w.cell? ⟨b, o + 2, none⟩ = some (.int .i64 p.z) ∧ w.cell? ⟨b, o + 3, none⟩ = some (.int .i64 p.l) ∧ w.cell? ⟨b, o + 4, none⟩ = some (.int .i64 p.w) ∧ w.cell? ⟨b, o + 5, none⟩ = some (.int .i64 p.h) ∧ w.cell? ⟨b, o + 6, none⟩ = some (.int .i64 p.m)
theorem pceAt_up {w w' : World} {b o : Nat} {p : Pce} (h : PceAt w b o p) (hu : Up w w') : PceAt w' b o p :=
  ⟨up_cell hu h.1, up_cell hu h.2.1, up_cell hu h.2.2.1, up_cell hu h.2.2.2.1, up_cell hu h.2.2.2.2.1, up_cell hu h.2.2.2.2.2.1, up_cell hu h.2.2.2.2.2.2⟩
/-- The slice at A holds these pieces. -/
def Pcs (w : World) (A : Option Addr) (ps : List Pce) : Prop :=
  ps = [] ∨ ∃ b off, A = some ⟨b, off, none⟩ ∧ ∀ k (h : k < ps.length), PceAt w b (off + k * 7) ps[k]
theorem pcs_up {w w' : World} {A : Option Addr} {ps : List Pce} (h : Pcs w A ps) (hu : Up w w') : Pcs w' A ps := by
  rcases h with h | ⟨b, off, hA, hc⟩
  · exact .inl h
  · exact .inr ⟨b, off, hA, fun k hk => pceAt_up (hc k hk) hu⟩
/-- The cells of an eye. -/
def EyeAt (w : World) (b o : Nat) (p : Eye) : Prop :=
  w.cell? ⟨b, o, none⟩ = some (.int .i64 p.x) ∧ w.cell? ⟨b, o + 1, none⟩ = some (.int .i64 p.y) ∧ w.cell? ⟨b, o + 2, none⟩ = some (.int .i64 p.z) ∧ w.cell? ⟨b, o + 3, none⟩ = some (.int .i64 p.s)
theorem eyeAt_up {w w' : World} {b o : Nat} {p : Eye} (h : EyeAt w b o p) (hu : Up w w') : EyeAt w' b o p :=
  ⟨up_cell hu h.1, up_cell hu h.2.1, up_cell hu h.2.2.1, up_cell hu h.2.2.2⟩
/-- The slice at A holds these eyes. -/
def Eyes (w : World) (A : Option Addr) (ys : List Eye) : Prop :=
  ys = [] ∨ ∃ b off, A = some ⟨b, off, none⟩ ∧ ∀ k (h : k < ys.length), EyeAt w b (off + k * 4) ys[k]
theorem eyes_up {w w' : World} {A : Option Addr} {ys : List Eye} (h : Eyes w A ys) (hu : Up w w') : Eyes w' A ys := by
  rcases h with h | ⟨b, off, hA, hc⟩
  · exact .inl h
  · exact .inr ⟨b, off, hA, fun k hk => eyeAt_up (hc k hk) hu⟩
def okPs (ps : List Pce) : Bool := ps.all okP
def okYs (ys : List Eye) : Bool := ys.all okY
theorem all_atP {α : Type} {f : α → Bool} {l : List α} {k : Nat} (h : k < l.length) (hk : f l[k] = false) : l.all f = false := by
  rw [List.all_eq_false]
  exact ⟨l[k], List.getElem_mem h, by simp [hk]⟩
theorem all_take {α : Type} {f : α → Bool} {l : List α} {k : Nat} (h : k < l.length) (hk : (l.take k).all f = true) (h1 : f l[k] = true) : (l.take (k + 1)).all f = true := by
  rw [List.take_succ_eq_append_getElem h, List.all_append, hk]
  simp [h1]
theorem okPs_get {ps : List Pce} (h : okPs ps = true) {k : Nat} (hk : k < ps.length) : okP ps[k] = true := by
  unfold okPs at h
  exact List.all_eq_true.1 h _ (List.getElem_mem hk)
/-- The mass of pieces. -/
def mas : List Pce → Int
  | [] => 0
  | p :: ps => p.m + mas ps
theorem mas_append (a b : List Pce) : mas (a ++ b) = mas a + mas b := by
  induction a with
  | nil => simp [mas]
  | cons p a ih => simp only [List.cons_append, mas, ih]; omega
theorem mas_take {ps : List Pce} {k : Nat} (h : k < ps.length) : mas (ps.take (k + 1)) = mas (ps.take k) + ps[k].m := by
  rw [List.take_succ_eq_append_getElem h, mas_append]
  simp [mas]
theorem mas_bd {ps : List Pce} (h : okPs ps = true) (k : Nat) (hk : k ≤ ps.length) : 0 ≤ mas (ps.take k) ∧ mas (ps.take k) ≤ 16777216 * k := by
  induction k with
  | zero => simp [mas]
  | succ k ih =>
    have i := ih (by omega)
    have t := (okP_iff _).1 (okPs_get h (k := k) (by omega))
    unfold okPp at t
    rw [mas_take (by omega)]
    omega
set_option maxRecDepth 100000 in
set_option maxHeartbeats 4000000 in
theorem p_mass (A : Option Addr) (ps : List Pce) (cap : Nat) (w : World) (h : Pcs w A ps) (ho : okPs ps = true) (hn : ps.length ≤ 32) :
    Calls Tryz.prog 18 #[.slice A ps.length cap] w fun e w' => e = .returned (.int .i64 (mas ps)) ∧ Up w w' := by
  rcases h with rfl | ⟨b, off, rfl, hc⟩
  · go_enter Tryz.func18, Tryz.ntmps18
    go_wp2_with fail
    go_rounds 1
    go_ret
    exact ⟨rfl, (by repeat' (first | (with_reducible exact up_refl _) | (with_reducible assumption) | (with_reducible refine up_alloc ?_ _) | (with_reducible refine up_drewN ?_ _) | (with_reducible refine up_drew ?_) | (with_reducible refine up_set ?_ (by first | (simp; done) | (simp; omega) | omega) _) | (refine up_trans ?_ (by with_reducible assumption))))⟩
  have HC := hide hc
  have HO := hide ho
  clear hc ho
  obtain ⟨n, hN⟩ : ∃ n, ps.length = n := ⟨_, rfl⟩
  rw [hN] at hn ⊢
  have HN := hide hN
  clear hN
  go_enter Tryz.func18, Tryz.ntmps18
  go_wp2_with fail
  go_loopw [3, 8] (fun s i wr => ∃ k : Nat, k ≤ n ∧ s = .int .i64 (mas (ps.take k)) ∧ i = .int .i64 k ∧ Up w wr) (fun _ i _ => n - (intOf i).toNat)
  case atStart => exact ⟨0, by omega, rfl, rfl, (by repeat' (first | (with_reducible exact up_refl _) | (with_reducible assumption) | (with_reducible refine up_alloc ?_ _) | (with_reducible refine up_drewN ?_ _) | (with_reducible refine up_drew ?_) | (with_reducible refine up_set ?_ (by first | (simp; done) | (simp; omega) | omega) _) | (refine up_trans ?_ (by with_reducible assumption))))⟩
  case round =>
    obtain ⟨k, hk, rfl, rfl, hu⟩ := hrel
    by_cases hlt : k < n
    · have hl : k < ps.length := by rw [unhide HN]; exact hlt
      have hp := pceAt_up (unhide HC k hl) hu
      obtain ⟨d0, d1, d2, d3, d4, d5, d6⟩ := hp
      have bk := mas_bd (unhide HO) k (by rw [unhide HN]; exact hk)
      have bs := mas_bd (unhide HO) (k + 1) hl
      have ht := mas_take hl
      obtain ⟨S, hS⟩ : ∃ S, mas (ps.take k) = S := ⟨_, rfl⟩
      obtain ⟨m, hm⟩ : ∃ m, ps[k].m = m := ⟨_, rfl⟩
      rw [hS] at bk ht ⊢
      rw [hm] at d6 ht
      have HT := hide ht
      have hw1 : IntKind.i64.wrap (S + m) = S + m := IntWalk.i64_in _ ⟨by omega, by omega⟩
      have hw2 : IntKind.i64.wrap ((k : Int) + 1) = (k : Int) + 1 := IntWalk.i64_in _ ⟨by omega, by omega⟩
      clear bk bs ht hS hm
      go_wp2_with fail
      go_roundw
      case rel => exact ⟨k + 1, by omega, by rw [unhide HT], by first | rfl | trivial | go_num, (by repeat' (first | (with_reducible exact up_refl _) | (with_reducible assumption) | (with_reducible refine up_alloc ?_ _) | (with_reducible refine up_drewN ?_ _) | (with_reducible refine up_drew ?_) | (with_reducible refine up_set ?_ (by first | (simp; done) | (simp; omega) | omega) _) | (refine up_trans ?_ (by with_reducible assumption))))⟩
      case measure => simp [intOf]; omega
    · obtain rfl : k = n := by omega
      have hF : mas (ps.take k) = mas ps := by rw [List.take_of_length_le (by rw [unhide HN]; omega)]
      have HF := hide hF
      clear hF
      go_wp2_with fail
      go_ret
      exact ⟨by rw [← unhide HF]; rfl, hu⟩
end Go.Proofs.YthifcalemhpmoaaGreat
namespace Go.Proofs.YthifcalemhpmoaaGreat
open Go.RowKit Go.Proofs.Gn
abbrev loV (s : ByteArray) (A : Option Addr) (n capA : Nat) (B : Option Addr) (m capB : Nat) (f : Int) : Value :=
  .agg #[.string s, .slice A n capA, .slice B m capB, .int .i64 f]
set_option maxRecDepth 100000 in
set_option maxHeartbeats 8000000 in
theorem p_allValid (s : ByteArray) (A : Option Addr) (ps : List Pce) (capA : Nat) (B : Option Addr) (ys : List Eye) (capB : Nat) (f : Int) (w : World) (hA : Pcs w A ps) (hB : Eyes w B ys) (hn : ps.length ≤ 32) (hm : ys.length ≤ 32) :
    Calls Tryz.prog 39 #[loV s A ps.length capA B ys.length capB f] w fun e w' => e = .returned (.bool (okPs ps && okYs ys)) ∧ Up w w' := by
  have HPI := hide (fun p W => p_isPiece p W)
  have HPL := hide (fun x y z W => p_isPlace x y z W)
  obtain ⟨n, hN⟩ : ∃ n, ps.length = n := ⟨_, rfl⟩
  obtain ⟨m, hM⟩ : ∃ n, ys.length = n := ⟨_, rfl⟩
  rw [hN] at hn ⊢
  rw [hM] at hm ⊢
  have HN := hide hN
  have HM := hide hM
  have HA := hide hA
  have HB := hide hB
  clear hN hM hA hB
  go_enter Tryz.func39, Tryz.ntmps39
  go_upto_region 1 with fail
  refine at_wp (fun W0 hW0 => ?_)
  have U0 : Up w W0 := by rw [hW0]; exact (by repeat' (first | (with_reducible exact up_refl _) | (with_reducible assumption) | (with_reducible refine up_alloc ?_ _) | (with_reducible refine up_drewN ?_ _) | (with_reducible refine up_drew ?_) | (with_reducible refine up_set ?_ (by first | (simp; done) | (simp; omega) | omega) _) | (refine up_trans ?_ (by with_reducible assumption))))
  have B0 : Bx W0 w.heap.size [.string s, .slice A n capA, .slice B m capB, .int .i64 f] := by rw [hW0]; exact bx_new w _ 27
  clear hW0
  have c1 := (B0 1 _ rfl).1
  go_wp2_with fail
  go_loopw [10] (fun i wr => ∃ k : Nat, k ≤ n ∧ i = .int .i64 k ∧ Up W0 wr ∧ okPs (ps.take k) = true) (fun i _ => n - (intOf i).toNat)
  case atStart => exact ⟨0, by omega, rfl, up_refl _, rfl⟩
  case round =>
    obtain ⟨k, hk, rfl, hu, ho⟩ := hrel
    have HO := hide ho
    clear ho c1
    have B1 := bx_up B0 hu
    by_cases hlt : k < n
    · have hl : k < ps.length := by rw [unhide HN]; exact hlt
      rcases pcs_up (unhide HA) (up_trans U0 hu) with hnil | ⟨b, off, rfl, hc⟩
      · rw [hnil] at hl; simp at hl
      obtain ⟨d0, d1, d2, d3, d4, d5, d6⟩ := hc k hl
      clear hc
      have HI := hide (fun W => unhide HPI ps[k] W)
      have HF := hide (fun h => all_atP (f := okP) hl h)
      have HT := hide (fun h => all_take (f := okP) hl (unhide HO) h)
      obtain ⟨q, hq⟩ : ∃ q, okP ps[k] = q := ⟨_, rfl⟩
      rw [hq] at HI HF HT
      clear hq
      obtain ⟨x, hx⟩ : ∃ x, ps[k].x = x := ⟨_, rfl⟩
      obtain ⟨y, hy⟩ : ∃ x, ps[k].y = x := ⟨_, rfl⟩
      obtain ⟨z, hz⟩ : ∃ x, ps[k].z = x := ⟨_, rfl⟩
      obtain ⟨l, hL⟩ : ∃ x, ps[k].l = x := ⟨_, rfl⟩
      obtain ⟨wd, hwd⟩ : ∃ x, ps[k].w = x := ⟨_, rfl⟩
      obtain ⟨h, hh⟩ : ∃ x, ps[k].h = x := ⟨_, rfl⟩
      obtain ⟨mm, hmm⟩ : ∃ x, ps[k].m = x := ⟨_, rfl⟩
      rw [hx] at d0; rw [hy] at d1; rw [hz] at d2; rw [hL] at d3; rw [hwd] at d4; rw [hh] at d5; rw [hmm] at d6
      have HI2 : Hid (∀ W, Calls Tryz.prog 73 #[.agg #[.int .i64 x, .int .i64 y, .int .i64 z, .int .i64 l, .int .i64 wd, .int .i64 h, .int .i64 mm]] W fun e w' => e = .returned (.bool q) ∧ Up W w') := by
        rw [← hx, ← hy, ← hz, ← hL, ← hwd, ← hh, ← hmm]; exact HI
      clear hx hy hz hL hwd hh hmm HI
      cases q
      · have HF2 := hide (show okPs ps = false from unhide HF rfl)
        clear HF HT
        go_wp2_with (go_at_call 73; (with_reducible refine (unhide HI2 _).mono ?_); rintro e w1 ⟨rfl, hb⟩)
        go_ret
        exact ⟨by rw [unhide HF2]; rfl, (by repeat' (first | (with_reducible exact up_refl _) | (with_reducible assumption) | (with_reducible refine up_alloc ?_ _) | (with_reducible refine up_drewN ?_ _) | (with_reducible refine up_drew ?_) | (with_reducible refine up_set ?_ (by first | (simp; done) | (simp; omega) | omega) _) | (refine up_trans ?_ (by with_reducible assumption))))⟩
      · have HT2 := hide (show okPs (ps.take (k + 1)) = true from unhide HT rfl)
        clear HF HT
        go_wp2_with (go_at_call 73; (with_reducible refine (unhide HI2 _).mono ?_); rintro e w1 ⟨rfl, hb⟩)
        go_roundw
        case rel => exact ⟨k + 1, by omega, by first | rfl | trivial | go_num, (by repeat' (first | (with_reducible exact up_refl _) | (with_reducible assumption) | (with_reducible refine up_alloc ?_ _) | (with_reducible refine up_drewN ?_ _) | (with_reducible refine up_drew ?_) | (with_reducible refine up_set ?_ (by first | (simp; done) | (simp; omega) | omega) _) | (refine up_trans ?_ (by with_reducible assumption)))), unhide HT2⟩
        case measure => simp [intOf]; omega
    · obtain rfl : k = n := by omega
      have HP := hide (show okPs ps = true by have t := unhide HO; rwa [List.take_of_length_le (by rw [unhide HN]; omega)] at t)
      have V1 := up_trans U0 hu
      have c2 := (B1 2 _ rfl).1
      clear HO hu HPI
      go_wp2_with fail
      obtain ⟨wo, hwo⟩ : ∃ wo, wo = wr := ⟨_, rfl⟩
      rw [← hwo] at V1 B1 c2 ⊢
      clear hwo
      go_loopw [21] (fun i wr => ∃ k : Nat, k ≤ m ∧ i = .int .i64 k ∧ Up wo wr ∧ okYs (ys.take k) = true) (fun i _ => m - (intOf i).toNat)
      case atStart => exact ⟨0, by omega, rfl, up_refl _, rfl⟩
      case round =>
        obtain ⟨j, hj, rfl, hu, ho⟩ := hrel
        have HO := hide ho
        have V2 := up_trans V1 hu
        clear ho c2
        by_cases hlt : j < m
        · have hl : j < ys.length := by rw [unhide HM]; exact hlt
          rcases eyes_up (unhide HB) V2 with hnil | ⟨b, off, rfl, hc⟩
          · rw [hnil] at hl; simp at hl
          obtain ⟨d0, d1, d2, d3⟩ := hc j hl
          clear hc
          have hy : okY ys[j] = (plcL ys[j].x ys[j].y ys[j].z && win ys[j].s 0 4194304) := rfl
          have HI := hide (fun W => unhide HPL ys[j].x ys[j].y ys[j].z W)
          have HW := hide (fun W => p_withinL ys[j].s 0 4194304 W)
          have HF := hide (fun h => all_atP (f := okY) hl h)
          have HT := hide (fun h => all_take (f := okY) hl (unhide HO) h)
          rw [hy] at HF HT
          clear hy
          generalize plcL ys[j].x ys[j].y ys[j].z = q at *
          generalize win ys[j].s 0 4194304 = r at *
          obtain ⟨x, hx⟩ : ∃ x, ys[j].x = x := ⟨_, rfl⟩
          obtain ⟨y, hy⟩ : ∃ x, ys[j].y = x := ⟨_, rfl⟩
          obtain ⟨z, hz⟩ : ∃ x, ys[j].z = x := ⟨_, rfl⟩
          obtain ⟨t, ht⟩ : ∃ x, ys[j].s = x := ⟨_, rfl⟩
          rw [hx] at d0 HI; rw [hy] at d1 HI; rw [hz] at d2 HI; rw [ht] at d3 HW
          clear hx hy hz ht
          cases q
          · have HF2 := hide (show okYs ys = false from unhide HF rfl)
            clear HF HT
            go_wp2_with (go_at_call 74; (with_reducible refine (unhide HI _).mono ?_); rintro e w1 ⟨rfl, hb⟩)
            go_ret
            exact ⟨by rw [unhide HF2, Bool.and_false]; rfl, (by repeat' (first | (with_reducible exact up_refl _) | (with_reducible assumption) | (with_reducible refine up_alloc ?_ _) | (with_reducible refine up_drewN ?_ _) | (with_reducible refine up_drew ?_) | (with_reducible refine up_set ?_ (by first | (simp; done) | (simp; omega) | omega) _) | (refine up_trans ?_ (by with_reducible assumption))))⟩
          cases r
          · have HF2 := hide (show okYs ys = false from unhide HF rfl)
            clear HF HT
            have KD : ∀ w1 : World, Up (wr.alloc (.cells #[.int .i64 x, .int .i64 y, .int .i64 z, .int .i64 t] 78)) w1 → w1.cell? ⟨wr.heap.size, 3, none⟩ = some (.int .i64 t) := fun w1 hb => (bx_up (bx_new wr [.int .i64 x, .int .i64 y, .int .i64 z, .int .i64 t] 78) hb 3 _ rfl).1
            have HKD := hide KD
            clear KD
            go_wp2_with (first | (go_at_call 74; (with_reducible refine (unhide HI _).mono ?_); rintro e w1 ⟨rfl, hb⟩; have kd := unhide HKD _ hb) | (go_at_call 38; (with_reducible refine (unhide HW _).mono ?_); rintro e w2 ⟨rfl, rfl⟩))
            go_ret
            exact ⟨by rw [unhide HF2, Bool.and_false]; rfl, (by repeat' (first | (with_reducible exact up_refl _) | (with_reducible assumption) | (with_reducible refine up_alloc ?_ _) | (with_reducible refine up_drewN ?_ _) | (with_reducible refine up_drew ?_) | (with_reducible refine up_set ?_ (by first | (simp; done) | (simp; omega) | omega) _) | (refine up_trans ?_ (by with_reducible assumption))))⟩
          · have HT2 := hide (show okYs (ys.take (j + 1)) = true from unhide HT rfl)
            clear HF HT
            have KD : ∀ w1 : World, Up (wr.alloc (.cells #[.int .i64 x, .int .i64 y, .int .i64 z, .int .i64 t] 78)) w1 → w1.cell? ⟨wr.heap.size, 3, none⟩ = some (.int .i64 t) := fun w1 hb => (bx_up (bx_new wr [.int .i64 x, .int .i64 y, .int .i64 z, .int .i64 t] 78) hb 3 _ rfl).1
            have HKD := hide KD
            clear KD
            go_wp2_with (first | (go_at_call 74; (with_reducible refine (unhide HI _).mono ?_); rintro e w1 ⟨rfl, hb⟩; have kd := unhide HKD _ hb) | (go_at_call 38; (with_reducible refine (unhide HW _).mono ?_); rintro e w2 ⟨rfl, rfl⟩))
            go_roundw
            case rel => exact ⟨j + 1, by omega, by first | rfl | trivial | go_num, (by repeat' (first | (with_reducible exact up_refl _) | (with_reducible assumption) | (with_reducible refine up_alloc ?_ _) | (with_reducible refine up_drewN ?_ _) | (with_reducible refine up_drew ?_) | (with_reducible refine up_set ?_ (by first | (simp; done) | (simp; omega) | omega) _) | (refine up_trans ?_ (by with_reducible assumption)))), unhide HT2⟩
            case measure => simp [intOf]; omega
        · obtain rfl : j = m := by omega
          have HY := hide (show okYs ys = true by have t := unhide HO; rwa [List.take_of_length_le (by rw [unhide HM]; omega)] at t)
          clear HO
          go_wp2_with fail
          go_ret
          exact ⟨by rw [unhide HP, unhide HY]; rfl, V2⟩
end Go.Proofs.YthifcalemhpmoaaGreat
namespace Go.Proofs.YthifcalemhpmoaaGreat
open Go.RowKit Go.Proofs.Gn
/-- Which error a load has. -/
def loE (s : ByteArray) (ps : List Pce) (ys : List Eye) (f : Int) : Int :=
  if 1 ≤ ps.length ∧ ps.length ≤ 32 ∧ ys.length ≤ 32 then
    (if nmS s = true ∧ win f 0 1000 = true ∧ (okPs ps && okYs ys) = true ∧ win (mas ps) 1 16777216 = true then 0 else 2)
  else 6
def loM (s : ByteArray) (ps : List Pce) (ys : List Eye) (f : Int) : Int := if loE s ps ys f = 0 then mas ps else 0
theorem loE_ok {s : ByteArray} {ps : List Pce} {ys : List Eye} {f : Int} (h : loE s ps ys f = 0) :
    (1 ≤ ps.length ∧ ps.length ≤ 32 ∧ ys.length ≤ 32) ∧ nmS s = true ∧ (0 ≤ f ∧ f ≤ 1000) ∧ okPs ps = true ∧ okYs ys = true ∧ 1 ≤ mas ps ∧ mas ps ≤ 16777216 := by
  unfold loE at h
  split at h
  · rename_i h1
    split at h
    · rename_i h2
      obtain ⟨a, b, c, d⟩ := h2
      rw [Bool.and_eq_true] at c
      exact ⟨h1, a, win_t b, c.1, c.2, win_t d⟩
    · cases h
  · cases h
theorem lo6 {s : ByteArray} {ps : List Pce} {ys : List Eye} {f : Int} (h : ¬ (1 ≤ ps.length ∧ ps.length ≤ 32 ∧ ys.length ≤ 32)) : loE s ps ys f = 6 := by
  unfold loE; rw [if_neg h]
theorem lo2 {s : ByteArray} {ps : List Pce} {ys : List Eye} {f : Int} (g : 1 ≤ ps.length ∧ ps.length ≤ 32 ∧ ys.length ≤ 32) (h : nmS s = false ∨ win f 0 1000 = false ∨ (okPs ps && okYs ys) = false ∨ win (mas ps) 1 16777216 = false) : loE s ps ys f = 2 := by
  unfold loE
  rw [if_pos g, if_neg]
  rintro ⟨a, b, c, d⟩
  rcases h with h | h | h | h <;> simp_all
theorem lo0 {s : ByteArray} {ps : List Pce} {ys : List Eye} {f : Int} (g : 1 ≤ ps.length ∧ ps.length ≤ 32 ∧ ys.length ≤ 32) (a : nmS s = true) (b : win f 0 1000 = true) (c : (okPs ps && okYs ys) = true) (d : win (mas ps) 1 16777216 = true) : loE s ps ys f = 0 := by
  unfold loE
  rw [if_pos g, if_pos ⟨a, b, c, d⟩]
set_option maxRecDepth 100000 in
set_option maxHeartbeats 8000000 in
theorem p_CheckL (s : ByteArray) (A : Option Addr) (ps : List Pce) (capA : Nat) (B : Option Addr) (ys : List Eye) (capB : Nat) (f : Int) (w : World) (hA : Pcs w A ps) (hB : Eyes w B ys) (hn : ps.length ≤ 9223372036854775807) (hm : ys.length ≤ 9223372036854775807) :
    Calls Tryz.prog 15 #[loV s A ps.length capA B ys.length capB f] w fun e w' => e = .returned (.int .i64 (loE s ps ys f)) ∧ Up w w' := by
  have HE6 := hide (lo6 (s := s) (ps := ps) (ys := ys) (f := f))
  have HE2 := hide (lo2 (s := s) (ps := ps) (ys := ys) (f := f))
  have HE0 := hide (lo0 (s := s) (ps := ps) (ys := ys) (f := f))
  have HV := hide (fun W (hW : Up w W) h1 h2 => p_allValid s A ps capA B ys capB f W (pcs_up hA hW) (eyes_up hB hW) h1 h2)
  have HM := hide (fun W (hW : Up w W) h1 h2 => p_mass A ps capA W (pcs_up hA hW) h1 h2)
  have HK := hide (fun (h : (okPs ps && okYs ys) = true) => (by rw [Bool.and_eq_true] at h; exact h.1 : okPs ps = true))
  have HNm := hide (fun W => p_IsName s W)
  have HF := hide (fun W => p_withinL f 0 1000 W)
  have HW := hide (fun W => p_withinL (mas ps) 1 16777216 W)
  clear hA hB
  generalize loE s ps ys f = E at *
  generalize nmS s = q0 at *
  generalize win f 0 1000 = q1 at *
  generalize (okPs ps && okYs ys) = q2 at *
  generalize win (mas ps) 1 16777216 = q3 at *
  generalize mas ps = S at *
  generalize ps.length = n at *
  generalize ys.length = m at *
  by_cases g1 : (1 : Int) ≤ n
  rotate_left
  · have F := hide (unhide HE6 (by omega))
    go_enter Tryz.func15, Tryz.ntmps15
    go_wp2_with fail
    go_ret
    exact ⟨by rw [unhide F]; rfl, (by repeat' (first | (with_reducible exact up_refl _) | (with_reducible assumption) | (with_reducible refine up_alloc ?_ _) | (with_reducible refine up_drewN ?_ _) | (with_reducible refine up_drew ?_) | (with_reducible refine up_set ?_ (by first | (simp; done) | (simp; omega) | omega) _) | (refine up_trans ?_ (by with_reducible assumption))))⟩
  by_cases g2 : 32 < (n : Int)
  · have F := hide (unhide HE6 (by omega))
    go_enter Tryz.func15, Tryz.ntmps15
    go_wp2_with fail
    go_ret
    exact ⟨by rw [unhide F]; rfl, (by repeat' (first | (with_reducible exact up_refl _) | (with_reducible assumption) | (with_reducible refine up_alloc ?_ _) | (with_reducible refine up_drewN ?_ _) | (with_reducible refine up_drew ?_) | (with_reducible refine up_set ?_ (by first | (simp; done) | (simp; omega) | omega) _) | (refine up_trans ?_ (by with_reducible assumption))))⟩
  by_cases g3 : 32 < (m : Int)
  · have F := hide (unhide HE6 (by omega))
    go_enter Tryz.func15, Tryz.ntmps15
    go_wp2_with fail
    go_ret
    exact ⟨by rw [unhide F]; rfl, (by repeat' (first | (with_reducible exact up_refl _) | (with_reducible assumption) | (with_reducible refine up_alloc ?_ _) | (with_reducible refine up_drewN ?_ _) | (with_reducible refine up_drew ?_) | (with_reducible refine up_set ?_ (by first | (simp; done) | (simp; omega) | omega) _) | (refine up_trans ?_ (by with_reducible assumption))))⟩
  have HG := hide (show 1 ≤ n ∧ n ≤ 32 ∧ m ≤ 32 by omega)
  cases q0
  · have F := hide (unhide HE2 (unhide HG) (.inl rfl))
    clear HE6 HE2 HE0 HV HM HK HF HW
    go_enter Tryz.func15, Tryz.ntmps15
    go_wp2_with (go_at_call 37; (with_reducible refine (unhide HNm _).mono ?_); rintro e w1 ⟨rfl, hb⟩)
    go_ret
    exact ⟨by rw [unhide F]; rfl, (by repeat' (first | (with_reducible exact up_refl _) | (with_reducible assumption) | (with_reducible refine up_alloc ?_ _) | (with_reducible refine up_drewN ?_ _) | (with_reducible refine up_drew ?_) | (with_reducible refine up_set ?_ (by first | (simp; done) | (simp; omega) | omega) _) | (refine up_trans ?_ (by with_reducible assumption))))⟩
  cases q1
  · have F := hide (unhide HE2 (unhide HG) (.inr (.inl rfl)))
    clear HE6 HE2 HE0 HV HM HK HW
    go_enter Tryz.func15, Tryz.ntmps15
    go_upto_region 1 with fail
    refine at_wp (fun W0 hW0 => ?_)
    have U0 : Up w W0 := by rw [hW0]; exact (by repeat' (first | (with_reducible exact up_refl _) | (with_reducible assumption) | (with_reducible refine up_alloc ?_ _) | (with_reducible refine up_drewN ?_ _) | (with_reducible refine up_drew ?_) | (with_reducible refine up_set ?_ (by first | (simp; done) | (simp; omega) | omega) _) | (refine up_trans ?_ (by with_reducible assumption))))
    have B0 : Bx W0 w.heap.size [.string s, .slice A n capA, .slice B m capB, .int .i64 f] := by rw [hW0]; exact bx_new w _ 27
    clear hW0
    have c0 := (B0 0 _ rfl).1
    have c1 := (B0 1 _ rfl).1
    have c2 := (B0 2 _ rfl).1
    go_wp2_with (first | (go_at_call 37; (with_reducible refine (unhide HNm _).mono ?_); rintro e w1 ⟨rfl, hb⟩; have c3 := (bx_up B0 hb 3 _ rfl).1) | (go_at_call 38; (with_reducible refine (unhide HF _).mono ?_); rintro e w2 ⟨rfl, rfl⟩))
    go_ret
    exact ⟨by rw [unhide F]; rfl, up_trans U0 hb⟩
  cases q2
  · have F := hide (unhide HE2 (unhide HG) (.inr (.inr (.inl rfl))))
    clear HE6 HE2 HE0 HM HK HW
    go_enter Tryz.func15, Tryz.ntmps15
    go_upto_region 1 with fail
    refine at_wp (fun W0 hW0 => ?_)
    have U0 : Up w W0 := by rw [hW0]; exact (by repeat' (first | (with_reducible exact up_refl _) | (with_reducible assumption) | (with_reducible refine up_alloc ?_ _) | (with_reducible refine up_drewN ?_ _) | (with_reducible refine up_drew ?_) | (with_reducible refine up_set ?_ (by first | (simp; done) | (simp; omega) | omega) _) | (refine up_trans ?_ (by with_reducible assumption))))
    have B0 : Bx W0 w.heap.size [.string s, .slice A n capA, .slice B m capB, .int .i64 f] := by rw [hW0]; exact bx_new w _ 27
    clear hW0
    have c0 := (B0 0 _ rfl).1
    have c1 := (B0 1 _ rfl).1
    have c2 := (B0 2 _ rfl).1
    have L1 := (unhide HG).2.1
    have L2 := (unhide HG).2.2
    have HL := hide (And.intro L1 L2)
    clear L1 L2
    go_upto_region 3 with fail
    go_wp2_with (first | (go_at_call 37; (with_reducible refine (unhide HNm _).mono ?_); rintro e w1 ⟨rfl, hb⟩; have B1 := bx_up B0 hb; have k0 := (B1 0 _ rfl).1; have k1 := (B1 1 _ rfl).1; have k2 := (B1 2 _ rfl).1; have k3 := (B1 3 _ rfl).1; have U1 := up_trans U0 hb) | (go_at_call 38; (with_reducible refine (unhide HF _).mono ?_); rintro e w2 ⟨rfl, rfl⟩) | (go_at_call 39; (with_reducible refine (unhide HV _ U1 (unhide HL).1 (unhide HL).2).mono ?_); rintro e w3 ⟨rfl, hb3⟩; have m1 := (bx_up B1 hb3 1 _ rfl).1; have U3 := up_trans U1 hb3))
    go_ret
    exact ⟨by rw [unhide F]; rfl, U3⟩
  have HOk := hide (unhide HK rfl)
  clear HK
  cases q3
  · have F := hide (unhide HE2 (unhide HG) (.inr (.inr (.inr rfl))))
    clear HE6 HE2 HE0
    go_enter Tryz.func15, Tryz.ntmps15
    go_upto_region 1 with fail
    refine at_wp (fun W0 hW0 => ?_)
    have U0 : Up w W0 := by rw [hW0]; exact (by repeat' (first | (with_reducible exact up_refl _) | (with_reducible assumption) | (with_reducible refine up_alloc ?_ _) | (with_reducible refine up_drewN ?_ _) | (with_reducible refine up_drew ?_) | (with_reducible refine up_set ?_ (by first | (simp; done) | (simp; omega) | omega) _) | (refine up_trans ?_ (by with_reducible assumption))))
    have B0 : Bx W0 w.heap.size [.string s, .slice A n capA, .slice B m capB, .int .i64 f] := by rw [hW0]; exact bx_new w _ 27
    clear hW0
    have c0 := (B0 0 _ rfl).1
    have c1 := (B0 1 _ rfl).1
    have c2 := (B0 2 _ rfl).1
    have L1 := (unhide HG).2.1
    have L2 := (unhide HG).2.2
    have HL := hide (And.intro L1 L2)
    clear L1 L2
    go_upto_region 3 with fail
    go_wp2_with (first | (go_at_call 37; (with_reducible refine (unhide HNm _).mono ?_); rintro e w1 ⟨rfl, hb⟩; have B1 := bx_up B0 hb; have k0 := (B1 0 _ rfl).1; have k1 := (B1 1 _ rfl).1; have k2 := (B1 2 _ rfl).1; have k3 := (B1 3 _ rfl).1; have U1 := up_trans U0 hb) | (go_at_call 38; (with_reducible refine (unhide HF _).mono ?_); rintro e w2 ⟨rfl, rfl⟩) | (go_at_call 39; (with_reducible refine (unhide HV _ U1 (unhide HL).1 (unhide HL).2).mono ?_); rintro e w3 ⟨rfl, hb3⟩; have m1 := (bx_up B1 hb3 1 _ rfl).1; have U3 := up_trans U1 hb3) | (go_at_call 18; (with_reducible refine (unhide HM _ U3 (unhide HOk) (unhide HL).1).mono ?_); rintro e w4 ⟨rfl, hb4⟩; have U4 := up_trans U3 hb4) | (go_at_call 38; (with_reducible refine (unhide HW _).mono ?_); rintro e w5 ⟨rfl, rfl⟩))
    go_ret
    exact ⟨by rw [unhide F]; rfl, U4⟩
  · have F := hide (unhide HE0 (unhide HG) rfl rfl rfl rfl)
    clear HE6 HE2 HE0
    go_enter Tryz.func15, Tryz.ntmps15
    go_upto_region 1 with fail
    refine at_wp (fun W0 hW0 => ?_)
    have U0 : Up w W0 := by rw [hW0]; exact (by repeat' (first | (with_reducible exact up_refl _) | (with_reducible assumption) | (with_reducible refine up_alloc ?_ _) | (with_reducible refine up_drewN ?_ _) | (with_reducible refine up_drew ?_) | (with_reducible refine up_set ?_ (by first | (simp; done) | (simp; omega) | omega) _) | (refine up_trans ?_ (by with_reducible assumption))))
    have B0 : Bx W0 w.heap.size [.string s, .slice A n capA, .slice B m capB, .int .i64 f] := by rw [hW0]; exact bx_new w _ 27
    clear hW0
    have c0 := (B0 0 _ rfl).1
    have c1 := (B0 1 _ rfl).1
    have c2 := (B0 2 _ rfl).1
    have L1 := (unhide HG).2.1
    have L2 := (unhide HG).2.2
    have HL := hide (And.intro L1 L2)
    clear L1 L2
    go_upto_region 3 with fail
    go_wp2_with (first | (go_at_call 37; (with_reducible refine (unhide HNm _).mono ?_); rintro e w1 ⟨rfl, hb⟩; have B1 := bx_up B0 hb; have k0 := (B1 0 _ rfl).1; have k1 := (B1 1 _ rfl).1; have k2 := (B1 2 _ rfl).1; have k3 := (B1 3 _ rfl).1; have U1 := up_trans U0 hb) | (go_at_call 38; (with_reducible refine (unhide HF _).mono ?_); rintro e w2 ⟨rfl, rfl⟩) | (go_at_call 39; (with_reducible refine (unhide HV _ U1 (unhide HL).1 (unhide HL).2).mono ?_); rintro e w3 ⟨rfl, hb3⟩; have m1 := (bx_up B1 hb3 1 _ rfl).1; have U3 := up_trans U1 hb3) | (go_at_call 18; (with_reducible refine (unhide HM _ U3 (unhide HOk) (unhide HL).1).mono ?_); rintro e w4 ⟨rfl, hb4⟩; have U4 := up_trans U3 hb4) | (go_at_call 38; (with_reducible refine (unhide HW _).mono ?_); rintro e w5 ⟨rfl, rfl⟩))
    go_ret
    exact ⟨by rw [unhide F]; rfl, U4⟩
set_option maxRecDepth 100000 in
theorem p_MassL (s : ByteArray) (A : Option Addr) (ps : List Pce) (capA : Nat) (B : Option Addr) (ys : List Eye) (capB : Nat) (f : Int) (w : World) (hA : Pcs w A ps) (hB : Eyes w B ys) (hn : ps.length ≤ 9223372036854775807) (hm : ys.length ≤ 9223372036854775807) :
    Calls Tryz.prog 10 #[loV s A ps.length capA B ys.length capB f] w fun e w' => e = .returned (.tuple #[.int .i64 (loM s ps ys f), .int .i64 (loE s ps ys f)]) ∧ Up w w' := by
  have HC := hide (fun W (hW : Up w W) => p_CheckL s A ps capA B ys capB f W (pcs_up hA hW) (eyes_up hB hW) hn hm)
  have HM := hide (fun W (hW : Up w W) (he : loE s ps ys f = 0) => p_mass A ps capA W (pcs_up hA hW) (loE_ok he).2.2.2.1 (loE_ok he).1.2.1)
  unfold loM
  clear hA hB
  generalize loE s ps ys f = E at *
  generalize mas ps = S at *
  generalize ps.length = n at *
  generalize ys.length = m at *
  go_enter Tryz.func10, Tryz.ntmps10
  go_upto_region 1 with fail
  refine at_wp (fun W0 hW0 => ?_)
  have U0 : Up w W0 := by rw [hW0]; exact (by repeat' (first | (with_reducible exact up_refl _) | (with_reducible assumption) | (with_reducible refine up_alloc ?_ _) | (with_reducible refine up_drewN ?_ _) | (with_reducible refine up_drew ?_) | (with_reducible refine up_set ?_ (by first | (simp; done) | (simp; omega) | omega) _) | (refine up_trans ?_ (by with_reducible assumption))))
  have B0 : Bx W0 w.heap.size [.string s, .slice A n capA, .slice B m capB, .int .i64 f] := by rw [hW0]; exact bx_new w _ 27
  clear hW0
  have c0 := (B0 0 _ rfl).1
  have c1 := (B0 1 _ rfl).1
  have c2 := (B0 2 _ rfl).1
  have c3 := (B0 3 _ rfl).1
  by_cases he : E = 0
  · subst he
    have HM2 := hide (fun W hW => unhide HM W hW rfl)
    clear HM
    go_wp2_with (first | (go_at_call 15; (with_reducible refine (unhide HC _ U0).mono ?_); rintro e w1 ⟨rfl, hb⟩; have k1 := (bx_up B0 hb 1 _ rfl).1; have U1 := up_trans U0 hb) | (go_at_call 18; (with_reducible refine (unhide HM2 _ U1).mono ?_); rintro e w2 ⟨rfl, hb2⟩))
    go_returns
    exact ⟨rfl, up_trans U1 hb2⟩
  · have t : (E == 0) = false := by simp [he]
    have HH := hide he
    clear he
    go_wp2_with (go_at_call 15; (with_reducible refine (unhide HC _ U0).mono ?_); rintro e w1 ⟨rfl, hb⟩; have k1 := (bx_up B0 hb 1 _ rfl).1; have U1 := up_trans U0 hb)
    go_returns
    exact ⟨by first | rfl | (rw [if_neg (unhide HH)]; rfl), U1⟩
end Go.Proofs.YthifcalemhpmoaaGreat
namespace Go.Proofs.YthifcalemhpmoaaGreat
open Go.RowKit Go.Proofs.Gn
theorem bxm2 (W : World) (v1 v2 : List Value) (t1 t2 : TypeId) : Bx ((W.alloc (.cells v1.toArray t1)).alloc (.cells v2.toArray t2)) W.heap.size v1 ∧ Bx ((W.alloc (.cells v1.toArray t1)).alloc (.cells v2.toArray t2)) (W.heap.size + 1) v2 := by
  refine ⟨bx_alloc (bx_new W v1 t1) _, ?_⟩
  have := bx_new (W.alloc (.cells v1.toArray t1)) v2 t2
  rwa [sz1] at this
theorem bxm3 (W : World) (v1 v2 v3 : List Value) (t1 t2 t3 : TypeId) :
    Bx (((W.alloc (.cells v1.toArray t1)).alloc (.cells v2.toArray t2)).alloc (.cells v3.toArray t3)) W.heap.size v1 ∧ Bx (((W.alloc (.cells v1.toArray t1)).alloc (.cells v2.toArray t2)).alloc (.cells v3.toArray t3)) (W.heap.size + 1) v2 ∧ Bx (((W.alloc (.cells v1.toArray t1)).alloc (.cells v2.toArray t2)).alloc (.cells v3.toArray t3)) (W.heap.size + 1 + 1) v3 := by
  refine ⟨bx_alloc (bx_alloc (bx_new W v1 t1) _) _, ?_, ?_⟩
  · have := bx_new (W.alloc (.cells v1.toArray t1)) v2 t2
    rw [sz1] at this
    exact bx_alloc this _
  · have := bx_new ((W.alloc (.cells v1.toArray t1)).alloc (.cells v2.toArray t2)) v3 t3
    rw [sz1, sz1] at this
    exact this
set_option maxRecDepth 100000 in
set_option maxHeartbeats 4000000 in
theorem p_ends {x y z l wd h m : Int} (hp : okPp ⟨x, y, z, l, wd, h, m⟩) (w : World) :
    Calls Tryz.prog 40 #[.agg #[.int .i64 x, .int .i64 y, .int .i64 z, .int .i64 l, .int .i64 wd, .int .i64 h, .int .i64 m]] w fun e w' => e = .returned (.tuple #[.agg #[.int .i64 x, .int .i64 y, .int .i64 z], .agg #[.int .i64 (x + l), .int .i64 (y + wd), .int .i64 (z + h)]]) ∧ Up w w' := by
  unfold okPp at hp
  simp only at hp
  have hx : IntKind.i64.wrap (x + l) = x + l := IntWalk.i64_in _ ⟨by omega, by omega⟩
  have hy : IntKind.i64.wrap (y + wd) = y + wd := IntWalk.i64_in _ ⟨by omega, by omega⟩
  have hz : IntKind.i64.wrap (z + h) = z + h := IntWalk.i64_in _ ⟨by omega, by omega⟩
  clear hp
  go_enter Tryz.func40, Tryz.ntmps40
  go_upto_region 1 with fail
  refine at_wp (fun W0 hW0 => ?_)
  have t3 := bxm3 w [.int .i64 x, .int .i64 y, .int .i64 z, .int .i64 l, .int .i64 wd, .int .i64 h, .int .i64 m] [.int .i64 0, .int .i64 0, .int .i64 0] [.int .i64 0, .int .i64 0, .int .i64 0] 57 29 29
  have U0 : Up w W0 := by rw [hW0]; exact (by repeat' (first | (with_reducible exact up_refl _) | (with_reducible assumption) | (with_reducible refine up_alloc ?_ _) | (with_reducible refine up_drewN ?_ _) | (with_reducible refine up_drew ?_) | (with_reducible refine up_set ?_ (by first | (simp; done) | (simp; omega) | omega) _) | (refine up_trans ?_ (by with_reducible assumption))))
  have B0 : Bx W0 w.heap.size [.int .i64 x, .int .i64 y, .int .i64 z, .int .i64 l, .int .i64 wd, .int .i64 h, .int .i64 m] := by rw [hW0]; exact t3.1
  have R0 : Bx W0 (w.heap.size + 1) [.int .i64 0, .int .i64 0, .int .i64 0] := by rw [hW0]; exact t3.2.1
  have S0 : Bx W0 (w.heap.size + 1 + 1) [.int .i64 0, .int .i64 0, .int .i64 0] := by rw [hW0]; exact t3.2.2
  clear hW0 t3
  have c0 := (B0 0 _ rfl).1
  have c1 := (B0 1 _ rfl).1
  have c2 := (B0 2 _ rfl).1
  have c3 := (B0 3 _ rfl).1
  have c4 := (B0 4 _ rfl).1
  have c5 := (B0 5 _ rfl).1
  obtain ⟨p0, p1, p2⟩ := bx3 R0
  obtain ⟨f0, f1, f2⟩ := bxf3 R0
  obtain ⟨q0, q1, q2⟩ := bx3 S0
  obtain ⟨g0, g1, g2⟩ := bxf3 S0
  have HR := hide R0
  have HS := hide S0
  have HU := hide U0
  clear B0 R0 S0 U0
  go_wp2_with fail
  go_region_held3 (fun wx => wx.cell? ⟨w.heap.size, 0, none⟩ = some (.int .i64 x) ∧ wx.cell? ⟨w.heap.size, 1, none⟩ = some (.int .i64 y) ∧ wx.cell? ⟨w.heap.size, 2, none⟩ = some (.int .i64 z) ∧ wx.cell? ⟨w.heap.size, 3, none⟩ = some (.int .i64 l) ∧ wx.cell? ⟨w.heap.size, 4, none⟩ = some (.int .i64 wd) ∧ wx.cell? ⟨w.heap.size, 5, none⟩ = some (.int .i64 h)) ((go_split_ands; go_cell)) (fail)
  go_wp2_with fail
  rename_i hHeld
  clear hHeld
  obtain ⟨W9, hW9⟩ : ∃ W9 : World, W9 = ((((((W0.setCell ⟨w.heap.size + 1, 0, none⟩ (.int .i64 x)).setCell ⟨w.heap.size + 1, 1, none⟩ (.int .i64 y)).setCell ⟨w.heap.size + 1, 2, none⟩ (.int .i64 z)).setCell ⟨w.heap.size + 1 + 1, 0, none⟩ (.int .i64 (x + l))).setCell ⟨w.heap.size + 1 + 1, 1, none⟩ (.int .i64 (y + wd))).setCell ⟨w.heap.size + 1 + 1, 2, none⟩ (.int .i64 (z + h))).drew := ⟨_, rfl⟩
  rw [← hW9]
  have R9 : Bx W9 (w.heap.size + 1) [.int .i64 x, .int .i64 y, .int .i64 z] := by rw [hW9]; exact bx_drew (bx_far3 (bx_set3 (unhide HR)) (by omega))
  have S9 : Bx W9 (w.heap.size + 1 + 1) [.int .i64 (x + l), .int .i64 (y + wd), .int .i64 (z + h)] := by rw [hW9]; exact bx_drew (bx_set3 (bx_far3 (unhide HS) (by omega)))
  have U9 : Up w W9 := by rw [hW9]; have u := unhide HU; exact up_drew (up_set (up_set (up_set (up_set (up_set (up_set u (by simp) _) (by simp) _) (by simp) _) (by simp; omega) _) (by simp; omega) _) (by simp; omega) _)
  clear hW9 p0 p1 p2 q0 q1 q2 c0 c1 c2 c3 c4 c5 f0 f1 f2 g0 g1 g2
  obtain ⟨p0, p1, p2⟩ := bx3 R9
  obtain ⟨q0, q1, q2⟩ := bx3 S9
  refine bodyPost_ret (v := .tuple #[.agg #[.int .i64 x, .int .i64 y, .int .i64 z], .agg #[.int .i64 (x + l), .int .i64 (y + wd), .int .i64 (z + h)]]) (by simp [results, Tryz.results40, go_sem, p0, p1, p2, q0, q1, q2]) rfl ⟨rfl, U9⟩
end Go.Proofs.YthifcalemhpmoaaGreat
namespace Go.Proofs.YthifcalemhpmoaaGreat
open Go.RowKit Go.Proofs.Gn
/-! ### The moments -/
def mo (f : Pce → Int) : List Pce → Int
  | [] => 0
  | p :: ps => f p + mo f ps
def fX (p : Pce) : Int := p.m * (p.x + (p.x + p.l))
def fY (p : Pce) : Int := p.m * (p.y + (p.y + p.w))
def fZ (p : Pce) : Int := p.m * (p.z + (p.z + p.h))
theorem mo_append (f : Pce → Int) (a b : List Pce) : mo f (a ++ b) = mo f a + mo f b := by
  induction a with
  | nil => simp [mo]
  | cons p a ih => simp only [List.cons_append, mo, ih]; omega
theorem mo_take (f : Pce → Int) {ps : List Pce} {k : Nat} (h : k < ps.length) : mo f (ps.take (k + 1)) = mo f (ps.take k) + f ps[k] := by
  rw [List.take_succ_eq_append_getElem h, mo_append]
  simp [mo]
theorem mo_bd (f : Pce → Int) {ps : List Pce} (hf : ∀ p, okP p = true → -4398046511104 ≤ f p ∧ f p ≤ 4398046511104) (h : okPs ps = true) (k : Nat) (hk : k ≤ ps.length) : -(4398046511104 * k) ≤ mo f (ps.take k) ∧ mo f (ps.take k) ≤ 4398046511104 * k := by
  induction k with
  | zero => simp [mo]
  | succ k ih =>
    have i := ih (by omega)
    have t := hf _ (okPs_get h (k := k) (by omega))
    rw [mo_take f (by omega)]
    omega
theorem fm_bd {m s : Int} (hm : 0 ≤ m ∧ m ≤ 16777216) (hs : -262144 ≤ s ∧ s ≤ 262144) : -4398046511104 ≤ m * s ∧ m * s ≤ 4398046511104 := by
  have a : m * s ≤ 16777216 * 262144 := by
    have := Int.mul_le_mul_of_nonneg_left hs.2 hm.1
    have := Int.mul_le_mul_of_nonneg_right hm.2 (show (0 : Int) ≤ 262144 by omega)
    omega
  have b : -(16777216 * 262144) ≤ m * s := by
    have := Int.mul_le_mul_of_nonneg_left hs.1 hm.1
    have := Int.mul_le_mul_of_nonneg_right hm.2 (show (0 : Int) ≤ 262144 by omega)
    omega
  omega
theorem fX_bd (p : Pce) (h : okP p = true) : -4398046511104 ≤ fX p ∧ fX p ≤ 4398046511104 := by
  have t := (okP_iff p).1 h
  unfold okPp at t
  exact fm_bd (by omega) (by omega)
theorem fY_bd (p : Pce) (h : okP p = true) : -4398046511104 ≤ fY p ∧ fY p ≤ 4398046511104 := by
  have t := (okP_iff p).1 h
  unfold okPp at t
  exact fm_bd (by omega) (by omega)
theorem fZ_bd (p : Pce) (h : okP p = true) : -4398046511104 ≤ fZ p ∧ fZ p ≤ 4398046511104 := by
  have t := (okP_iff p).1 h
  unfold okPp at t
  exact fm_bd (by omega) (by omega)
set_option maxRecDepth 100000 in
set_option maxHeartbeats 8000000 in
theorem p_moments (A : Option Addr) (ps : List Pce) (cap : Nat) (w : World) (h : Pcs w A ps) (ho : okPs ps = true) (hn : ps.length ≤ 32) :
    Calls Tryz.prog 16 #[.slice A ps.length cap] w fun e w' => e = .returned (.agg #[.int .i64 (mo fX ps), .int .i64 (mo fY ps), .int .i64 (mo fZ ps)]) ∧ Up w w' := by
  rcases h with rfl | ⟨b, off, rfl, hc⟩
  · go_enter Tryz.func16, Tryz.ntmps16
    go_wp2_with fail
    go_rounds 1
    go_returns
    exact ⟨rfl, (by repeat' (first | (with_reducible exact up_refl _) | (with_reducible assumption) | (with_reducible refine up_alloc ?_ _) | (with_reducible refine up_drewN ?_ _) | (with_reducible refine up_drew ?_) | (with_reducible refine up_set ?_ (by first | (simp; done) | (simp; omega) | omega) _) | (refine up_trans ?_ (by with_reducible assumption))))⟩
  have HC := hide hc
  have HO := hide ho
  clear hc ho
  obtain ⟨n, hN⟩ : ∃ n, ps.length = n := ⟨_, rfl⟩
  rw [hN] at hn ⊢
  have HN := hide hN
  clear hN
  go_enter Tryz.func16, Tryz.ntmps16
  go_wp2_with fail
  go_loopw [11] (fun i wr => ∃ k : Nat, k ≤ n ∧ i = .int .i64 k ∧ Up w wr ∧ Bx wr (w.heap.size + 1) [.int .i64 (mo fX (ps.take k)), .int .i64 (mo fY (ps.take k)), .int .i64 (mo fZ (ps.take k))] ∧ Bx wr w.heap.size [.int .i64 0, .int .i64 0, .int .i64 0]) (fun i _ => n - (intOf i).toNat)
  case atStart => exact ⟨0, by omega, rfl, (by repeat' (first | (with_reducible exact up_refl _) | (with_reducible assumption) | (with_reducible refine up_alloc ?_ _) | (with_reducible refine up_drewN ?_ _) | (with_reducible refine up_drew ?_) | (with_reducible refine up_set ?_ (by first | (simp; done) | (simp; omega) | omega) _) | (refine up_trans ?_ (by with_reducible assumption)))), (bxm2 w [.int .i64 0, .int .i64 0, .int .i64 0] [.int .i64 0, .int .i64 0, .int .i64 0] 29 29).2, (bxm2 w [.int .i64 0, .int .i64 0, .int .i64 0] [.int .i64 0, .int .i64 0, .int .i64 0] 29 29).1⟩
  case round =>
    obtain ⟨k, hk, rfl, hu, hB, hZ⟩ := hrel
    have hUs := bx_lt hB (by simp)
    by_cases hlt : k < n
    · have hl : k < ps.length := by rw [unhide HN]; exact hlt
      have hp := pceAt_up (unhide HC k hl) hu
      obtain ⟨d0, d1, d2, d3, d4, d5, d6⟩ := hp
      have hok := (okP_iff _).1 (okPs_get (unhide HO) hl)
      have bX := mo_bd fX fX_bd (unhide HO) k (by rw [unhide HN]; exact hk)
      have bY := mo_bd fY fY_bd (unhide HO) k (by rw [unhide HN]; exact hk)
      have bZ := mo_bd fZ fZ_bd (unhide HO) k (by rw [unhide HN]; exact hk)
      have tX := mo_take fX hl
      have tY := mo_take fY hl
      have tZ := mo_take fZ hl
      obtain ⟨SX, hSX⟩ : ∃ S, mo fX (ps.take k) = S := ⟨_, rfl⟩
      obtain ⟨SY, hSY⟩ : ∃ S, mo fY (ps.take k) = S := ⟨_, rfl⟩
      obtain ⟨SZ, hSZ⟩ : ∃ S, mo fZ (ps.take k) = S := ⟨_, rfl⟩
      rw [hSX] at bX tX hB
      rw [hSY] at bY tY hB
      rw [hSZ] at bZ tZ hB
      unfold fX at tX
      unfold fY at tY
      unfold fZ at tZ
      obtain ⟨x, hx⟩ : ∃ t, ps[k].x = t := ⟨_, rfl⟩
      obtain ⟨y, hy⟩ : ∃ t, ps[k].y = t := ⟨_, rfl⟩
      obtain ⟨z, hz⟩ : ∃ t, ps[k].z = t := ⟨_, rfl⟩
      obtain ⟨l, hl'⟩ : ∃ t, ps[k].l = t := ⟨_, rfl⟩
      obtain ⟨wd, hwd⟩ : ∃ t, ps[k].w = t := ⟨_, rfl⟩
      obtain ⟨h, hh⟩ : ∃ t, ps[k].h = t := ⟨_, rfl⟩
      obtain ⟨m, hm⟩ : ∃ t, ps[k].m = t := ⟨_, rfl⟩
      have hok2 : okPp ⟨x, y, z, l, wd, h, m⟩ := by rw [← hx, ← hy, ← hz, ← hl', ← hwd, ← hh, ← hm]; exact hok
      rw [hx] at d0 tX; rw [hy] at d1 tY; rw [hz] at d2 tZ; rw [hl'] at d3 tX; rw [hwd] at d4 tY; rw [hh] at d5 tZ; rw [hm] at d6 tX tY tZ
      clear hSX hSY hSZ hx hy hz hl' hwd hh hm hok
      have HEn := hide (fun W => p_ends hok2 W)
      unfold okPp at hok2
      simp only at hok2
      obtain ⟨x2, hx2⟩ : ∃ t, x + l = t := ⟨_, rfl⟩
      obtain ⟨y2, hy2⟩ : ∃ t, y + wd = t := ⟨_, rfl⟩
      obtain ⟨z2, hz2⟩ : ∃ t, z + h = t := ⟨_, rfl⟩
      rw [hx2] at tX
      rw [hy2] at tY
      rw [hz2] at tZ
      have gX := fm_bd (m := m) (s := x + x2) (by omega) (by omega)
      have gY := fm_bd (m := m) (s := y + y2) (by omega) (by omega)
      have gZ := fm_bd (m := m) (s := z + z2) (by omega) (by omega)
      have vX : IntKind.i64.wrap (x + x2) = x + x2 := IntWalk.i64_in _ ⟨by omega, by omega⟩
      have vY : IntKind.i64.wrap (y + y2) = y + y2 := IntWalk.i64_in _ ⟨by omega, by omega⟩
      have vZ : IntKind.i64.wrap (z + z2) = z + z2 := IntWalk.i64_in _ ⟨by omega, by omega⟩
      rw [hx2, hy2, hz2] at HEn
      have HT := hide (And.intro tX (And.intro tY tZ))
      obtain ⟨eX, heX⟩ : ∃ t, x + x2 = t := ⟨_, rfl⟩
      obtain ⟨eY, heY⟩ : ∃ t, y + y2 = t := ⟨_, rfl⟩
      obtain ⟨eZ, heZ⟩ : ∃ t, z + z2 = t := ⟨_, rfl⟩
      have VX : Hid (IntKind.i64.wrap (x + x2) = x + x2) := hide vX
      have VY : Hid (IntKind.i64.wrap (y + y2) = y + y2) := hide vY
      have VZ : Hid (IntKind.i64.wrap (z + z2) = z + z2) := hide vZ
      have hwk : IntKind.i64.wrap ((k : Int) + 1) = (k : Int) + 1 := IntWalk.i64_in _ ⟨by omega, by omega⟩
      have wX : IntKind.i64.wrap (m * (x + x2)) = m * (x + x2) := IntWalk.i64_in _ ⟨by omega, by omega⟩
      have wY : IntKind.i64.wrap (m * (y + y2)) = m * (y + y2) := IntWalk.i64_in _ ⟨by omega, by omega⟩
      have wZ : IntKind.i64.wrap (m * (z + z2)) = m * (z + z2) := IntWalk.i64_in _ ⟨by omega, by omega⟩
      have sX : IntKind.i64.wrap (SX + m * (x + x2)) = SX + m * (x + x2) := IntWalk.i64_in _ ⟨by omega, by omega⟩
      have sY : IntKind.i64.wrap (SY + m * (y + y2)) = SY + m * (y + y2) := IntWalk.i64_in _ ⟨by omega, by omega⟩
      have sZ : IntKind.i64.wrap (SZ + m * (z + z2)) = SZ + m * (z + z2) := IntWalk.i64_in _ ⟨by omega, by omega⟩
      clear heX heY heZ eX eY eZ gX gY gZ bX bY bZ tX tY tZ hok2 hx2 hy2 hz2 VX VY VZ
      go_wp2_with (go_at_call 40; (with_reducible refine (unhide HEn _).mono ?_); rintro e w1 ⟨rfl, hb1⟩)
      have zs := up_size hb1
      rw [sz1] at zs
      refine at_wp (fun W0 hW0 => ?_)
      have u0 : Up w1 W0 := by rw [hW0]; exact (by repeat' (first | (with_reducible exact up_refl _) | (with_reducible assumption) | (with_reducible refine up_alloc ?_ _) | (with_reducible refine up_drewN ?_ _) | (with_reducible refine up_drew ?_) | (with_reducible refine up_set ?_ (by first | (simp; done) | (simp; omega) | omega) _) | (refine up_trans ?_ (by with_reducible assumption))))
      have t2 := bxm2 w1 [.int .i64 x, .int .i64 y, .int .i64 z] [.int .i64 x2, .int .i64 y2, .int .i64 z2] 29 29
      have L0 : Bx W0 w1.heap.size [.int .i64 x, .int .i64 y, .int .i64 z] := by rw [hW0]; exact t2.1
      have H0 : Bx W0 (w1.heap.size + 1) [.int .i64 x2, .int .i64 y2, .int .i64 z2] := by rw [hW0]; exact t2.2
      have P0 : Bx W0 wr.heap.size [.int .i64 x, .int .i64 y, .int .i64 z, .int .i64 l, .int .i64 wd, .int .i64 h, .int .i64 m] := bx_up (bx_new wr _ 57) (up_trans hb1 u0)
      have u1 : Up wr W0 := up_trans (up_alloc (up_refl wr) _) (up_trans hb1 u0)
      have S0 := bx_up hB u1
      have Z0 := bx_up hZ u1
      have U0 := up_trans hu u1
      clear hW0 t2 u0 u1 hB hZ hb1 d0 d1 d2 d3 d4 d5 d6
      refine wp_loop_rounds 4 ?_
      obtain ⟨p0, p1, p2⟩ := bx3 S0
      obtain ⟨f0, f1, f2⟩ := bxf3 S0
      obtain ⟨i0, i1, i2⟩ := bx3 L0
      obtain ⟨j0, j1, j2⟩ := bx3 H0
      have pm := (P0 6 _ rfl).1
      rw [rounds_succ]
      go_wp2_with fail
      go_still_tail 15, (by kernel_rfl)
      go_wp2_with fail
      refine at_rounds (fun W1 hW1 => ?_)
      have S1 : Bx W1 (w.heap.size + 1) [.int .i64 (SX + m * (x + x2)), .int .i64 (SY), .int .i64 (SZ)] := by rw [hW1]; exact bx_set (bx_drew S0) 0 _
      have L1 : Bx W1 w1.heap.size [.int .i64 x, .int .i64 y, .int .i64 z] := by rw [hW1]; exact bx_far (bx_drew L0) (by simp; omega) _
      have H1 : Bx W1 (w1.heap.size + 1) [.int .i64 x2, .int .i64 y2, .int .i64 z2] := by rw [hW1]; exact bx_far (bx_drew H0) (by simp; omega) _
      have P1 : Bx W1 wr.heap.size [.int .i64 x, .int .i64 y, .int .i64 z, .int .i64 l, .int .i64 wd, .int .i64 h, .int .i64 m] := by rw [hW1]; exact bx_far (bx_drew P0) (by simp; omega) _
      have Z1 : Bx W1 w.heap.size [.int .i64 0, .int .i64 0, .int .i64 0] := by rw [hW1]; exact bx_far (bx_drew Z0) (by simp) _
      have U1 : Up w W1 := by rw [hW1]; exact up_set (up_drew U0) (by simp) _
      obtain ⟨TX, hTX⟩ : ∃ t, SX + m * (x + x2) = t := ⟨_, rfl⟩
      rw [hTX] at S1
      have KTX := hide hTX
      clear hTX vX wX sX
      clear hW1 S0 L0 H0 P0 Z0 U0 p0 p1 p2 f0 f1 f2 i0 i1 i2 j0 j1 j2 pm
      obtain ⟨p0, p1, p2⟩ := bx3 S1
      obtain ⟨f0, f1, f2⟩ := bxf3 S1
      obtain ⟨i0, i1, i2⟩ := bx3 L1
      obtain ⟨j0, j1, j2⟩ := bx3 H1
      have pm := (P1 6 _ rfl).1
      rw [rounds_succ]
      go_wp2_with fail
      go_still_tail 15, (by kernel_rfl)
      go_wp2_with fail
      refine at_rounds (fun W2 hW2 => ?_)
      have S2 : Bx W2 (w.heap.size + 1) [.int .i64 TX, .int .i64 (SY + m * (y + y2)), .int .i64 SZ] := by rw [hW2]; exact bx_set (bx_drew S1) 1 _
      have L2 : Bx W2 w1.heap.size [.int .i64 x, .int .i64 y, .int .i64 z] := by rw [hW2]; exact bx_far (bx_drew L1) (by simp; omega) _
      have H2 : Bx W2 (w1.heap.size + 1) [.int .i64 x2, .int .i64 y2, .int .i64 z2] := by rw [hW2]; exact bx_far (bx_drew H1) (by simp; omega) _
      have P2 : Bx W2 wr.heap.size [.int .i64 x, .int .i64 y, .int .i64 z, .int .i64 l, .int .i64 wd, .int .i64 h, .int .i64 m] := by rw [hW2]; exact bx_far (bx_drew P1) (by simp; omega) _
      have Z2 : Bx W2 w.heap.size [.int .i64 0, .int .i64 0, .int .i64 0] := by rw [hW2]; exact bx_far (bx_drew Z1) (by simp) _
      have U2 : Up w W2 := by rw [hW2]; exact up_set (up_drew U1) (by simp) _
      obtain ⟨TY, hTY⟩ : ∃ t, SY + m * (y + y2) = t := ⟨_, rfl⟩
      rw [hTY] at S2
      have KTY := hide hTY
      clear hTY vY wY sY
      clear hW2 S1 L1 H1 P1 Z1 U1 p0 p1 p2 f0 f1 f2 i0 i1 i2 j0 j1 j2 pm
      obtain ⟨p0, p1, p2⟩ := bx3 S2
      obtain ⟨f0, f1, f2⟩ := bxf3 S2
      obtain ⟨i0, i1, i2⟩ := bx3 L2
      obtain ⟨j0, j1, j2⟩ := bx3 H2
      have pm := (P2 6 _ rfl).1
      rw [rounds_succ]
      go_wp2_with fail
      go_still_tail 15, (by kernel_rfl)
      go_wp2_with fail
      refine at_rounds (fun W3 hW3 => ?_)
      have S3 : Bx W3 (w.heap.size + 1) [.int .i64 TX, .int .i64 TY, .int .i64 (SZ + m * (z + z2))] := by rw [hW3]; exact bx_set (bx_drew S2) 2 _
      have L3 : Bx W3 w1.heap.size [.int .i64 x, .int .i64 y, .int .i64 z] := by rw [hW3]; exact bx_far (bx_drew L2) (by simp; omega) _
      have H3 : Bx W3 (w1.heap.size + 1) [.int .i64 x2, .int .i64 y2, .int .i64 z2] := by rw [hW3]; exact bx_far (bx_drew H2) (by simp; omega) _
      have P3 : Bx W3 wr.heap.size [.int .i64 x, .int .i64 y, .int .i64 z, .int .i64 l, .int .i64 wd, .int .i64 h, .int .i64 m] := by rw [hW3]; exact bx_far (bx_drew P2) (by simp; omega) _
      have Z3 : Bx W3 w.heap.size [.int .i64 0, .int .i64 0, .int .i64 0] := by rw [hW3]; exact bx_far (bx_drew Z2) (by simp) _
      have U3 : Up w W3 := by rw [hW3]; exact up_set (up_drew U2) (by simp) _
      obtain ⟨TZ, hTZ⟩ : ∃ t, SZ + m * (z + z2) = t := ⟨_, rfl⟩
      rw [hTZ] at S3
      have KTZ := hide hTZ
      clear hTZ vZ wZ sZ
      clear hW3 S2 L2 H2 P2 Z2 U2 p0 p1 p2 f0 f1 f2 i0 i1 i2 j0 j1 j2 pm
      rw [rounds_succ]
      go_wp2_with fail
      go_roundw
      case rel =>
        obtain ⟨t1, t2, t3⟩ := unhide HT
        refine ⟨k + 1, by omega, by first | rfl | trivial | go_num, U3, ?_, Z3⟩
        rw [show mo fX (ps.take (k + 1)) = TX from t1.trans (unhide KTX), show mo fY (ps.take (k + 1)) = TY from t2.trans (unhide KTY), show mo fZ (ps.take (k + 1)) = TZ from t3.trans (unhide KTZ)]
        exact S3
      case measure => simp [intOf]; omega
    · obtain rfl : k = n := by omega
      have hF : ps.take k = ps := List.take_of_length_le (by rw [unhide HN]; omega)
      rw [hF] at hB
      have HB := hide hB
      obtain ⟨p0, p1, p2⟩ := bx3 hB
      obtain ⟨z0, z1, z2⟩ := bx3 hZ
      obtain ⟨f0, f1, f2⟩ := bxf3 hZ
      obtain ⟨a, ha⟩ : ∃ t, mo fX ps = t := ⟨_, rfl⟩
      obtain ⟨b', hb'⟩ : ∃ t, mo fY ps = t := ⟨_, rfl⟩
      obtain ⟨c, hc⟩ : ∃ t, mo fZ ps = t := ⟨_, rfl⟩
      rw [ha] at p0
      rw [hb'] at p1
      rw [hc] at p2
      have HE := hide (And.intro ha (And.intro hb' hc))
      clear hF hB ha hb' hc HB
      go_wp2_with fail
      obtain ⟨W9, hW9⟩ : ∃ W9 : World, W9 = (((wr.setCell ⟨w.heap.size, 0, none⟩ (.int .i64 a)).setCell ⟨w.heap.size, 1, none⟩ (.int .i64 b')).setCell ⟨w.heap.size, 2, none⟩ (.int .i64 c)) := ⟨_, rfl⟩
      rw [← hW9]
      have B9 : Bx W9 w.heap.size [.int .i64 a, .int .i64 b', .int .i64 c] := by rw [hW9]; exact bx_set3 hZ
      have U9 : Up w W9 := by rw [hW9]; exact up_set (up_set (up_set hu (by simp) _) (by simp) _) (by simp) _
      clear hW9 z0 z1 z2 f0 f1 f2 p0 p1 p2
      obtain ⟨q0, q1, q2⟩ := bx3 B9
      refine bodyPost_ret (v := .agg #[.int .i64 a, .int .i64 b', .int .i64 c]) (by simp [results, Tryz.results16, go_sem, q0, q1, q2]) rfl ⟨by rw [(unhide HE).1, (unhide HE).2.1, (unhide HE).2.2], U9⟩
end Go.Proofs.YthifcalemhpmoaaGreat
