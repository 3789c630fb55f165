/- Lists of lists of points: the looks at them. -/
import Derived.Test.YtihckoenfklhpaaSl
namespace Go.Proofs.Ytihckoenfklhpaa
open Go.RowKit Go.Proofs.Gn
/-- A list as it lies: where, its points, its capacity. -/
structure Lst where
  at_ : Option Addr
  ps : Pl
  cap : Nat
def Lst.val (l : Lst) : Value := .slice l.at_ l.ps.length l.cap
/-- The slice at A holds these lists. -/
def Lss (w : World) (A : Option Addr) (ls : List Lst) : Prop :=
  ∃ b off, A = some ⟨b, off, none⟩ ∧ ∀ k (h : k < ls.length), w.cell? ⟨b, off + k, none⟩ = some ls[k].val ∧ Pts w ls[k].at_ ls[k].ps ∧ ls[k].ps.length ≤ 9223372036854775807
theorem lss_up {w w' : World} {A : Option Addr} {ls : List Lst} (h : Lss w A ls) (hu : Up w w') : Lss w' A ls := by
  obtain ⟨b, off, hA, hc⟩ := h
  exact ⟨b, off, hA, fun k hk => ⟨up_cell hu (hc k hk).1, pts_up (hc k hk).2.1 hu, (hc k hk).2.2⟩⟩
theorem lss_one {w : World} {b off : Nat} {l : Lst} (h0 : w.cell? ⟨b, off, none⟩ = some l.val) (h1 : Pts w l.at_ l.ps) (h2 : l.ps.length ≤ 9223372036854775807) : Lss w (some ⟨b, off, none⟩) [l] :=
  ⟨b, off, rfl, fun k hk => by
    obtain rfl : k = 0 := by simp at hk; omega
    exact ⟨h0, h1, h2⟩⟩
theorem lss_two {w : World} {b off : Nat} {l m : Lst} (h0 : w.cell? ⟨b, off, none⟩ = some l.val) (h1 : Pts w l.at_ l.ps) (h2 : l.ps.length ≤ 9223372036854775807) (k0 : w.cell? ⟨b, off + 1, none⟩ = some m.val) (k1 : Pts w m.at_ m.ps) (k2 : m.ps.length ≤ 9223372036854775807) : Lss w (some ⟨b, off, none⟩) [l, m] :=
  ⟨b, off, rfl, fun k hk => by
    match k, hk with
    | 0, _ => exact ⟨h0, h1, h2⟩
    | 1, _ => exact ⟨k0, k1, k2⟩⟩
/-- Is no list too long? Are all points valid? -/
def fewB (ls : List Lst) : Bool := ls.all fun l => decide (l.ps.length ≤ 256)
def okLL (ls : List Lst) : Bool := ls.all fun l => okL l.ps
def chkLL (ls : List Lst) : Int := if fewB ls then if okLL ls then 0 else 2 else 6
theorem all_take_succ {α : Type} {f : α → Bool} {l : List α} {k : Nat} (h : k < l.length) : (l.take (k + 1)).all f = ((l.take k).all f && f l[k]) := by
  rw [List.take_succ_eq_append_getElem h, List.all_append]
  simp
theorem all_at {α : Type} {f : α → Bool} {l : List α} {k : Nat} (h : k < l.length) (hk : f l[k] = false) : l.all f = false := by
  rw [List.all_eq_false]
  exact ⟨l[k], List.getElem_mem h, by simp [hk]⟩
theorem p_checkLists (A : Option Addr) (ls : List Lst) (cap : Nat) (w : World) (h : Lss w A ls) (hn : ls.length ≤ 9223372036854775807) :
    Calls Try.prog 33 #[.slice A ls.length cap] w fun e w' => e = .returned (.int .i64 (chkLL ls)) ∧ Up w w' := by
  have HL := hide h
  obtain ⟨b, off, rfl, hc⟩ := h
  have HC := hide hc
  clear hc
  obtain ⟨n, hN⟩ : ∃ n, ls.length = n := ⟨_, rfl⟩
  rw [hN]
  have HN := hide hN
  have hn' : n ≤ 9223372036854775807 := by omega
  clear hN hn
  go_enter Try.func33, Try.ntmps33
  go_wp2_with fail
  go_loopw [10] (fun i wr => ∃ k : Nat, k ≤ n ∧ i = .int .i64 k ∧ Up w wr ∧ fewB (ls.take k) = true) (fun i _ => n - (intOf i).toNat)
  case atStart => exact ⟨0, by omega, rfl, up_refl _, rfl⟩
  case round =>
    obtain ⟨k, hk, rfl, hu, ho⟩ := hrel
    have HO := hide ho
    clear ho
    by_cases hlt : k < n
    · have hl : k < ls.length := by rw [unhide HN]; exact hlt
      have hck := unhide HC k hl
      obtain ⟨l, hL⟩ : ∃ l, ls[k] = l := ⟨_, rfl⟩
      rw [hL] at hck
      have c0 := up_cell hu hck.1
      unfold Lst.val at c0
      have hm := hck.2.2
      have HX := hide hL
      clear hL hck
      by_cases hp : l.ps.length ≤ 256
      · go_wp2_with fail
        go_roundw
        case rel => exact ⟨k + 1, by omega, by go_num, hu, by unfold fewB; rw [all_take_succ hl, unhide HX]; have := unhide HO; unfold fewB at this; rw [this]; simpa using hp⟩
        case measure => simp [intOf]; omega
      · go_wp2_with fail
        go_ret
        refine ⟨ret_int ?_, hu⟩
        unfold chkLL fewB
        rw [all_at hl (by rw [unhide HX]; simpa using hp)]
        rfl
    · obtain rfl : k = n := by omega
      have hz : fewB ls = true := by
        have := unhide HO
        rwa [List.take_of_length_le (by rw [unhide HN]; omega)] at this
      have HZ := hide hz
      clear hz
      go_wp2_with fail
      go_loopw [20] (fun i wr => ∃ j : Nat, j ≤ k ∧ i = .int .i64 j ∧ Up w wr ∧ okLL (ls.take j) = true) (fun i _ => k - (intOf i).toNat)
      case atStart => exact ⟨0, by omega, rfl, hu, rfl⟩
      case round =>
        obtain ⟨j, hj, rfl, hu, ho⟩ := hrel
        have HO2 := hide ho
        clear ho
        by_cases hlt : j < k
        · have hl : j < ls.length := by rw [unhide HN]; exact hlt
          have hck := unhide HC j hl
          obtain ⟨l, hL⟩ : ∃ l, ls[j] = l := ⟨_, rfl⟩
          rw [hL] at hck
          have c0 := up_cell hu hck.1
          unfold Lst.val at c0
          have hp := hide (pts_up hck.2.1 hu)
          have hm := hck.2.2
          have HX := hide hL
          clear hL hck
          cases ho : okL l.ps
          · have hv : chkL l.ps = 2 := by unfold chkL; rw [ho]; rfl
            have HP := hide ho
            clear ho
            go_wp2_with (go_at_call 47; refine (p_checkPoints _ _ _ _ (unhide hp) hm).mono ?_; rintro e w' ⟨rfl, hb⟩)
            go_ret
            refine ⟨ret_int ?_, (by repeat' (first | (with_reducible exact up_refl _) | (with_reducible assumption) | (with_reducible refine up_alloc ?_ _) | (with_reducible refine up_drewN ?_ _) | (with_reducible refine up_drew ?_) | (with_reducible refine up_set ?_ (by first | (simp; done) | (simp; omega) | omega) _) | (refine up_trans ?_ (by with_reducible assumption))))⟩
            unfold chkLL okLL
            rw [unhide HZ, all_at hl (by rw [unhide HX]; exact unhide HP)]
            rfl
          · have hv : chkL l.ps = 0 := by unfold chkL; rw [ho]; rfl
            have HP := hide ho
            clear ho
            go_wp2_with (go_at_call 47; refine (p_checkPoints _ _ _ _ (unhide hp) hm).mono ?_; rintro e w' ⟨rfl, hb⟩)
            go_roundw
            case rel => exact ⟨j + 1, by omega, by go_num, (by repeat' (first | (with_reducible exact up_refl _) | (with_reducible assumption) | (with_reducible refine up_alloc ?_ _) | (with_reducible refine up_drewN ?_ _) | (with_reducible refine up_drew ?_) | (with_reducible refine up_set ?_ (by first | (simp; done) | (simp; omega) | omega) _) | (refine up_trans ?_ (by with_reducible assumption)))), by unfold okLL; rw [all_take_succ hl, unhide HX]; have := unhide HO2; unfold okLL at this; rw [this]; simpa using unhide HP⟩
            case measure => simp [intOf]; omega
        · obtain rfl : j = k := by omega
          have hz2 : chkLL ls = 0 := by
            unfold chkLL
            have := unhide HO2
            rw [List.take_of_length_le (by rw [unhide HN]; omega)] at this
            rw [unhide HZ, this]; rfl
          have HZ2 := hide hz2
          clear hz2
          go_wp2_with fail
          go_ret
          exact ⟨ret_int (unhide HZ2).symm, hu⟩
end Go.Proofs.Ytihckoenfklhpaa
