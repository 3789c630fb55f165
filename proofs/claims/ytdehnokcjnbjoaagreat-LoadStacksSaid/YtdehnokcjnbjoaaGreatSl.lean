/- Slices of points that are only read: which lists they hold, and what the program's looks at them return. -/
import Derived.Test.YtdehnokcjnbjoaaGreatPt
namespace Go.Proofs.YtdehnokcjnbjoaaGreat
open Go.RowKit Go.Proofs.Gn
abbrev Pl := List (Int × Int)
/-- The slice at A holds these points. -/
def Pts (w : World) (A : Option Addr) (ps : Pl) : Prop :=
  ps = [] ∨ ∃ b off, A = some ⟨b, off, none⟩ ∧ ∀ k (h : k < ps.length), w.cell? ⟨b, off + k * 2, none⟩ = some (.int .i64 ps[k].1) ∧ w.cell? ⟨b, off + k * 2 + 1, none⟩ = some (.int .i64 ps[k].2)
theorem pts_up {w w' : World} {A : Option Addr} {ps : Pl} (h : Pts w A ps) (hu : Up w w') : Pts w' A ps := by
  rcases h with h | ⟨b, off, hA, hc⟩
  · exact .inl h
  · exact .inr ⟨b, off, hA, fun k hk => ⟨up_cell hu (hc k hk).1, up_cell hu (hc k hk).2⟩⟩
theorem pts_drew {w : World} {A : Option Addr} {ps : Pl} (h : Pts w A ps) : Pts w.drew A ps := h
theorem st_pts (A : Option Addr) (ps : Pl) : Stays fun w => Pts w A ps := fun _ _ hb h => pts_up h hb
theorem pts_one {w : World} {b off : Nat} {x y : Int} (h0 : w.cell? ⟨b, off, none⟩ = some (.int .i64 x)) (h1 : w.cell? ⟨b, off + 1, none⟩ = some (.int .i64 y)) : Pts w (some ⟨b, off, none⟩) [(x, y)] :=
  .inr ⟨b, off, rfl, fun k hk => by
    obtain rfl : k = 0 := by simp at hk; omega
    exact ⟨h0, h1⟩⟩
theorem pts_two {w : World} {b off : Nat} {x y u v : Int} (h0 : w.cell? ⟨b, off, none⟩ = some (.int .i64 x)) (h1 : w.cell? ⟨b, off + 1, none⟩ = some (.int .i64 y)) (h2 : w.cell? ⟨b, off + 2, none⟩ = some (.int .i64 u)) (h3 : w.cell? ⟨b, off + 3, none⟩ = some (.int .i64 v)) : Pts w (some ⟨b, off, none⟩) [(x, y), (u, v)] :=
  .inr ⟨b, off, rfl, fun k hk => by
    match k, hk with
    | 0, _ => exact ⟨h0, h1⟩
    | 1, _ => exact ⟨h2, h3⟩⟩
theorem pts_three {w : World} {b off : Nat} {x y u v s t : Int} (h0 : w.cell? ⟨b, off, none⟩ = some (.int .i64 x)) (h1 : w.cell? ⟨b, off + 1, none⟩ = some (.int .i64 y)) (h2 : w.cell? ⟨b, off + 2, none⟩ = some (.int .i64 u)) (h3 : w.cell? ⟨b, off + 3, none⟩ = some (.int .i64 v)) (h4 : w.cell? ⟨b, off + 4, none⟩ = some (.int .i64 s)) (h5 : w.cell? ⟨b, off + 5, none⟩ = some (.int .i64 t)) : Pts w (some ⟨b, off, none⟩) [(x, y), (u, v), (s, t)] :=
  .inr ⟨b, off, rfl, fun k hk => by
    match k, hk with
    | 0, _ => exact ⟨h0, h1⟩
    | 1, _ => exact ⟨h2, h3⟩
    | 2, _ => exact ⟨h4, h5⟩⟩
/-- Are all points valid? -/
def okL (ps : Pl) : Bool := ps.all fun p => okp p.1 p.2
def chkL (ps : Pl) : Int := if okL ps then 0 else 2
theorem okL_take_succ {ps : Pl} {k : Nat} (h : k < ps.length) : okL (ps.take (k + 1)) = (okL (ps.take k) && okp ps[k].1 ps[k].2) := by
  unfold okL
  rw [List.take_succ_eq_append_getElem h, List.all_append]
  simp
theorem okL_at {ps : Pl} {k : Nat} (h : k < ps.length) (hk : okp ps[k].1 ps[k].2 = false) : okL ps = false := by
  unfold okL
  rw [List.all_eq_false]
  exact ⟨ps[k], List.getElem_mem h, by simp [hk]⟩
theorem p_checkPoints (A : Option Addr) (ps : Pl) (cap : Nat) (w : World) (h : Pts w A ps) (hn : ps.length ≤ 9223372036854775807) :
    Calls Tryz.prog 156 #[.slice A ps.length cap] w fun e w' => e = .returned (.int .i64 (chkL ps)) ∧ Up w w' := by
  rcases h with rfl | ⟨b, off, rfl, hc⟩
  · go_enter Tryz.func156, Tryz.ntmps156
    go_wp2_with fail
    go_rounds 1
    go_ret
    exact ⟨rfl, up_refl _⟩
  · have HC := hide hc
    clear hc
    obtain ⟨n, hN⟩ : ∃ n, ps.length = n := ⟨_, rfl⟩
    rw [hN]
    have HN := hide hN
    have hn' : n ≤ 9223372036854775807 := by omega
    clear hN hn
    go_enter Tryz.func156, Tryz.ntmps156
    go_wp2_with fail
    go_loopw [8] (fun i wr => ∃ k : Nat, k ≤ n ∧ i = .int .i64 k ∧ Up w wr ∧ okL (ps.take k) = true) (fun i _ => n - (intOf i).toNat)
    case atStart => exact ⟨0, by omega, rfl, up_refl _, rfl⟩
    case round =>
      obtain ⟨k, hk, rfl, hu, ho⟩ := hrel
      have HO := hide ho
      clear ho
      by_cases hlt : k < n
      · have hl : k < ps.length := by rw [unhide HN]; exact hlt
        have hck := unhide HC k hl
        have c0 := up_cell hu hck.1
        have c1 := up_cell hu hck.2
        obtain ⟨x, hx⟩ : ∃ x, ps[k].1 = x := ⟨_, rfl⟩
        obtain ⟨y, hy⟩ : ∃ y, ps[k].2 = y := ⟨_, rfl⟩
        rw [hx] at c0
        rw [hy] at c1
        have HX := hide hx
        have HY := hide hy
        clear hx hy hck
        cases hp : okp x y
        · have hv : chk x y = 2 := by unfold chk; rw [hp]; rfl
          have HP := hide hp
          clear hp
          go_wp2_with (go_at_call 178; refine (p_Check _ _ _).mono ?_; rintro e w' ⟨rfl, hb⟩; obtain ⟨hc, hf⟩ := bcell hb)
          go_ret
          refine ⟨ret_int ?_, (by repeat' (first | (with_reducible exact up_refl _) | (with_reducible assumption) | (with_reducible refine up_alloc ?_ _) | (with_reducible refine up_drewN ?_ _) | (with_reducible refine up_drew ?_) | (with_reducible refine up_set ?_ (by first | (simp; done) | (simp; omega) | omega) _) | (refine up_trans ?_ (by with_reducible assumption))))⟩
          unfold chkL
          rw [okL_at hl (by rw [unhide HX, unhide HY]; exact unhide HP)]
          rfl
        · have hv : chk x y = 0 := by unfold chk; rw [hp]; rfl
          have HP := hide hp
          clear hp
          go_wp2_with (go_at_call 178; refine (p_Check _ _ _).mono ?_; rintro e w' ⟨rfl, hb⟩; obtain ⟨hc, hf⟩ := bcell hb)
          go_roundw
          case rel => exact ⟨k + 1, by omega, by go_num, (by repeat' (first | (with_reducible exact up_refl _) | (with_reducible assumption) | (with_reducible refine up_alloc ?_ _) | (with_reducible refine up_drewN ?_ _) | (with_reducible refine up_drew ?_) | (with_reducible refine up_set ?_ (by first | (simp; done) | (simp; omega) | omega) _) | (refine up_trans ?_ (by with_reducible assumption)))), by rw [okL_take_succ hl, unhide HO, unhide HX, unhide HY, unhide HP]; rfl⟩
          case measure => simp [intOf]; omega
      · obtain rfl : k = n := by omega
        have hz : chkL ps = 0 := by
          unfold chkL
          have := unhide HO
          rw [List.take_of_length_le (by rw [unhide HN]; omega)] at this
          rw [this]; rfl
        have HZ := hide hz
        clear hz
        go_wp2_with fail
        go_ret
        exact ⟨ret_int (unhide HZ).symm, hu⟩

/-! ### Turns and distances -/
theorem okL_two {a b c d : Int} : okL [(a, b), (c, d)] = (okp a b && okp c d) := by simp [okL]
theorem okL_three {a b c d e f : Int} : okL [(a, b), (c, d), (e, f)] = (okp a b && (okp c d && okp e f)) := by simp [okL]
def tuV (ax ay bx b_y cx cy : Int) : Int := if okp ax ay && (okp bx b_y && okp cx cy) then cmpV (det ax ay bx b_y cx cy) 0 else 0
def tuE (ax ay bx b_y cx cy : Int) : Int := if okp ax ay && (okp bx b_y && okp cx cy) then 0 else 2
/-- The square of a distance. -/
def sqd (ax ay bx b_y : Int) : Int := (bx - ax) * (bx - ax) + (b_y - ay) * (b_y - ay)
theorem sqd_nonneg (ax ay bx b_y : Int) : 0 ≤ sqd ax ay bx b_y := by
  unfold sqd
  have := sq_nonneg (bx - ax)
  have := sq_nonneg (b_y - ay)
  omega
def diV (ax ay bx b_y : Int) : Int := if okp ax ay && okp bx b_y then root (sqd ax ay bx b_y) else 0
def diE (ax ay bx b_y : Int) : Int := if okp ax ay && okp bx b_y then 0 else 2
end Go.Proofs.YtdehnokcjnbjoaaGreat
