/- The errors of a platform, of a point and of a mass: the document's own answers. The sums of the groups of a platform, as the document's own answers reckon them; which supports are valid. The document's centre of a load. The document's moments and centre of a load. Products divided, bit by bit: the document's own answers. Which group proves that a platform tips. A parameter that is a list of boxes, opened. -/
import Derived.Test.YtooochbfnmmnkaaGreatPkHulls
import Derived.Deep.SlicePairs
import Derived.WideKeyArgs
import Derived.ProofKit
import Derived.OpenShut
import Derived.Lib.SmallJoins
import Derived.Test.YtooochbfnmmnkaaGreatPkPartsP
import Derived.Test.YtooochbfnmmnkaaGreatPkCentre
import Derived.Test.YtooochbfnmmnkaaGreatPkRefVeh
namespace Go.Proofs.YtooochbfnmmnkaaGreat
open Go.RowKit Go.Proofs.Gn Go.ChangeShapes Go.WideShapes Go.Deep Go.Joins Go.ChangeAt
/-- Boxes that are read, and their bounds. -/
def BxsOk (w : World) (A : Option Addr) (bs : List Bxe) : Prop := Bxes w A bs ∧ ∀ k (h : k < bs.length), okBxe bs[k]
instance : Inhabited Bxe := ⟨⟨0, 0, 0, 0, 0, 0, 0⟩⟩
theorem Tryz.laidOutBx : laidOutB Tryz.prog = true := by kernel_rfl
theorem Tryz.readBoxes : Tryz.prog.readableRec 22 = true := by kernel_rfl
theorem Tryz.cellsBox : Tryz.prog.cellsOf 55 = 7 := by kernel_rfl
theorem Tryz.cellsU8B : Tryz.prog.cellsOf 5 = 1 := by kernel_rfl
theorem Tryz.cellsU16B : Tryz.prog.cellsOf 53 = 1 := by kernel_rfl
theorem add_atB {a : Addr} (h : a.spot = none) (n : Nat) : a.add n = ⟨a.block, a.off + n, none⟩ := by
  obtain ⟨b, o, s⟩ := a
  subst h
  unfold Addr.add
  split
  · subst n; rfl
  · rfl
set_option maxRecDepth 100000 in
theorem boxes_open {H : Type} {enc : TypeId × Value → H} {W : World} {base : Nat} {v : Value} {d : DataW H} {p : List MemPlace} (h : DataW.Trod enc Tryz.prog W base (fun _ => true) true 22 v d p) (hv : ∃ a len cap, v = .slice a len cap) :
    ∃ A bs cap, v = .slice A (List.length bs) cap ∧ BxsOk W A bs ∧ bs.length ≤ 9223372036854775807 := by
  obtain ⟨a0, len0, cap0, rfl⟩ := hv
  obtain ⟨fuel, hf⟩ := h
  simp only [Value.cells] at hf
  rcases open_slice Tryz.underlying22 hf with ⟨hc, _⟩ | ⟨a, len, cap, m, n, D, Pl, hc, hb, hl, hm, hmm, hx, hi⟩
  · simp only [List.cons.injEq, and_true] at hc
    exact ⟨none, [], 0, hc, ⟨.inl rfl, fun k hk => by simp at hk⟩, by simp⟩
  · simp only [List.cons.injEq, and_true] at hc
    have hlm : len ≤ m := by rw [hmm]; split <;> omega
    by_cases h0 : len = 0
    · subst h0
      exact ⟨some a, [], cap, by simpa using hc, ⟨.inl rfl, fun k hk => by simp at hk⟩, by simp⟩
    have hs : a.spot = none := by
      obtain ⟨cs', h1, h2⟩ := hi 0 (by omega)
      rw [Tryz.cellsBox] at h1
      obtain ⟨_, hlen, hcell⟩ := World.cells?_some h1
      match cs', hlen with
      | [v0, v1, v2, v3, v4, v5, v6], _ =>
        have c0 := hcell 0 (by omega)
        simpa [Addr.add] using World.cell?_spot c0
    have each : ∀ i, i < len → ∃ s : Bxe, BxeAt W a.block (a.off + i * 7) s ∧ okBxe s := by
      intro i hlt
      obtain ⟨cs', h1, h2⟩ := hi i (by omega)
      rw [Tryz.cellsBox] at h1
      obtain ⟨_, hlen, hcell⟩ := World.cells?_some h1
      obtain ⟨xs, k, hk, hxy, _, hxl, hg⟩ := DataW.trod_struct Tryz.underlying55 h2
      match xs, hxl, cs', hlen with
      | [y0, y1, y2, y3, y4, y5, y6], _, [v0, v1, v2, v3, v4, v5, v6], _ =>
        have g0 := hg 0 _ rfl
        have g1 := hg 1 _ rfl
        have g2 := hg 2 _ rfl
        have g3 := hg 3 _ rfl
        have g4 := hg 4 _ rfl
        have g5 := hg 5 _ rfl
        have g6 := hg 6 _ rfl
        simp [Tryz.cellsU8B, Tryz.cellsU16B] at g0 g1 g2 g3 g4 g5 g6
        obtain ⟨x0, e0, _, w0⟩ := DataW.trod_int Tryz.underlying5 g0
        obtain ⟨x1, e1, _, w1⟩ := DataW.trod_int Tryz.underlying5 g1
        obtain ⟨x2, e2, _, w2⟩ := DataW.trod_int Tryz.underlying5 g2
        obtain ⟨x3, e3, _, w3⟩ := DataW.trod_int Tryz.underlying5 g3
        obtain ⟨x4, e4, _, w4⟩ := DataW.trod_int Tryz.underlying5 g4
        obtain ⟨x5, e5, _, w5⟩ := DataW.trod_int Tryz.underlying5 g5
        obtain ⟨x6, e6, _, w6⟩ := DataW.trod_int Tryz.underlying53 g6
        simp only [List.cons.injEq, and_true] at e0 e1 e2 e3 e4 e5 e6
        subst e0 e1 e2 e3 e4 e5 e6
        have c0 := hcell 0 (by omega)
        have c1 := hcell 1 (by omega)
        have c2 := hcell 2 (by omega)
        have c3 := hcell 3 (by omega)
        have c4 := hcell 4 (by omega)
        have c5 := hcell 5 (by omega)
        have c6 := hcell 6 (by omega)
        rw [add_add, add_atB hs] at c0 c1 c2 c3 c4 c5 c6
        exact ⟨⟨x0, x1, x2, x3, x4, x5, x6⟩, ⟨by simpa using c0, by simpa [Nat.add_assoc] using c1, by simpa [Nat.add_assoc] using c2, by simpa [Nat.add_assoc] using c3, by simpa [Nat.add_assoc] using c4, by simpa [Nat.add_assoc] using c5, by simpa [Nat.add_assoc] using c6⟩, ⟨bounds_u8 w0, bounds_u8 w1, bounds_u8 w2, bounds_u8 w3, bounds_u8 w4, bounds_u8 w5, bounds_u16 w6⟩⟩
    obtain ⟨q, hq⟩ := choose_lt each
    refine ⟨some a, (List.range len).map q, cap, by simpa using hc, ⟨?_, fun k hk => ?_⟩, by simp [maxLen] at hm ⊢; omega⟩
    · refine .inr ⟨a.block, a.off, by obtain ⟨_, _, _⟩ := a; subst hs; rfl, fun k hk => ?_⟩
      have hk2 : k < len := by simpa using hk
      have := (hq k hk2).1
      simpa using this
    · have hk2 : k < len := by simpa using hk
      have := (hq k hk2).2
      simpa using this
/-- The boxes read as they did. -/
theorem boxes_shut {H : Type} {enc : TypeId × Value → H} {W W' : World} {sp : Nat → Bool} {v : Value} {d : DataW H} {p : List MemPlace} (h : DataW.Trod enc Tryz.prog W 0 (fun _ => true) true 22 v d p) (hb : Below W.heap.size W W') (hlt : ∀ x ∈ p, x.block < W.heap.size) (hsp : ∀ x ∈ p, sp x.block = true) :
    DataW.Trod enc Tryz.prog W' 0 sp true 22 v d p :=
  WideElems.Trod_stays Tryz.laidOutBx Tryz.readBoxes (of_decide_eq_true (by kernel_rfl)) h (fun x hx => hb.same (hlt x hx)) hsp
end Go.Proofs.YtooochbfnmmnkaaGreat
namespace Go.Proofs.YtooochbfnmmnkaaGreat
open Go.RowKit Go.Proofs.Gn
def lf (ps : List Gs.Sup) (X Y : Int) : Int := lif (pa0 ps X Y) (pa1 ps X Y) (pa2 ps X Y)
def tiE (ps : List Gs.Sup) (X Y : Int) : Int := if atE ps X Y = 0 then (if 0 ≤ lf ps X Y then 0 else 5) else atE ps X Y
def tiV (ps : List Gs.Sup) (X Y : Int) : Int := if atE ps X Y = 0 then (if 0 ≤ lf ps X Y then lf ps X Y else 0) else 0
set_option maxHeartbeats 8000000 in
theorem p_Tips (A : Option Addr) (ps : List Gs.Sup) (cap : Nat) (X Y : Int) (hn : ps.length ≤ 9223372036854775807) (w : World) (h : Sups w A ps) :
    Calls Tryz.prog 14 #[.slice A ps.length cap, pt X Y] w fun e w' => e = .returned (.tuple #[.int .i64 (tiV ps X Y), .int .i64 (tiE ps X Y)]) ∧ Up w w' := by
  have hC := hide (fun (W : World) (hW : Up w W) => p_checkAt A ps cap X Y hn W (sups_up h hW))
  have hS := hide (fun (e : atE ps X Y = 0) (W : World) (hW : Up w W) => p_sums9 A ps cap (chE_ok (atE_ok e).1).1 (chE_ok (atE_ok e).1).2.1 W (sups_up h hW))
  have hP := hide (fun (e : atE ps X Y = 0) (W : World) => p_parts9 e W)
  have hL := hide (fun (W : World) => p_lifted (pa0 ps X Y) (pa1 ps X Y) (pa2 ps X Y) W)
  have lb := lif_bd (pa0 ps X Y) (pa1 ps X Y) (pa2 ps X Y)
  unfold tiV tiE lf
  clear h hn
  obtain ⟨n, hN⟩ : ∃ n, ps.length = n := ⟨_, rfl⟩
  rw [hN] at hC hS ⊢
  clear hN
  generalize pa0 ps X Y = l0 at *
  generalize pa1 ps X Y = l1 at *
  generalize pa2 ps X Y = l2 at *
  generalize paD ps = D at *
  generalize atE ps X Y = C at *
  generalize lif l0 l1 l2 = L at *
  by_cases c : C = 0
  · subst c
    rw [if_pos rfl, if_pos rfl]
    obtain ⟨E, hE⟩ : ∃ E : Int, (if 0 ≤ L then 0 else 5) = E := ⟨_, rfl⟩
    obtain ⟨V, hV⟩ : ∃ E : Int, (if 0 ≤ L then L else 0) = E := ⟨_, rfl⟩
    rw [hE, hV]
    have HE := hide (And.intro hE hV)
    clear hE hV
    have hS2 := hide (unhide hS rfl)
    have hP2 := hide (unhide hP rfl)
    clear hS hP
    generalize n9 ps = m at *
    go_enter Tryz.func14, Tryz.ntmps14
    go_wp2_with (go_at_call 34; (with_reducible refine (unhide hC _ (by repeat' (first | (with_reducible exact up_refl _) | (with_reducible assumption) | (with_reducible refine up_alloc ?_ _) | (with_reducible refine up_drewN ?_ _) | (with_reducible refine up_drew ?_) | (with_reducible refine up_set ?_ (by first | (simp; done) | (simp; omega) | omega) _) | (refine up_trans ?_ (by with_reducible assumption))))).mono ?_); rintro e w1 ⟨rfl, hb⟩; have k0_0 : w1.cell? ⟨w.heap.size, 0, none⟩ = some (.int .i64 X) := up_cell hb (by first | (with_reducible assumption) | (refine alloc_cell _ ?_; with_reducible assumption) | go_cell); have k0_1 : w1.cell? ⟨w.heap.size, 1, none⟩ = some (.int .i64 Y) := up_cell hb (by first | (with_reducible assumption) | (refine alloc_cell _ ?_; with_reducible assumption) | go_cell))
    have U1 : Up w w1 := (by repeat' (first | (with_reducible exact up_refl _) | (with_reducible assumption) | (with_reducible refine up_alloc ?_ _) | (with_reducible refine up_drewN ?_ _) | (with_reducible refine up_drew ?_) | (with_reducible refine up_set ?_ (by first | (simp; done) | (simp; omega) | omega) _) | (refine up_trans ?_ (by with_reducible assumption))))
    have z1 := up_size hb
    simp at z1
    clear hb
    have a0 := fun o => alloc_cell o k0_0
    have a1 := fun o => alloc_cell o k0_1
    have a2 := fun o => alloc_cell (W := w1.drew) o k0_0
    have a3 := fun o => alloc_cell (W := w1.drew) o k0_1
    go_cut [7, 8] (fun sa sb wx => ∃ g : Nat, sa = .pointer (some ⟨g, 0, none⟩) ∧ sb = .int .i64 D ∧ Bx wx g [.int .i64 l0, .int .i64 l1, .int .i64 l2] ∧ w1.heap.size ≤ g ∧ Up w1 wx)
    case first =>
      go_region_with (first | (go_at_call 18; (with_reducible refine (unhide hS2 _ (by repeat' (first | (with_reducible exact up_refl _) | (with_reducible assumption) | (with_reducible refine up_alloc ?_ _) | (with_reducible refine up_drewN ?_ _) | (with_reducible refine up_drew ?_) | (with_reducible refine up_set ?_ (by first | (simp; done) | (simp; omega) | omega) _) | (refine up_trans ?_ (by with_reducible assumption))))).mono ?_); rintro e w2 ⟨rfl, hb2⟩; have zb := bx_up (bx_new _ [.int .i64 0, .int .i64 0, .int .i64 0] 31) hb2; have d0 := up_cell hb2 (p := ⟨w.heap.size, 0, none⟩) (v := .int .i64 X) (by go_cell); have d1 := up_cell hb2 (p := ⟨w.heap.size, 1, none⟩) (v := .int .i64 Y) (by go_cell); have e0 := fun o => alloc_cell o d0; have e1 := fun o => alloc_cell o d1) | (go_at_call 18; (with_reducible refine (unhide hS2 _ (by repeat' (first | (with_reducible exact up_refl _) | (with_reducible assumption) | (with_reducible refine up_alloc ?_ _) | (with_reducible refine up_drewN ?_ _) | (with_reducible refine up_drew ?_) | (with_reducible refine up_set ?_ (by first | (simp; done) | (simp; omega) | omega) _) | (refine up_trans ?_ (by with_reducible assumption))))).mono ?_); rintro e w2 ⟨rfl, hb2⟩; have zb := bx_up (bx_drew (bx_new _ [.int .i64 0, .int .i64 0, .int .i64 0] 31)) hb2; have d0 := up_cell hb2 (p := ⟨w.heap.size, 0, none⟩) (v := .int .i64 X) (by go_cell); have d1 := up_cell hb2 (p := ⟨w.heap.size, 1, none⟩) (v := .int .i64 Y) (by go_cell); have e0 := fun o => alloc_cell o d0; have e1 := fun o => alloc_cell o d1) | (go_at_call 18; (with_reducible refine (unhide hS2 _ (by repeat' (first | (with_reducible exact up_refl _) | (with_reducible assumption) | (with_reducible refine up_alloc ?_ _) | (with_reducible refine up_drewN ?_ _) | (with_reducible refine up_drew ?_) | (with_reducible refine up_set ?_ (by first | (simp; done) | (simp; omega) | omega) _) | (refine up_trans ?_ (by with_reducible assumption))))).mono ?_); rintro e w2 ⟨rfl, hb2⟩; have d0 := up_cell hb2 (p := ⟨w.heap.size, 0, none⟩) (v := .int .i64 X) (by go_cell); have d1 := up_cell hb2 (p := ⟨w.heap.size, 1, none⟩) (v := .int .i64 Y) (by go_cell); have e0 := fun o => alloc_cell o d0; have e1 := fun o => alloc_cell o d1) | (go_at_call 28; (with_reducible refine (unhide hP2 _).mono ?_); rintro e w3 ⟨rfl, hb3⟩; have zb2 := bx_up zb hb3; obtain ⟨z3, z4, z5⟩ := bx3 zb2; obtain ⟨f3, f4, f5⟩ := bxf3 zb2) | (go_at_call 28; (with_reducible refine (unhide hP2 _).mono ?_); rintro e w3 ⟨rfl, hb3⟩; have zb2 := bx_up (bx_new _ [.int .i64 0, .int .i64 0, .int .i64 0] 31) hb3; obtain ⟨z3, z4, z5⟩ := bx3 zb2; obtain ⟨f3, f4, f5⟩ := bxf3 zb2) | (go_at_call 28; (with_reducible refine (unhide hP2 _).mono ?_); rintro e w3 ⟨rfl, hb3⟩; have zb2 := bx_up (bx_drew (bx_new _ [.int .i64 0, .int .i64 0, .int .i64 0] 31)) hb3; obtain ⟨z3, z4, z5⟩ := bx3 zb2; obtain ⟨f3, f4, f5⟩ := bxf3 zb2) | (go_at_call 28; (with_reducible refine (unhide hP2 _).mono ?_); rintro e w3 ⟨rfl, hb3⟩))
      all_goals
        have u2 : Up w1 w2 := (by repeat' (first | (with_reducible exact up_refl _) | (with_reducible assumption) | (with_reducible refine up_alloc ?_ _) | (with_reducible refine up_drewN ?_ _) | (with_reducible refine up_drew ?_) | (with_reducible refine up_set ?_ (by first | (simp; done) | (simp; omega) | omega) _) | (refine up_trans ?_ (by with_reducible assumption))))
        have u3 : Up w1 w3 := (by repeat' (first | (with_reducible exact up_refl _) | (with_reducible assumption) | (with_reducible refine up_alloc ?_ _) | (with_reducible refine up_drewN ?_ _) | (with_reducible refine up_drew ?_) | (with_reducible refine up_set ?_ (by first | (simp; done) | (simp; omega) | omega) _) | (refine up_trans ?_ (by with_reducible assumption))))
        have t2 := up_size u2
        have t3 := up_size u3
        go_wp2_with fail
        go_meet
        first
          | (refine ⟨w3.heap.size, by with_reducible rfl, rfl, ?_, t3, (by repeat' (first | (with_reducible exact up_refl _) | (with_reducible assumption) | (with_reducible refine up_alloc ?_ _) | (with_reducible refine up_drewN ?_ _) | (with_reducible refine up_drew ?_) | (with_reducible refine up_set ?_ (by first | (simp; done) | (simp; omega) | omega) _) | (refine up_trans ?_ (by with_reducible assumption))))⟩; exact bx_new w3 _ 31)
          | (refine ⟨w1.heap.size, by with_reducible rfl, rfl, ?_, Nat.le_refl _, (by repeat' (first | (with_reducible exact up_refl _) | (with_reducible assumption) | (with_reducible refine up_alloc ?_ _) | (with_reducible refine up_drewN ?_ _) | (with_reducible refine up_drew ?_) | (with_reducible refine up_set ?_ (by first | (simp; done) | (simp; omega) | omega) _) | (refine up_trans ?_ (by with_reducible assumption))))⟩; exact bx_set3 zb2)
          | (refine ⟨w2.heap.size, by with_reducible rfl, rfl, ?_, t2, (by repeat' (first | (with_reducible exact up_refl _) | (with_reducible assumption) | (with_reducible refine up_alloc ?_ _) | (with_reducible refine up_drewN ?_ _) | (with_reducible refine up_drew ?_) | (with_reducible refine up_set ?_ (by first | (simp; done) | (simp; omega) | omega) _) | (refine up_trans ?_ (by with_reducible assumption))))⟩; exact bx_set3 zb2)
    case rest =>
      obtain ⟨g, rfl, rfl, hB, hg, hu⟩ := hcut
      have U2 := up_trans U1 hu
      obtain ⟨q0, q1, q2⟩ := bx3 hB
      clear a0 a1 a2 a3 k0_0 k0_1 hu hS2 hP2 hC
      by_cases cL : 0 ≤ L
      · obtain ⟨e1, e2⟩ := unhide HE
        rw [if_pos cL] at e1 e2
        subst e1 e2
        go_wp2_with (go_at_call 29; (with_reducible refine (unhide hL _).mono ?_); rintro e w4 ⟨rfl, hb4⟩)
        go_ret2
        exact ⟨rfl, (by repeat' (first | (with_reducible exact up_refl _) | (with_reducible assumption) | (with_reducible refine up_alloc ?_ _) | (with_reducible refine up_drewN ?_ _) | (with_reducible refine up_drew ?_) | (with_reducible refine up_set ?_ (by first | (simp; done) | (simp; omega) | omega) _) | (refine up_trans ?_ (by with_reducible assumption))))⟩
      · obtain ⟨e1, e2⟩ := unhide HE
        rw [if_neg cL] at e1 e2
        subst e1 e2
        go_wp2_with (go_at_call 29; (with_reducible refine (unhide hL _).mono ?_); rintro e w4 ⟨rfl, hb4⟩)
        go_ret2
        exact ⟨rfl, (by repeat' (first | (with_reducible exact up_refl _) | (with_reducible assumption) | (with_reducible refine up_alloc ?_ _) | (with_reducible refine up_drewN ?_ _) | (with_reducible refine up_drew ?_) | (with_reducible refine up_set ?_ (by first | (simp; done) | (simp; omega) | omega) _) | (refine up_trans ?_ (by with_reducible assumption))))⟩
  · rw [if_neg c, if_neg c]
    have c2 : (C == 0) = false := by simp; exact c
    clear hS hP
    go_enter Tryz.func14, Tryz.ntmps14
    go_wp2_with (go_at_call 34; (with_reducible refine (unhide hC _ (by repeat' (first | (with_reducible exact up_refl _) | (with_reducible assumption) | (with_reducible refine up_alloc ?_ _) | (with_reducible refine up_drewN ?_ _) | (with_reducible refine up_drew ?_) | (with_reducible refine up_set ?_ (by first | (simp; done) | (simp; omega) | omega) _) | (refine up_trans ?_ (by with_reducible assumption))))).mono ?_); rintro e w1 ⟨rfl, hb⟩)
    go_ret2
    exact ⟨rfl, (by repeat' (first | (with_reducible exact up_refl _) | (with_reducible assumption) | (with_reducible refine up_alloc ?_ _) | (with_reducible refine up_drewN ?_ _) | (with_reducible refine up_drew ?_) | (with_reducible refine up_set ?_ (by first | (simp; done) | (simp; omega) | omega) _) | (refine up_trans ?_ (by with_reducible assumption))))⟩
end Go.Proofs.YtooochbfnmmnkaaGreat
namespace Go.Proofs.YtooochbfnmmnkaaGreat
open Go.RowKit Go.Proofs.Gn
/-- What is known after some bits. -/
def Bit (d R T q r : Int) : Prop := T * R = q * d + r ∧ 0 ≤ q ∧ 0 ≤ r
theorem bit_le {d R T q r : Int} (hd : 0 < d) (hR : 0 ≤ R ∧ R < d) (hT : 0 ≤ T) (h : Bit d R T q r) : q ≤ T := by
  obtain ⟨h1, h2, h3⟩ := h
  have a : T * R ≤ T * d := Int.mul_le_mul_of_nonneg_left (by omega) hT
  exact Int.le_of_mul_le_mul_right (show q * d ≤ T * d by omega) hd
theorem bit_less {d R T q r : Int} (h : Bit d R T q r) (hr : d ≤ r) : Bit d R T (q + 1) (r - d) := by
  obtain ⟨h1, h2, h3⟩ := h
  refine ⟨?_, by omega, by omega⟩
  rw [Int.add_mul]; omega
theorem bit_zero {d R T q r : Int} (h : Bit d R T q r) : Bit d R (2 * T) (2 * q) (2 * r) := by
  obtain ⟨h1, h2, h3⟩ := h
  refine ⟨?_, by omega, by omega⟩
  rw [Int.mul_assoc, h1, Int.mul_assoc, Int.mul_add]
theorem bit_one {d R T q r : Int} (hR : 0 ≤ R) (h : Bit d R T q r) : Bit d R (2 * T + 1) (2 * q) (2 * r + R) := by
  obtain ⟨h1, h2, h3⟩ := bit_zero h
  refine ⟨?_, by omega, by omega⟩
  rw [Int.add_mul]; omega
theorem bit_end {a b d W R q r : Int} (hd : 0 < d) (hb : W * d + R = b) (h : Bit d R a q r) (hr : r < d) : W * a + q = a * b / d := by
  obtain ⟨h1, h2, h3⟩ := h
  have e : (W * a + q) * d = a * b - r := by rw [← hb, Int.mul_add, h1]; grind
  exact ediv_unique hd (by omega) (by omega)
end Go.Proofs.YtooochbfnmmnkaaGreat
namespace Go.Proofs.YtooochbfnmmnkaaGreat
open Go.RowKit Go.Proofs.Gn
theorem ceV_eq {n k : Int} (hn : -2305843009213693952 ≤ n ∧ n ≤ 2305843009213693952) (hk : 1 ≤ k ∧ k ≤ 16777216) : ceV n k = (n + k) / (2 * k) := by
  unfold ceV neV
  have : inQ n (2 * k) = true := by unfold inQ; rw [decide_eq_true_iff]; omega
  rw [this]
  simp only [if_true]
  unfold near
  rw [show 2 * n + 2 * k = 2 * (n + k) by omega, Int.mul_ediv_mul_of_pos _ _ (by omega)]
theorem mo_all (g : Pce → Int) {ps : List Pce} (hf : ∀ p, okP p = true → -4398046511104 ≤ g p ∧ g p ≤ 4398046511104) (h : okPs ps = true) (hn : ps.length ≤ 32) : -140737488355328 ≤ mo g ps ∧ mo g ps ≤ 140737488355328 := by
  have t := mo_bd g hf h ps.length (Nat.le_refl _)
  rw [List.take_length] at t
  omega
end Go.Proofs.YtooochbfnmmnkaaGreat
namespace Go.Proofs.YtooochbfnmmnkaaGreat
open Go.RowKit Go.Proofs.Gn
end Go.Proofs.YtooochbfnmmnkaaGreat
namespace Go.Proofs.YtooochbfnmmnkaaGreat
open Go.RowKit Go.Proofs.Gn
theorem at_y {F : Act → World → Prop} {a : Act} {w : World} (h : ∀ W, W = w → F a W) : F a w := h w rfl
end Go.Proofs.YtooochbfnmmnkaaGreat
namespace Go.Proofs.YtooochbfnmmnkaaGreat
open Go.RowKit Go.Proofs.Gn
theorem okS_ref (s : Gs.Sup) : Gs.okS s = (win s.x (-131072) 131072 && (win s.y (-131072) 131072 && (win s.g 0 2 && (win s.lim 1 1048576 && (decide (0 ≤ s.lo) && (decide (s.lo ≤ s.hi) && decide (s.hi ≤ 4096))))))) := by
  rw [Bool.eq_iff_iff]
  simp only [Bool.and_eq_true, win_iff, decide_eq_true_iff]
  unfold Gs.okS
  rw [decide_eq_true_iff]
  omega
end Go.Proofs.YtooochbfnmmnkaaGreat
