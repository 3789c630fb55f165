/- The errors of a platform, of a point and of a mass: the document's own answers. The sums of the groups of a platform, as the document's own answers reckon them; which supports are valid. The document's centre of a load. The document's moments and centre of a load. Products divided, bit by bit: the document's own answers. A platform of at most twelve legs, as the laws of the top make it. A parameter that is a list of boxes, opened. A load of at most four boxes, as the laws of the top make it. Which group proves that a platform tips. -/
import Derived.Test.YtooochbfnmmnkaaGreatPkPartsP
import Derived.Test.YtooochbfnmmnkaaGreatPkCompact
import Derived.Test.YtooochbfnmmnkaaGreatPkOwn
import Derived.Test.YtooochbfnmmnkaaGreatChU
import Derived.Maps.AppendAt
import Derived.Deep.SlicePairs
import Derived.WideKeyArgs
import Derived.ProofKit
import Derived.OpenShut
import Derived.Lib.SmallJoins
import Derived.Test.YtooochbfnmmnkaaGreatSup
import Derived.Test.YtooochbfnmmnkaaGreatBx
import Derived.Deep.RegionLaw
import Derived.OwnWalk
import Derived.Test.YtooochbfnmmnkaaGreatPkCentre
import Derived.Test.YtooochbfnmmnkaaGreatPkHulls
namespace Go.Proofs.YtooochbfnmmnkaaGreat
open Go.RowKit Go.Proofs.Gn
def lf (ps : List Gs.Sup) (X Y : Int) : Int := lif (pa0 ps X Y) (pa1 ps X Y) (pa2 ps X Y)
def tiE (ps : List Gs.Sup) (X Y : Int) : Int := if atE ps X Y = 0 then (if 0 ≤ lf ps X Y then 0 else 5) else atE ps X Y
def tiV (ps : List Gs.Sup) (X Y : Int) : Int := if atE ps X Y = 0 then (if 0 ≤ lf ps X Y then lf ps X Y else 0) else 0
set_option maxHeartbeats 8000000 in
theorem p_Tips (A : Option Addr) (ps : List Gs.Sup) (cap : Nat) (X Y : Int) (hn : ps.length ≤ 9223372036854775807) (w : World) (h : Sups w A ps) :
    Calls Tryz.prog 14 #[.slice A ps.length cap, pt X Y] w fun e w' => e = .returned (.tuple #[.int .i64 (tiV ps X Y), .int .i64 (tiE ps X Y)]) ∧ Up w w' := by
  have hC := hide (fun (W : World) (hW : Up w W) => p_checkAt A ps cap X Y hn W (sups_up h hW))
  have hS := hide (fun (e : atE ps X Y = 0) (W : World) (hW : Up w W) => p_sums9 A ps cap (chE_ok (atE_ok e).1).1 (chE_ok (atE_ok e).1).2.1 W (sups_up h hW))
  have hP := hide (fun (e : atE ps X Y = 0) (W : World) => p_parts9 e W)
  have hL := hide (fun (W : World) => p_lifted (pa0 ps X Y) (pa1 ps X Y) (pa2 ps X Y) W)
  have lb := lif_bd (pa0 ps X Y) (pa1 ps X Y) (pa2 ps X Y)
  unfold tiV tiE lf
  clear h hn
  obtain ⟨n, hN⟩ : ∃ n, ps.length = n := ⟨_, rfl⟩
  rw [hN] at hC hS ⊢
  clear hN
  generalize pa0 ps X Y = l0 at *
  generalize pa1 ps X Y = l1 at *
  generalize pa2 ps X Y = l2 at *
  generalize paD ps = D at *
  generalize atE ps X Y = C at *
  generalize lif l0 l1 l2 = L at *
  by_cases c : C = 0
  · subst c
    rw [if_pos rfl, if_pos rfl]
    obtain ⟨E, hE⟩ : ∃ E : Int, (if 0 ≤ L then 0 else 5) = E := ⟨_, rfl⟩
    obtain ⟨V, hV⟩ : ∃ E : Int, (if 0 ≤ L then L else 0) = E := ⟨_, rfl⟩
    rw [hE, hV]
    have HE := hide (And.intro hE hV)
    clear hE hV
    have hS2 := hide (unhide hS rfl)
    have hP2 := hide (unhide hP rfl)
    clear hS hP
    generalize n9 ps = m at *
    go_enter Tryz.func14, Tryz.ntmps14
    go_wp2_with (go_at_call 34; (with_reducible refine (unhide hC _ (by repeat' (first | (with_reducible exact up_refl _) | (with_reducible assumption) | (with_reducible refine up_alloc ?_ _) | (with_reducible refine up_drewN ?_ _) | (with_reducible refine up_drew ?_) | (with_reducible refine up_set ?_ (by first | (simp; done) | (simp; omega) | omega) _) | (refine up_trans ?_ (by with_reducible assumption))))).mono ?_); rintro e w1 ⟨rfl, hb⟩; have k0_0 : w1.cell? ⟨w.heap.size, 0, none⟩ = some (.int .i64 X) := up_cell hb (by first | (with_reducible assumption) | (refine alloc_cell _ ?_; with_reducible assumption) | go_cell); have k0_1 : w1.cell? ⟨w.heap.size, 1, none⟩ = some (.int .i64 Y) := up_cell hb (by first | (with_reducible assumption) | (refine alloc_cell _ ?_; with_reducible assumption) | go_cell))
    have U1 : Up w w1 := (by repeat' (first | (with_reducible exact up_refl _) | (with_reducible assumption) | (with_reducible refine up_alloc ?_ _) | (with_reducible refine up_drewN ?_ _) | (with_reducible refine up_drew ?_) | (with_reducible refine up_set ?_ (by first | (simp; done) | (simp; omega) | omega) _) | (refine up_trans ?_ (by with_reducible assumption))))
    have z1 := up_size hb
    simp at z1
    clear hb
    have a0 := fun o => alloc_cell o k0_0
    have a1 := fun o => alloc_cell o k0_1
    have a2 := fun o => alloc_cell (W := w1.drew) o k0_0
    have a3 := fun o => alloc_cell (W := w1.drew) o k0_1
    go_cut [7, 8] (fun sa sb wx => ∃ g : Nat, sa = .pointer (some ⟨g, 0, none⟩) ∧ sb = .int .i64 D ∧ Bx wx g [.int .i64 l0, .int .i64 l1, .int .i64 l2] ∧ w1.heap.size ≤ g ∧ Up w1 wx)
    case first =>
      go_region_with (first | (go_at_call 18; (with_reducible refine (unhide hS2 _ (by repeat' (first | (with_reducible exact up_refl _) | (with_reducible assumption) | (with_reducible refine up_alloc ?_ _) | (with_reducible refine up_drewN ?_ _) | (with_reducible refine up_drew ?_) | (with_reducible refine up_set ?_ (by first | (simp; done) | (simp; omega) | omega) _) | (refine up_trans ?_ (by with_reducible assumption))))).mono ?_); rintro e w2 ⟨rfl, hb2⟩; have zb := bx_up (bx_new _ [.int .i64 0, .int .i64 0, .int .i64 0] 31) hb2; have d0 := up_cell hb2 (p := ⟨w.heap.size, 0, none⟩) (v := .int .i64 X) (by go_cell); have d1 := up_cell hb2 (p := ⟨w.heap.size, 1, none⟩) (v := .int .i64 Y) (by go_cell); have e0 := fun o => alloc_cell o d0; have e1 := fun o => alloc_cell o d1) | (go_at_call 18; (with_reducible refine (unhide hS2 _ (by repeat' (first | (with_reducible exact up_refl _) | (with_reducible assumption) | (with_reducible refine up_alloc ?_ _) | (with_reducible refine up_drewN ?_ _) | (with_reducible refine up_drew ?_) | (with_reducible refine up_set ?_ (by first | (simp; done) | (simp; omega) | omega) _) | (refine up_trans ?_ (by with_reducible assumption))))).mono ?_); rintro e w2 ⟨rfl, hb2⟩; have zb := bx_up (bx_drew (bx_new _ [.int .i64 0, .int .i64 0, .int .i64 0] 31)) hb2; have d0 := up_cell hb2 (p := ⟨w.heap.size, 0, none⟩) (v := .int .i64 X) (by go_cell); have d1 := up_cell hb2 (p := ⟨w.heap.size, 1, none⟩) (v := .int .i64 Y) (by go_cell); have e0 := fun o => alloc_cell o d0; have e1 := fun o => alloc_cell o d1) | (go_at_call 18; (with_reducible refine (unhide hS2 _ (by repeat' (first | (with_reducible exact up_refl _) | (with_reducible assumption) | (with_reducible refine up_alloc ?_ _) | (with_reducible refine up_drewN ?_ _) | (with_reducible refine up_drew ?_) | (with_reducible refine up_set ?_ (by first | (simp; done) | (simp; omega) | omega) _) | (refine up_trans ?_ (by with_reducible assumption))))).mono ?_); rintro e w2 ⟨rfl, hb2⟩; have d0 := up_cell hb2 (p := ⟨w.heap.size, 0, none⟩) (v := .int .i64 X) (by go_cell); have d1 := up_cell hb2 (p := ⟨w.heap.size, 1, none⟩) (v := .int .i64 Y) (by go_cell); have e0 := fun o => alloc_cell o d0; have e1 := fun o => alloc_cell o d1) | (go_at_call 28; (with_reducible refine (unhide hP2 _).mono ?_); rintro e w3 ⟨rfl, hb3⟩; have zb2 := bx_up zb hb3; obtain ⟨z3, z4, z5⟩ := bx3 zb2; obtain ⟨f3, f4, f5⟩ := bxf3 zb2) | (go_at_call 28; (with_reducible refine (unhide hP2 _).mono ?_); rintro e w3 ⟨rfl, hb3⟩; have zb2 := bx_up (bx_new _ [.int .i64 0, .int .i64 0, .int .i64 0] 31) hb3; obtain ⟨z3, z4, z5⟩ := bx3 zb2; obtain ⟨f3, f4, f5⟩ := bxf3 zb2) | (go_at_call 28; (with_reducible refine (unhide hP2 _).mono ?_); rintro e w3 ⟨rfl, hb3⟩; have zb2 := bx_up (bx_drew (bx_new _ [.int .i64 0, .int .i64 0, .int .i64 0] 31)) hb3; obtain ⟨z3, z4, z5⟩ := bx3 zb2; obtain ⟨f3, f4, f5⟩ := bxf3 zb2) | (go_at_call 28; (with_reducible refine (unhide hP2 _).mono ?_); rintro e w3 ⟨rfl, hb3⟩))
      all_goals
        have u2 : Up w1 w2 := (by repeat' (first | (with_reducible exact up_refl _) | (with_reducible assumption) | (with_reducible refine up_alloc ?_ _) | (with_reducible refine up_drewN ?_ _) | (with_reducible refine up_drew ?_) | (with_reducible refine up_set ?_ (by first | (simp; done) | (simp; omega) | omega) _) | (refine up_trans ?_ (by with_reducible assumption))))
        have u3 : Up w1 w3 := (by repeat' (first | (with_reducible exact up_refl _) | (with_reducible assumption) | (with_reducible refine up_alloc ?_ _) | (with_reducible refine up_drewN ?_ _) | (with_reducible refine up_drew ?_) | (with_reducible refine up_set ?_ (by first | (simp; done) | (simp; omega) | omega) _) | (refine up_trans ?_ (by with_reducible assumption))))
        have t2 := up_size u2
        have t3 := up_size u3
        go_wp2_with fail
        go_meet
        first
          | (refine ⟨w3.heap.size, by with_reducible rfl, rfl, ?_, t3, (by repeat' (first | (with_reducible exact up_refl _) | (with_reducible assumption) | (with_reducible refine up_alloc ?_ _) | (with_reducible refine up_drewN ?_ _) | (with_reducible refine up_drew ?_) | (with_reducible refine up_set ?_ (by first | (simp; done) | (simp; omega) | omega) _) | (refine up_trans ?_ (by with_reducible assumption))))⟩; exact bx_new w3 _ 31)
          | (refine ⟨w1.heap.size, by with_reducible rfl, rfl, ?_, Nat.le_refl _, (by repeat' (first | (with_reducible exact up_refl _) | (with_reducible assumption) | (with_reducible refine up_alloc ?_ _) | (with_reducible refine up_drewN ?_ _) | (with_reducible refine up_drew ?_) | (with_reducible refine up_set ?_ (by first | (simp; done) | (simp; omega) | omega) _) | (refine up_trans ?_ (by with_reducible assumption))))⟩; exact bx_set3 zb2)
          | (refine ⟨w2.heap.size, by with_reducible rfl, rfl, ?_, t2, (by repeat' (first | (with_reducible exact up_refl _) | (with_reducible assumption) | (with_reducible refine up_alloc ?_ _) | (with_reducible refine up_drewN ?_ _) | (with_reducible refine up_drew ?_) | (with_reducible refine up_set ?_ (by first | (simp; done) | (simp; omega) | omega) _) | (refine up_trans ?_ (by with_reducible assumption))))⟩; exact bx_set3 zb2)
    case rest =>
      obtain ⟨g, rfl, rfl, hB, hg, hu⟩ := hcut
      have U2 := up_trans U1 hu
      obtain ⟨q0, q1, q2⟩ := bx3 hB
      clear a0 a1 a2 a3 k0_0 k0_1 hu hS2 hP2 hC
      by_cases cL : 0 ≤ L
      · obtain ⟨e1, e2⟩ := unhide HE
        rw [if_pos cL] at e1 e2
        subst e1 e2
        go_wp2_with (go_at_call 29; (with_reducible refine (unhide hL _).mono ?_); rintro e w4 ⟨rfl, hb4⟩)
        go_ret2
        exact ⟨rfl, (by repeat' (first | (with_reducible exact up_refl _) | (with_reducible assumption) | (with_reducible refine up_alloc ?_ _) | (with_reducible refine up_drewN ?_ _) | (with_reducible refine up_drew ?_) | (with_reducible refine up_set ?_ (by first | (simp; done) | (simp; omega) | omega) _) | (refine up_trans ?_ (by with_reducible assumption))))⟩
      · obtain ⟨e1, e2⟩ := unhide HE
        rw [if_neg cL] at e1 e2
        subst e1 e2
        go_wp2_with (go_at_call 29; (with_reducible refine (unhide hL _).mono ?_); rintro e w4 ⟨rfl, hb4⟩)
        go_ret2
        exact ⟨rfl, (by repeat' (first | (with_reducible exact up_refl _) | (with_reducible assumption) | (with_reducible refine up_alloc ?_ _) | (with_reducible refine up_drewN ?_ _) | (with_reducible refine up_drew ?_) | (with_reducible refine up_set ?_ (by first | (simp; done) | (simp; omega) | omega) _) | (refine up_trans ?_ (by with_reducible assumption))))⟩
  · rw [if_neg c, if_neg c]
    have c2 : (C == 0) = false := by simp; exact c
    clear hS hP
    go_enter Tryz.func14, Tryz.ntmps14
    go_wp2_with (go_at_call 34; (with_reducible refine (unhide hC _ (by repeat' (first | (with_reducible exact up_refl _) | (with_reducible assumption) | (with_reducible refine up_alloc ?_ _) | (with_reducible refine up_drewN ?_ _) | (with_reducible refine up_drew ?_) | (with_reducible refine up_set ?_ (by first | (simp; done) | (simp; omega) | omega) _) | (refine up_trans ?_ (by with_reducible assumption))))).mono ?_); rintro e w1 ⟨rfl, hb⟩)
    go_ret2
    exact ⟨rfl, (by repeat' (first | (with_reducible exact up_refl _) | (with_reducible assumption) | (with_reducible refine up_alloc ?_ _) | (with_reducible refine up_drewN ?_ _) | (with_reducible refine up_drew ?_) | (with_reducible refine up_set ?_ (by first | (simp; done) | (simp; omega) | omega) _) | (refine up_trans ?_ (by with_reducible assumption))))⟩
end Go.Proofs.YtooochbfnmmnkaaGreat
namespace Go.Proofs.YtooochbfnmmnkaaGreat
open Go.RowKit Go.Proofs.Gn
attribute [local go_sem] Oper.semAt_some
set_option linter.unusedVariables false
structure Bxe where
  (x y z l w h m : Int)
def okBxe (b : Bxe) : Prop := (0 ≤ b.x ∧ b.x ≤ 255) ∧ (0 ≤ b.y ∧ b.y ≤ 255) ∧ (0 ≤ b.z ∧ b.z ≤ 255) ∧ (0 ≤ b.l ∧ b.l ≤ 255) ∧ (0 ≤ b.w ∧ b.w ≤ 255) ∧ (0 ≤ b.h ∧ b.h ≤ 255) ∧ (0 ≤ b.m ∧ b.m ≤ 65535)
def BxeAt (w : World) (b o : Nat) (e : Bxe) : Prop := w.cell? ⟨b, o, none⟩ = some (.int .u8 e.x) ∧ w.cell? ⟨b, o + 1, none⟩ = some (.int .u8 e.y) ∧ w.cell? ⟨b, o + 2, none⟩ = some (.int .u8 e.z) ∧ w.cell? ⟨b, o + 3, none⟩ = some (.int .u8 e.l) ∧ w.cell? ⟨b, o + 4, none⟩ = some (.int .u8 e.w) ∧ w.cell? ⟨b, o + 5, none⟩ = some (.int .u8 e.h) ∧ w.cell? ⟨b, o + 6, none⟩ = some (.int .u16 e.m)
/-- Where boxes lie. -/
def Bxes (w : World) (A : Option Addr) (bs : List Bxe) : Prop := bs = [] ∨ ∃ b off, A = some ⟨b, off, none⟩ ∧ ∀ k (h : k < bs.length), BxeAt w b (off + k * 7) bs[k]
/-- The piece that a box is. -/
def cgP (b : Bxe) : Pce := ⟨20 * b.x, 10 * b.y - 1280, 10 * b.z, 1 + 20 * b.l, 1 + 10 * b.w, 1 + 10 * b.h, 1 + b.m % 8000⟩
/-- The pieces of a load of boxes. -/
def cgL (bs : List Bxe) : List Pce := (bs.take 4).map cgP
def cellsPc (ps : List Pce) : List Value := ps.flatMap fun p => [.int .i64 p.x, .int .i64 p.y, .int .i64 p.z, .int .i64 p.l, .int .i64 p.w, .int .i64 p.h, .int .i64 p.m]
theorem cellsPc_snoc (ps : List Pce) (p : Pce) : cellsPc (ps ++ [p]) = cellsPc ps ++ [.int .i64 p.x, .int .i64 p.y, .int .i64 p.z, .int .i64 p.l, .int .i64 p.w, .int .i64 p.h, .int .i64 p.m] := by simp [cellsPc]
theorem info_pc : (Tryz.prog.info? 57).map (fun i => (i.zero, i.size, i.bytes)) = some (some (.agg #[.int .i64 0, .int .i64 0, .int .i64 0, .int .i64 0, .int .i64 0, .int .i64 0, .int .i64 0]), 7, 56) := by kernel_rfl
theorem news_anyC (W : World) (vs : List Value) (t : TypeId) : ∀ j u, vs[j]? = some u → (W.alloc (.cells vs.toArray t)).cell? ((⟨W.heap.size, 0, none⟩ : Addr).add j) = some u := fun j u hj => by
  have e : (⟨W.heap.size, 0, none⟩ : Addr).add j = ⟨W.heap.size, j, none⟩ := by unfold Addr.add; split <;> simp_all
  rw [e]
  exact (bx_new W vs t j u hj).1
theorem cellsPc_len (ps : List Pce) : (cellsPc ps).length = ps.length * 7 := by
  induction ps with
  | nil => rfl
  | cons p ps ih => unfold cellsPc at ih ⊢; rw [List.flatMap_cons, List.length_append, ih]; simp; omega
theorem cellsPc_at {ps : List Pce} : ∀ {k : Nat} (h : k < ps.length), (cellsPc ps)[k * 7]? = some (.int .i64 ps[k].x) ∧ (cellsPc ps)[k * 7 + 1]? = some (.int .i64 ps[k].y) ∧ (cellsPc ps)[k * 7 + 2]? = some (.int .i64 ps[k].z) ∧ (cellsPc ps)[k * 7 + 3]? = some (.int .i64 ps[k].l) ∧ (cellsPc ps)[k * 7 + 4]? = some (.int .i64 ps[k].w) ∧ (cellsPc ps)[k * 7 + 5]? = some (.int .i64 ps[k].h) ∧ (cellsPc ps)[k * 7 + 6]? = some (.int .i64 ps[k].m) := by
  induction ps with
  | nil => intro k h; simp at h
  | cons p ps ih =>
    intro k h
    have e : cellsPc (p :: ps) = .int .i64 p.x :: .int .i64 p.y :: .int .i64 p.z :: .int .i64 p.l :: .int .i64 p.w :: .int .i64 p.h :: .int .i64 p.m :: cellsPc ps := rfl
    rw [e]
    cases k with
    | zero => exact ⟨rfl, rfl, rfl, rfl, rfl, rfl, rfl⟩
    | succ k =>
      have q := ih (k := k) (by simpa using h)
      rw [show (k + 1) * 7 = k * 7 + 7 by omega]
      exact q
theorem own_pcs {W : World} {base e n : Nat} {v : Value} {ps : List Pce} (h : W.ownsRow base e 7 v n (cellsPc ps)) : ∃ A cap, v = .slice A ps.length cap ∧ Pcs W A ps := by
  have hl : (cellsPc ps).length = n * 7 := h.1
  rw [cellsPc_len] at hl
  obtain rfl : n = ps.length := by omega
  rcases h.2 with ⟨h1, h2⟩ | ⟨g, cap, cur, h1, _⟩
  · rw [h1]
    exact ⟨none, 0, by rw [h2], .inl (List.eq_nil_of_length_eq_zero h2)⟩
  · subst h1
    refine ⟨_, cap, rfl, .inr ⟨g, 0, rfl, fun k hk => ?_⟩⟩
    obtain ⟨a0, a1, a2, a3, a4, a5, a6⟩ := cellsPc_at hk
    simp only [Nat.zero_add]
    exact ⟨(h.cellAt (k * 7) (by omega)).trans a0, (h.cellAt (k * 7 + 1) (by omega)).trans a1, (h.cellAt (k * 7 + 2) (by omega)).trans a2, (h.cellAt (k * 7 + 3) (by omega)).trans a3, (h.cellAt (k * 7 + 4) (by omega)).trans a4, (h.cellAt (k * 7 + 5) (by omega)).trans a5, (h.cellAt (k * 7 + 6) (by omega)).trans a6⟩
theorem own_succC {W : World} {base e size k : Nat} {v : Value} {xs : List Value} (h : W.ownsRow base e size v (k + 1) xs) : ∃ g cap, v = .slice (some ⟨g, 0, none⟩) (k + 1) cap := by
  rcases h.2 with ⟨_, h2⟩ | ⟨g, cap, cur, h1, _⟩
  · omega
  · exact ⟨g, cap, h1⟩
theorem pcs_farC {W : World} {A : Option Addr} {ps : List Pce} {p : Addr} (h : Pcs W A ps) (hb : ∀ b off, A = some ⟨b, off, none⟩ → b ≠ p.block) (u : Value) : Pcs (W.setCell p u) A ps := by
  rcases h with h | ⟨b, off, e, hc⟩
  · exact .inl h
  · have hn := hb b off e
    have k : ∀ o v, W.cell? ⟨b, o, none⟩ = some v → (W.setCell p u).cell? ⟨b, o, none⟩ = some v := fun o v h => (World.cell?_of_block (a := ⟨b, o, none⟩) (Below.heap_setCell W p u b hn)).trans h
    refine .inr ⟨b, off, e, fun q hq => ?_⟩
    obtain ⟨a0, a1, a2, a3, a4, a5, a6⟩ := hc q hq
    exact ⟨k _ _ a0, k _ _ a1, k _ _ a2, k _ _ a3, k _ _ a4, k _ _ a5, k _ _ a6⟩
theorem bx_grownC {W W' : World} {b : Nat} {vs : List Value} {row : Option Nat} (h : Bx W b vs) (g : W.grownBy W' row) (hr : row ≠ some b) : Bx W' b vs := fun i v hi => by
  have hb : b < W.heap.size := World.block_lt_of_cell? _ _ (h i v hi).1
  have e := g.block b hb (fun e => hr e.symm)
  exact ⟨(World.cell?_of_block (a := ⟨b, i, none⟩) e).trans (h i v hi).1, (World.frozen?_of_block (a := ⟨b, i, none⟩) e).trans (h i v hi).2⟩
abbrev cgN : ByteArray := { data := #[99, 97, 114, 103, 111] }
set_option maxRecDepth 100000 in
set_option maxHeartbeats 8000000 in
theorem p_cargo (A : Option Addr) (bs : List Bxe) (cap : Nat) (w : World) (h : Bxes w A bs) (hb : ∀ k (h : k < bs.length), okBxe bs[k]) (hn : bs.length ≤ 9223372036854775807) :
    Calls Tryz.prog 5 #[.slice A bs.length cap] w fun e w' => (∃ P cp, e = .returned (loV cgN P (cgL bs).length cp none 0 0 300) ∧ Pcs w' P (cgL bs)) ∧ Up w w' := by
  have HS := hide h
  have HB := hide hb
  obtain ⟨N, hN⟩ : ∃ N, bs.length = N := ⟨_, rfl⟩
  have HN := hide hN
  rw [hN] at hn ⊢
  obtain ⟨i0', hi, hz0, hz1, hz2⟩ := info_parts info_pc
  have HI := hide hi
  clear h hb hN hi
  go_enter Tryz.func5, Tryz.ntmps5
  go_upto_region 2 with fail
  refine at_wpC (fun W0 hW0 => ?_)
  have U0 : Up w W0 := by rw [hW0]; exact (by repeat' (first | (with_reducible exact up_refl _) | (with_reducible assumption) | (with_reducible refine up_alloc ?_ _) | (with_reducible refine up_drewN ?_ _) | (with_reducible refine up_drew ?_) | (with_reducible refine up_set ?_ (by first | (simp; done) | (simp; omega) | omega) _) | (refine up_trans ?_ (by with_reducible assumption))))
  have hz : W0.heap.size = w.heap.size + 2 := by rw [hW0]; simp
  obtain ⟨bR, bL⟩ : Bx W0 w.heap.size [.string { data := #[] }, .slice none 0 0, .slice none 0 0, .int .i64 0] ∧ Bx W0 (w.heap.size + 1) [.string cgN, .slice none 0 0, .slice none 0 0, .int .i64 300] := by
    rw [hW0]
    refine ⟨bx_alloc (bx_new w _ _) _, ?_⟩
    have q := bx_new (w.alloc (.cells #[.string { data := #[] }, .slice none 0 0, .slice none 0 0, .int .i64 0] 27)) [.string cgN, .slice none 0 0, .slice none 0 0, .int .i64 300] 27
    rw [World.size_alloc] at q
    exact q
  clear hW0
  go_wp2
  go_loopw [4] (fun s4 wr => ∃ (k : Nat) (v : Value), k ≤ N ∧ k ≤ 4 ∧ s4 = .int .i64 k ∧ wr.ownsRow (w.heap.size + 1 + 1) 57 7 v k (cellsPc ((bs.take k).map cgP)) ∧ Bx wr (w.heap.size + 1) [.string cgN, v, .slice none 0 0, .int .i64 300] ∧ Bx wr w.heap.size [.string { data := #[] }, .slice none 0 0, .slice none 0 0, .int .i64 0] ∧ Up w wr) (fun s4 _ => N - (intOf s4).toNat)
  case atStart => exact ⟨0, .slice none 0 0, by omega, by omega, rfl, World.ownsRow_nil _ _ _ _, bL, bR, U0⟩
  case round =>
    clear bL bR U0 hz
    obtain ⟨k, v, hk, hk4, rfl, ow, bL, bR, hup⟩ := hrel
    by_cases hlt : k < N ∧ k < 4
    · have hl : k < bs.length := by rw [unhide HN]; exact hlt.1
      obtain ⟨b, off, rfl, hcc⟩ := (unhide HS).resolve_left (by intro e; rw [e] at hl; simp at hl)
      obtain ⟨x0, x1, x2, x3, x4, x5, x6⟩ := hcc k hl
      obtain ⟨o0, o1, o2, o3, o4, o5, o6⟩ := unhide HB k hl
      have hst : (bs.take (k + 1)).map cgP = (bs.take k).map cgP ++ [cgP bs[k]] := by rw [List.take_succ_eq_append_getElem hl, List.map_append]; rfl
      have HC := hide (show cellsPc ((bs.take (k + 1)).map cgP) = cellsPc ((bs.take k).map cgP) ++ [.int .i64 (20 * bs[k].x), .int .i64 (10 * bs[k].y - 1280), .int .i64 (10 * bs[k].z), .int .i64 (1 + 20 * bs[k].l), .int .i64 (1 + 10 * bs[k].w), .int .i64 (1 + 10 * bs[k].h), .int .i64 (1 + bs[k].m % 8000)] by rw [hst, cellsPc_snoc]; rfl)
      clear hcc hst
      generalize bs[k].x = X at *
      generalize bs[k].y = Y at *
      generalize bs[k].z = Z at *
      generalize bs[k].l = L at *
      generalize bs[k].w = W at *
      generalize bs[k].h = H at *
      generalize bs[k].m = M at *
      have y0 := up_cell hup x0
      have y1 := up_cell hup x1
      have y2 := up_cell hup x2
      have y3 := up_cell hup x3
      have y4 := up_cell hup x4
      have y5 := up_cell hup x5
      have y6 := up_cell hup x6
      have i0 : (0 : Int) ≤ (k : Int) := by omega
      have i1 : (k : Int) < (N : Int) := by omega
      have i2 : (k : Int) < 4 := by omega
      have i3 : (k : Int).toNat = k := by omega
      have hwk : IntKind.i64.wrap ((k : Int) + 1) = (k : Int) + 1 := IntWalk.i64_in _ ⟨by omega, by omega⟩
      have a0 : IntKind.i64.wrap X = X := IntWalk.i64_in _ ⟨by omega, by omega⟩
      have a1 : IntKind.i64.wrap Y = Y := IntWalk.i64_in _ ⟨by omega, by omega⟩
      have a2 : IntKind.i64.wrap Z = Z := IntWalk.i64_in _ ⟨by omega, by omega⟩
      have a3 : IntKind.i64.wrap L = L := IntWalk.i64_in _ ⟨by omega, by omega⟩
      have a4 : IntKind.i64.wrap W = W := IntWalk.i64_in _ ⟨by omega, by omega⟩
      have a5 : IntKind.i64.wrap H = H := IntWalk.i64_in _ ⟨by omega, by omega⟩
      have a6 : IntKind.i64.wrap M = M := IntWalk.i64_in _ ⟨by omega, by omega⟩
      have b0 : IntKind.i64.wrap (20 * X) = 20 * X := IntWalk.i64_in _ ⟨by omega, by omega⟩
      have b1 : IntKind.i64.wrap (10 * Y) = 10 * Y := IntWalk.i64_in _ ⟨by omega, by omega⟩
      have b1' : IntKind.i64.wrap (10 * Y - 1280) = 10 * Y - 1280 := IntWalk.i64_in _ ⟨by omega, by omega⟩
      have b2 : IntKind.i64.wrap (10 * Z) = 10 * Z := IntWalk.i64_in _ ⟨by omega, by omega⟩
      have b3 : IntKind.i64.wrap (20 * L) = 20 * L := IntWalk.i64_in _ ⟨by omega, by omega⟩
      have b3' : IntKind.i64.wrap (1 + 20 * L) = 1 + 20 * L := IntWalk.i64_in _ ⟨by omega, by omega⟩
      have b4 : IntKind.i64.wrap (10 * W) = 10 * W := IntWalk.i64_in _ ⟨by omega, by omega⟩
      have b4' : IntKind.i64.wrap (1 + 10 * W) = 1 + 10 * W := IntWalk.i64_in _ ⟨by omega, by omega⟩
      have b5 : IntKind.i64.wrap (10 * H) = 10 * H := IntWalk.i64_in _ ⟨by omega, by omega⟩
      have b5' : IntKind.i64.wrap (1 + 10 * H) = 1 + 10 * H := IntWalk.i64_in _ ⟨by omega, by omega⟩
      have m1 : M.tmod 8000 = M % 8000 := Int.tmod_eq_emod_of_nonneg (by omega)
      have b6 : IntKind.i64.wrap (M % 8000) = M % 8000 := IntWalk.i64_in _ ⟨by omega, by omega⟩
      have b6' : IntKind.i64.wrap (1 + M % 8000) = 1 + M % 8000 := IntWalk.i64_in _ ⟨by omega, by omega⟩
      clear x0 x1 x2 x3 x4 x5 x6
      go_upto_region 6 with fail
      refine at_wpC (fun W1 hW1 => ?_)
      have U1 : Up wr W1 := by rw [hW1]; exact (by repeat' (first | (with_reducible exact up_refl _) | (with_reducible assumption) | (with_reducible refine up_alloc ?_ _) | (with_reducible refine up_drewN ?_ _) | (with_reducible refine up_drew ?_) | (with_reducible refine up_set ?_ (by first | (simp; done) | (simp; omega) | omega) _) | (refine up_trans ?_ (by with_reducible assumption))))
      have bB : Bx W1 wr.heap.size [.int .u8 X, .int .u8 Y, .int .u8 Z, .int .u8 L, .int .u8 W, .int .u8 H, .int .u16 M] := by rw [hW1]; exact bx_new wr _ _
      clear hW1 y0 y1 y2 y3 y4 y5 y6
      have bL1 := bx_up bL U1
      have bR1 := bx_up bR U1
      have ow1 := own_up ow U1
      have up1 := up_trans hup U1
      obtain ⟨g, hg⟩ : ∃ g, wr.heap.size = g := ⟨_, rfl⟩
      rw [hg] at bB ⊢
      clear bL bR ow hup U1 hg
      have z0 := (bB 0 _ rfl).1
      have z1 := (bB 1 _ rfl).1
      have z2 := (bB 2 _ rfl).1
      have z3 := (bB 3 _ rfl).1
      have z4 := (bB 4 _ rfl).1
      have z5 := (bB 5 _ rfl).1
      have z6 := (bB 6 _ rfl).1
      have l1 := (bL1 1 _ rfl).1
      have HL := hide bL1
      have HR := hide bR1
      have HO := hide ow1
      have HU := hide up1
      have rL : v.ownBlock ≠ some (w.heap.size + 1) := fun e => by have := (ow1.lt _ e).1; omega
      have rR : v.ownBlock ≠ some w.heap.size := fun e => by have := (ow1.lt _ e).1; omega
      have HOw := hide (fun g (h : v.ownBlock = some g) => (ow1.lt g h).1)
      clear bB bL1 bR1 ow1 up1
      go_wp2_with (at_builtin; refine wpList_append_own_at _ rfl _ _ 24 rfl (w.heap.size + 1 + 1) 57 i0' _ 7 56 Tryz.underlying24 (unhide HI) hz0 hz1 hz2 rfl (by decide) _ k (cellsPc ((bs.take k).map cgP)) rfl ((unhide HO).alloc _) _ 1 1 [.int .i64 (20 * X), .int .i64 (10 * Y - 1280), .int .i64 (10 * Z), .int .i64 (1 + 20 * L), .int .i64 (1 + 10 * W), .int .i64 (1 + 10 * H), .int .i64 (1 + M % 8000)] rfl rfl (news_anyC _ _ _) (by intro u hu; simp at hu; rcases hu with rfl | rfl | rfl | rfl | rfl | rfl | rfl <;> rfl) (by unfold maxLen; omega) (by omega) (by have := bx_lt (unhide HL) (by simp); simp; omega) ?_; intro v' w7 hown' hgrow _ hblk; obtain ⟨g7, c7, hv7⟩ := own_succC hown'; subst hv7; have bL7 := bx_grownC (bx_up (unhide HL) (up_alloc (up_refl _) _)) hgrow rL; have q0 := (bL7 1 _ rfl).1; have q1 := (bL7 1 _ rfl).2; have bR7 := bx_grownC (bx_up (unhide HR) (up_alloc (up_refl _) _)) hgrow rR; have up7 : Up w w7 := Below.grown (up_alloc (unhide HU) _) hgrow (up_alloc (unhide HU) _).size (fun g e => by have := unhide HOw _ e; omega))
      have R1 : w7.ownsRow (w.heap.size + 1 + 1) 57 7 (.slice (some ⟨g7, 0, none⟩) (k + 1) c7) (k + 1) (cellsPc ((bs.take (k + 1)).map cgP)) := by rw [unhide HC]; exact hown'
      have R2 := ownsRow_setCell_below R1 (a := ⟨w.heap.size + 1, 1, none⟩) (by simp only; omega) (.slice (some ⟨g7, 0, none⟩) (k + 1) c7)
      have R3 := bx_set bL7 1 (.slice (some ⟨g7, 0, none⟩) (k + 1) c7)
      have R4 := bx_far bR7 (p := ⟨w.heap.size + 1, 1, none⟩) (by simp only; omega) (.slice (some ⟨g7, 0, none⟩) (k + 1) c7)
      have R5 := up_set up7 (p := ⟨w.heap.size + 1, 1, none⟩) (by simp only; omega) (.slice (some ⟨g7, 0, none⟩) (k + 1) c7)
      first
        | exact ⟨⟨k + 1, (.slice (some ⟨g7, 0, none⟩) (k + 1) c7), by omega, by omega, by go_num, R2, R3, R4, R5⟩, by simp [intOf]; omega⟩
        | (go_roundw; (case rel => exact ⟨k + 1, (.slice (some ⟨g7, 0, none⟩) (k + 1) c7), by omega, by omega, by go_num, R2, R3, R4, R5⟩); (case measure => simp [intOf]; omega))
        | (trace_state; sorry)
    · have hE : bs.take k = bs.take 4 := by
        by_cases h4 : k = 4
        · rw [h4]
        · rw [List.take_of_length_le (by rw [unhide HN]; omega), List.take_of_length_le (by rw [unhide HN]; omega)]
      rw [hE, show (bs.take 4).map cgP = cgL bs from rfl] at ow
      obtain ⟨P, cp, rfl, hP⟩ := own_pcs ow
      have hfar : ∀ bb oo, P = some ⟨bb, oo, none⟩ → bb ≠ w.heap.size := fun bb oo e => (by have := (ow.lt bb (by rw [e]; rfl)).1; omega)
      have c0 := (bL 0 _ rfl).1
      have c1 := (bL 1 _ rfl).1
      have c2 := (bL 2 _ rfl).1
      have c3 := (bL 3 _ rfl).1
      have d0 := (bR 0 _ rfl).1
      have d1 := (bR 1 _ rfl).1
      have d2 := (bR 2 _ rfl).1
      have d3 := (bR 3 _ rfl).1
      have f0 := (bR 0 _ rfl).2
      have f1 := (bR 1 _ rfl).2
      have f2 := (bR 2 _ rfl).2
      have f3 := (bR 3 _ rfl).2
      have HFar := hide hfar
      have HP := hide hP
      have HU := hide hup
      obtain ⟨K, hK⟩ : ∃ K, (cgL bs).length = K := ⟨_, rfl⟩
      rw [hK] at c1
      have HKK := hide hK
      clear hfar hP hE hK ow hup
      by_cases hlN : k < N
      · have i1 : (k : Int) < (N : Int) := by omega
        have i2 : ¬ (k : Int) < 4 := by omega
        go_wp2
        have B9 := bx_set (bx_set (bx_set (bx_set bR 0 (.string cgN)) 1 (.slice P K cp)) 2 (.slice none 0 0)) 3 (.int .i64 300)
        have U9 : Up w ((((wr.setCell ⟨w.heap.size, 0, none⟩ (.string cgN)).setCell ⟨w.heap.size, 1, none⟩ (.slice P K cp)).setCell ⟨w.heap.size, 2, none⟩ (.slice none 0 0)).setCell ⟨w.heap.size, 3, none⟩ (.int .i64 300)) := up_set (up_set (up_set (up_set (unhide HU) (by simp) _) (by simp) _) (by simp) _) (by simp) _
        have Q9 := pcs_farC (pcs_farC (pcs_farC (pcs_farC (unhide HP) (p := ⟨w.heap.size, 0, none⟩) (unhide HFar) (.string cgN)) (p := ⟨w.heap.size, 1, none⟩) (unhide HFar) (.slice P K cp)) (p := ⟨w.heap.size, 2, none⟩) (unhide HFar) (.slice none 0 0)) (p := ⟨w.heap.size, 3, none⟩) (unhide HFar) (.int .i64 300)
        generalize (((wr.setCell ⟨w.heap.size, 0, none⟩ (.string cgN)).setCell ⟨w.heap.size, 1, none⟩ (.slice P K cp)).setCell ⟨w.heap.size, 2, none⟩ (.slice none 0 0)).setCell ⟨w.heap.size, 3, none⟩ (.int .i64 300) = W9 at *
        have z0 := (B9 0 _ rfl).1
        have z1 := (B9 1 _ rfl).1
        have z2 := (B9 2 _ rfl).1
        have z3 := (B9 3 _ rfl).1
        refine bodyPost_ret (v := loV cgN P K cp none 0 0 300) (by simp [results, Tryz.f5, go_sem, z0, z1, z2, z3]) rfl ?_
        exact ⟨⟨P, ⟨cp, by rw [unhide HKK]⟩, Q9⟩, U9⟩
      · have i1 : ¬ (k : Int) < (N : Int) := by omega
        go_wp2
        have B9 := bx_set (bx_set (bx_set (bx_set bR 0 (.string cgN)) 1 (.slice P K cp)) 2 (.slice none 0 0)) 3 (.int .i64 300)
        have U9 : Up w ((((wr.setCell ⟨w.heap.size, 0, none⟩ (.string cgN)).setCell ⟨w.heap.size, 1, none⟩ (.slice P K cp)).setCell ⟨w.heap.size, 2, none⟩ (.slice none 0 0)).setCell ⟨w.heap.size, 3, none⟩ (.int .i64 300)) := up_set (up_set (up_set (up_set (unhide HU) (by simp) _) (by simp) _) (by simp) _) (by simp) _
        have Q9 := pcs_farC (pcs_farC (pcs_farC (pcs_farC (unhide HP) (p := ⟨w.heap.size, 0, none⟩) (unhide HFar) (.string cgN)) (p := ⟨w.heap.size, 1, none⟩) (unhide HFar) (.slice P K cp)) (p := ⟨w.heap.size, 2, none⟩) (unhide HFar) (.slice none 0 0)) (p := ⟨w.heap.size, 3, none⟩) (unhide HFar) (.int .i64 300)
        generalize (((wr.setCell ⟨w.heap.size, 0, none⟩ (.string cgN)).setCell ⟨w.heap.size, 1, none⟩ (.slice P K cp)).setCell ⟨w.heap.size, 2, none⟩ (.slice none 0 0)).setCell ⟨w.heap.size, 3, none⟩ (.int .i64 300) = W9 at *
        have z0 := (B9 0 _ rfl).1
        have z1 := (B9 1 _ rfl).1
        have z2 := (B9 2 _ rfl).1
        have z3 := (B9 3 _ rfl).1
        refine bodyPost_ret (v := loV cgN P K cp none 0 0 300) (by simp [results, Tryz.f5, go_sem, z0, z1, z2, z3]) rfl ?_
        exact ⟨⟨P, ⟨cp, by rw [unhide HKK]⟩, Q9⟩, U9⟩
end Go.Proofs.YtooochbfnmmnkaaGreat
namespace Go.Proofs.YtooochbfnmmnkaaGreat
open Go.RowKit Go.Proofs.Gn Go.ChangeShapes Go.WideShapes Go.Deep Go.Joins Go.ChangeAt
/-- Boxes that are read, and their bounds. -/
def BxsOk (w : World) (A : Option Addr) (bs : List Bxe) : Prop := Bxes w A bs ∧ ∀ k (h : k < bs.length), okBxe bs[k]
instance : Inhabited Bxe := ⟨⟨0, 0, 0, 0, 0, 0, 0⟩⟩
theorem Tryz.laidOutBx : laidOutB Tryz.prog = true := by kernel_rfl
theorem Tryz.readBoxes : Tryz.prog.readableRec 22 = true := by kernel_rfl
theorem Tryz.cellsBox : Tryz.prog.cellsOf 55 = 7 := by kernel_rfl
theorem Tryz.cellsU8B : Tryz.prog.cellsOf 5 = 1 := by kernel_rfl
theorem Tryz.cellsU16B : Tryz.prog.cellsOf 53 = 1 := by kernel_rfl
theorem add_atB {a : Addr} (h : a.spot = none) (n : Nat) : a.add n = ⟨a.block, a.off + n, none⟩ := by
  obtain ⟨b, o, s⟩ := a
  subst h
  unfold Addr.add
  split
  · subst n; rfl
  · rfl
set_option maxRecDepth 100000 in
theorem boxes_open {H : Type} {enc : TypeId × Value → H} {W : World} {base : Nat} {v : Value} {d : DataW H} {p : List MemPlace} (h : DataW.Trod enc Tryz.prog W base (fun _ => true) true 22 v d p) (hv : ∃ a len cap, v = .slice a len cap) :
    ∃ A bs cap, v = .slice A (List.length bs) cap ∧ BxsOk W A bs ∧ bs.length ≤ 9223372036854775807 := by
  obtain ⟨a0, len0, cap0, rfl⟩ := hv
  obtain ⟨fuel, hf⟩ := h
  simp only [Value.cells] at hf
  rcases open_slice Tryz.underlying22 hf with ⟨hc, _⟩ | ⟨a, len, cap, m, n, D, Pl, hc, hb, hl, hm, hmm, hx, hi⟩
  · simp only [List.cons.injEq, and_true] at hc
    exact ⟨none, [], 0, hc, ⟨.inl rfl, fun k hk => by simp at hk⟩, by simp⟩
  · simp only [List.cons.injEq, and_true] at hc
    have hlm : len ≤ m := by rw [hmm]; split <;> omega
    by_cases h0 : len = 0
    · subst h0
      exact ⟨some a, [], cap, by simpa using hc, ⟨.inl rfl, fun k hk => by simp at hk⟩, by simp⟩
    have hs : a.spot = none := by
      obtain ⟨cs', h1, h2⟩ := hi 0 (by omega)
      rw [Tryz.cellsBox] at h1
      obtain ⟨_, hlen, hcell⟩ := World.cells?_some h1
      match cs', hlen with
      | [v0, v1, v2, v3, v4, v5, v6], _ =>
        have c0 := hcell 0 (by omega)
        simpa [Addr.add] using World.cell?_spot c0
    have each : ∀ i, i < len → ∃ s : Bxe, BxeAt W a.block (a.off + i * 7) s ∧ okBxe s := by
      intro i hlt
      obtain ⟨cs', h1, h2⟩ := hi i (by omega)
      rw [Tryz.cellsBox] at h1
      obtain ⟨_, hlen, hcell⟩ := World.cells?_some h1
      obtain ⟨xs, k, hk, hxy, _, hxl, hg⟩ := DataW.trod_struct Tryz.underlying55 h2
      match xs, hxl, cs', hlen with
      | [y0, y1, y2, y3, y4, y5, y6], _, [v0, v1, v2, v3, v4, v5, v6], _ =>
        have g0 := hg 0 _ rfl
        have g1 := hg 1 _ rfl
        have g2 := hg 2 _ rfl
        have g3 := hg 3 _ rfl
        have g4 := hg 4 _ rfl
        have g5 := hg 5 _ rfl
        have g6 := hg 6 _ rfl
        simp [Tryz.cellsU8B, Tryz.cellsU16B] at g0 g1 g2 g3 g4 g5 g6
        obtain ⟨x0, e0, _, w0⟩ := DataW.trod_int Tryz.underlying5 g0
        obtain ⟨x1, e1, _, w1⟩ := DataW.trod_int Tryz.underlying5 g1
        obtain ⟨x2, e2, _, w2⟩ := DataW.trod_int Tryz.underlying5 g2
        obtain ⟨x3, e3, _, w3⟩ := DataW.trod_int Tryz.underlying5 g3
        obtain ⟨x4, e4, _, w4⟩ := DataW.trod_int Tryz.underlying5 g4
        obtain ⟨x5, e5, _, w5⟩ := DataW.trod_int Tryz.underlying5 g5
        obtain ⟨x6, e6, _, w6⟩ := DataW.trod_int Tryz.underlying53 g6
        simp only [List.cons.injEq, and_true] at e0 e1 e2 e3 e4 e5 e6
        subst e0 e1 e2 e3 e4 e5 e6
        have c0 := hcell 0 (by omega)
        have c1 := hcell 1 (by omega)
        have c2 := hcell 2 (by omega)
        have c3 := hcell 3 (by omega)
        have c4 := hcell 4 (by omega)
        have c5 := hcell 5 (by omega)
        have c6 := hcell 6 (by omega)
        rw [add_add, add_atB hs] at c0 c1 c2 c3 c4 c5 c6
        exact ⟨⟨x0, x1, x2, x3, x4, x5, x6⟩, ⟨by simpa using c0, by simpa [Nat.add_assoc] using c1, by simpa [Nat.add_assoc] using c2, by simpa [Nat.add_assoc] using c3, by simpa [Nat.add_assoc] using c4, by simpa [Nat.add_assoc] using c5, by simpa [Nat.add_assoc] using c6⟩, ⟨bounds_u8 w0, bounds_u8 w1, bounds_u8 w2, bounds_u8 w3, bounds_u8 w4, bounds_u8 w5, bounds_u16 w6⟩⟩
    obtain ⟨q, hq⟩ := choose_lt each
    refine ⟨some a, (List.range len).map q, cap, by simpa using hc, ⟨?_, fun k hk => ?_⟩, by simp [maxLen] at hm ⊢; omega⟩
    · refine .inr ⟨a.block, a.off, by obtain ⟨_, _, _⟩ := a; subst hs; rfl, fun k hk => ?_⟩
      have hk2 : k < len := by simpa using hk
      have := (hq k hk2).1
      simpa using this
    · have hk2 : k < len := by simpa using hk
      have := (hq k hk2).2
      simpa using this
/-- The boxes read as they did. -/
theorem boxes_shut {H : Type} {enc : TypeId × Value → H} {W W' : World} {sp : Nat → Bool} {v : Value} {d : DataW H} {p : List MemPlace} (h : DataW.Trod enc Tryz.prog W 0 (fun _ => true) true 22 v d p) (hb : Below W.heap.size W W') (hlt : ∀ x ∈ p, x.block < W.heap.size) (hsp : ∀ x ∈ p, sp x.block = true) :
    DataW.Trod enc Tryz.prog W' 0 sp true 22 v d p :=
  WideElems.Trod_stays Tryz.laidOutBx Tryz.readBoxes (of_decide_eq_true (by kernel_rfl)) h (fun x hx => hb.same (hlt x hx)) hsp
end Go.Proofs.YtooochbfnmmnkaaGreat
namespace Go.Proofs.YtooochbfnmmnkaaGreat
open Go.RowKit Go.Proofs.Gn
attribute [local go_sem] Oper.semAt_some
set_option linter.unusedVariables false
section
variable {P : Program} (w : World)
theorem wp_append_mineL {o : Oper} {a : Act} {K : Act → World → Prop} {Q : Exit → Act → World → Prop} (s x : Operand) (t : TypeId)
    (ho : o.op = .call { callee := .builtin .append, args := #[s, x], argTypes := #[t, t] })
    (base : Nat) (e : TypeId) (i : TypeInfo) (z : Value) (size bytes : Nat) (ht : P.underlying t = some (.slice e)) (hi : P.info? e = some i) (hz : i.zero = some z)
    (hsize : i.size = size) (hby : i.bytes = bytes) (hzs : z.cells.size = size) (hsz : 0 < size)
    (v : Value) (n : Nat) (xs : List Value) (hs : a.eval s = v) (hown : w.ownsRow base e size v n xs)
    (ad : Addr) (m c : Nat) (news : List Value) (hx : a.eval x = .slice (some ad) m c) (hl : news.length = m * size) (hnews : ∀ j u, news[j]? = some u → w.cell? (ad.add j) = some u) (h1 : ∀ u ∈ news, u.oneCell' = true)
    (h63 : n + m ≤ maxLen) (hbytes : (n + m) * bytes ≤ 140737488355328) (hbase : base ≤ w.heap.size)
    (h : ∀ v' w', w'.ownsRow base e size v' (n + m) (xs ++ news) → w.grownBy w' v.ownBlock → K (a.put o.dst v') w') : o.wp P a w K Q := by
  obtain ⟨v', w', hrun, h2, h3, _⟩ := run_append_own (P := P) w base t o.type e i z size bytes ht hi hz hsize hby hzs hsz v n xs hown ad m c news hl hnews h1 h63 hbytes hbase
  unfold Oper.wp execOp
  simp only [ho, resolve, invoke, builtin, Sem.run_bind, Sem.run_pure, Result.andThen_ok, List.map_toArray, List.map_cons, List.map_nil, hs, hx, hrun]
  exact h v' w' h2 h3
theorem step_append_mineL {ops : Array Oper} {o : Oper} {a : Act} {K : Act → World → Prop} {Q : Exit → Act → World → Prop} {E : Prop} (hgd : o.guard = none) (s x : Operand) (t : TypeId)
    (ho : o.op = .call { callee := .builtin .append, args := #[s, x], argTypes := #[t, t] })
    (base : Nat) (e : TypeId) (i : TypeInfo) (z : Value) (size bytes : Nat) (ht : P.underlying t = some (.slice e)) (hi : P.info? e = some i) (hz : i.zero = some z)
    (hsize : i.size = size) (hby : i.bytes = bytes) (hzs : z.cells.size = size) (hsz : 0 < size)
    (v : Value) (n : Nat) (xs : List Value) (hs : a.eval s = v) (hown : w.ownsRow base e size v n xs)
    (ad : Addr) (m c : Nat) (news : List Value) (hx : a.eval x = .slice (some ad) m c) (hl : news.length = m * size) (hnews : ∀ j u, news[j]? = some u → w.cell? (ad.add j) = some u) (h1 : ∀ u ∈ news, u.oneCell' = true)
    (h63 : n + m ≤ maxLen) (hbytes : (n + m) * bytes ≤ 140737488355328) (hbase : base ≤ w.heap.size)
    (h : ∀ v' w', w'.ownsRow base e size v' (n + m) (xs ++ news) → w.grownBy w' v.ownBlock → K (a.put o.dst v') w') :
    if Region.wanted o (yielded ops a.tmps) = true then Oper.wp P o a w K Q else E := by
  have hw : Region.wanted o (yielded ops a.tmps) = true := by simp [Region.wanted, hgd]
  rw [if_pos hw]
  exact wp_append_mineL w s x t ho base e i z size bytes ht hi hz hsize hby hzs hsz v n xs hs hown ad m c news hx hl hnews h1 h63 hbytes hbase h
end
theorem lggs_up {W W' : World} {A : Option Addr} {bs : List Lgg} (h : Lggs W A bs) (hu : Up W W') : Lggs W' A bs := by
  rcases h with h | ⟨b, off, e, hc⟩
  · exact .inl h
  · refine .inr ⟨b, off, e, fun k hk => ?_⟩
    obtain ⟨a0, a1, a2⟩ := hc k hk
    exact ⟨up_cell hu a0, up_cell hu a1, up_cell hu a2⟩
/-- The support that a leg is. -/
def pfS (l : Lgg) : Gs.Sup := ⟨100 * l.x, 50 * l.y, l.g % 3, 1048576, 0, 100⟩
def pfL (ls : List Lgg) : List Gs.Sup := (ls.take 12).map pfS
def cellsSp (ps : List Gs.Sup) : List Value := ps.flatMap fun s => [.int .i64 s.x, .int .i64 s.y, .int .i64 s.g, .int .i64 s.lim, .int .i64 s.lo, .int .i64 s.hi]
theorem cellsSp_snoc (ps : List Gs.Sup) (s : Gs.Sup) : cellsSp (ps ++ [s]) = cellsSp ps ++ [.int .i64 s.x, .int .i64 s.y, .int .i64 s.g, .int .i64 s.lim, .int .i64 s.lo, .int .i64 s.hi] := by simp [cellsSp]
theorem info_sp : (Tryz.prog.info? 45).map (fun i => (i.zero, i.size, i.bytes)) = some (some (.agg #[.int .i64 0, .int .i64 0, .int .i64 0, .int .i64 0, .int .i64 0, .int .i64 0]), 6, 48) := by kernel_rfl
theorem news_sp (W : World) (vs : List Value) (t : TypeId) : ∀ j u, vs[j]? = some u → (W.alloc (.cells vs.toArray t)).cell? ((⟨W.heap.size, 0, none⟩ : Addr).add j) = some u := fun j u hj => by
  have e : (⟨W.heap.size, 0, none⟩ : Addr).add j = ⟨W.heap.size, j, none⟩ := by unfold Addr.add; split <;> simp_all
  rw [e]
  exact (bx_new W vs t j u hj).1
theorem cellsSp_len (ps : List Gs.Sup) : (cellsSp ps).length = ps.length * 6 := by
  induction ps with
  | nil => rfl
  | cons p ps ih => unfold cellsSp at ih ⊢; rw [List.flatMap_cons, List.length_append, ih]; simp; omega
theorem cellsSp_at {ps : List Gs.Sup} : ∀ {k : Nat} (h : k < ps.length), (cellsSp ps)[k * 6]? = some (.int .i64 ps[k].x) ∧ (cellsSp ps)[k * 6 + 1]? = some (.int .i64 ps[k].y) ∧ (cellsSp ps)[k * 6 + 2]? = some (.int .i64 ps[k].g) ∧ (cellsSp ps)[k * 6 + 3]? = some (.int .i64 ps[k].lim) ∧ (cellsSp ps)[k * 6 + 4]? = some (.int .i64 ps[k].lo) ∧ (cellsSp ps)[k * 6 + 5]? = some (.int .i64 ps[k].hi) := by
  induction ps with
  | nil => intro k h; simp at h
  | cons p ps ih =>
    intro k h
    have e : cellsSp (p :: ps) = .int .i64 p.x :: .int .i64 p.y :: .int .i64 p.g :: .int .i64 p.lim :: .int .i64 p.lo :: .int .i64 p.hi :: cellsSp ps := rfl
    rw [e]
    cases k with
    | zero => exact ⟨rfl, rfl, rfl, rfl, rfl, rfl⟩
    | succ k =>
      have q := ih (k := k) (by simpa using h)
      rw [show (k + 1) * 6 = k * 6 + 6 by omega]
      exact q
theorem own_sps {W : World} {base e n : Nat} {v : Value} {ps : List Gs.Sup} (h : W.ownsRow base e 6 v n (cellsSp ps)) : ∃ A cap, v = .slice A ps.length cap ∧ Sups W A ps := by
  have hl : (cellsSp ps).length = n * 6 := h.1
  rw [cellsSp_len] at hl
  obtain rfl : n = ps.length := by omega
  rcases h.2 with ⟨h1, h2⟩ | ⟨g, cap, cur, h1, _⟩
  · rw [h1]
    exact ⟨none, 0, by rw [h2], .inl (List.eq_nil_of_length_eq_zero h2)⟩
  · subst h1
    refine ⟨_, cap, rfl, .inr ⟨g, 0, rfl, fun k hk => ?_⟩⟩
    obtain ⟨a0, a1, a2, a3, a4, a5⟩ := cellsSp_at hk
    simp only [Nat.zero_add]
    exact ⟨(h.cellAt (k * 6) (by omega)).trans a0, (h.cellAt (k * 6 + 1) (by omega)).trans a1, (h.cellAt (k * 6 + 2) (by omega)).trans a2, (h.cellAt (k * 6 + 3) (by omega)).trans a3, (h.cellAt (k * 6 + 4) (by omega)).trans a4, (h.cellAt (k * 6 + 5) (by omega)).trans a5⟩
set_option maxRecDepth 100000 in
set_option maxHeartbeats 8000000 in
theorem p_platform (A : Option Addr) (ls : List Lgg) (cap : Nat) (w : World) (h : LgsOk w A ls) (hn : ls.length ≤ 9223372036854775807) :
    Calls Tryz.prog 6 #[.slice A ls.length cap] w fun e w' => (∃ P cp, e = .returned (.slice P (pfL ls).length cp) ∧ Sups w' P (pfL ls)) ∧ Up w w' := by
  have HS := hide h.1
  have HB := hide h.2
  obtain ⟨N, hN⟩ : ∃ N, ls.length = N := ⟨_, rfl⟩
  have HN := hide hN
  rw [hN] at hn ⊢
  obtain ⟨i0', hi, hz0, hz1, hz2⟩ := info_parts info_sp
  have HI := hide hi
  clear h hN hi
  go_enter Tryz.func6, Tryz.ntmps6
  go_upto_region 3 with fail
  go_loopw [3, 4] (fun s3 s4 wr => ∃ (k : Nat), k ≤ N ∧ k ≤ 12 ∧ s4 = .int .i64 k ∧ wr.ownsRow w.heap.size 45 6 s3 k (cellsSp ((ls.take k).map pfS)) ∧ Up w wr) (fun _ s4 _ => N - (intOf s4).toNat)
  case atStart => exact ⟨0, by omega, by omega, rfl, World.ownsRow_nil _ _ _ _, (by repeat' (first | (with_reducible exact up_refl _) | (with_reducible assumption) | (with_reducible refine up_alloc ?_ _) | (with_reducible refine up_drewN ?_ _) | (with_reducible refine up_drew ?_) | (with_reducible refine up_set ?_ (by first | (simp; done) | (simp; omega) | omega) _) | (refine up_trans ?_ (by with_reducible assumption))))⟩
  case round =>
    obtain ⟨k, hk, hk4, rfl, ow, hup⟩ := hrel
    by_cases hlt : k < N ∧ k < 12
    · have hl : k < ls.length := by rw [unhide HN]; exact hlt.1
      obtain ⟨b, off, rfl, hcc⟩ := (unhide HS).resolve_left (by intro e; rw [e] at hl; simp at hl)
      obtain ⟨x0, x1, x2⟩ := hcc k hl
      obtain ⟨o0, o1, o2⟩ := unhide HB k hl
      have hst : (ls.take (k + 1)).map pfS = (ls.take k).map pfS ++ [pfS ls[k]] := by rw [List.take_succ_eq_append_getElem hl, List.map_append]; rfl
      have HC := hide (show cellsSp ((ls.take (k + 1)).map pfS) = cellsSp ((ls.take k).map pfS) ++ [.int .i64 (100 * ls[k].x), .int .i64 (50 * ls[k].y), .int .i64 (ls[k].g % 3), .int .i64 1048576, .int .i64 0, .int .i64 100] by rw [hst, cellsSp_snoc]; rfl)
      clear hcc hst
      generalize ls[k].x = X at *
      generalize ls[k].y = Y at *
      generalize ls[k].g = G at *
      have y0 := up_cell hup x0
      have y1 := up_cell hup x1
      have y2 := up_cell hup x2
      have i0 : (0 : Int) ≤ (k : Int) := by omega
      have i1 : (k : Int) < (N : Int) := by omega
      have i2 : (k : Int) < 12 := by omega
      have i3 : (k : Int).toNat = k := by omega
      have hwk : IntKind.i64.wrap ((k : Int) + 1) = (k : Int) + 1 := IntWalk.i64_in _ ⟨by omega, by omega⟩
      have a0 : IntKind.i64.wrap X = X := IntWalk.i64_in _ ⟨by omega, by omega⟩
      have a1 : IntKind.i64.wrap Y = Y := IntWalk.i64_in _ ⟨by omega, by omega⟩
      have a2 : IntKind.i64.wrap G = G := IntWalk.i64_in _ ⟨by omega, by omega⟩
      have b0 : IntKind.i64.wrap (100 * X) = 100 * X := IntWalk.i64_in _ ⟨by omega, by omega⟩
      have b1 : IntKind.i64.wrap (50 * Y) = 50 * Y := IntWalk.i64_in _ ⟨by omega, by omega⟩
      have m1 : G.tmod 3 = G % 3 := Int.tmod_eq_emod_of_nonneg (by omega)
      have b2 : IntKind.i64.wrap (G % 3) = G % 3 := IntWalk.i64_in _ ⟨by omega, by omega⟩
      have HU := hide hup
      have HO := hide ow
      clear x0 x1 x2 ow hup
      go_upto_region 5 with fail
      go_region_law (refine step_append_mineL _ rfl (.tmp 15) (.tmp 38) 29 rfl w.heap.size 45 i0' _ 6 48 Tryz.underlying29 (unhide HI) hz0 hz1 hz2 rfl (Nat.zero_lt_succ _) _ k (cellsSp ((ls.take k).map pfS)) rfl ((unhide HO).alloc _) ⟨wr.heap.size, 0, none⟩ 1 1 [.int .i64 (100 * X), .int .i64 (50 * Y), .int .i64 (G % 3), .int .i64 1048576, .int .i64 0, .int .i64 100] rfl rfl (news_sp _ _ _) (by intro u hu; simp at hu; rcases hu with rfl | rfl | rfl | rfl | rfl | rfl <;> rfl) (by unfold maxLen; omega) (by omega) (by have := (unhide HU).size; simp; omega) ?_; intro v' w7 hown' hgrow)
      all_goals
        have R1 : w7.ownsRow w.heap.size 45 6 v' (k + 1) (cellsSp ((ls.take (k + 1)).map pfS)) := by rw [unhide HC]; exact hown'
        have R2 : Up w w7 := (Below.drew (Below.alloc (unhide HU) (unhide HU).size _)).grown hgrow (by have := (unhide HU).size; simp; omega) fun g hg => (unhide HO).lt g hg |>.1
        have R1' := hide R1
        have R2' := hide R2
        clear R1 R2 hown' hgrow
        go_wp2_with fail
        go_roundw
        case rel => exact ⟨k + 1, by omega, by omega, by first | rfl | trivial | go_num, unhide R1', unhide R2'⟩
        case measure => first | (simp [intOf]; done) | (simp [intOf]; omega)
    · have hE : ls.take k = ls.take 12 := by
        by_cases h4 : k = 12
        · rw [h4]
        · rw [List.take_of_length_le (by rw [unhide HN]; omega), List.take_of_length_le (by rw [unhide HN]; omega)]
      rw [hE, show (ls.take 12).map pfS = pfL ls from rfl] at ow
      obtain ⟨P, cp, rfl, hP⟩ := own_sps ow
      have HP := hide hP
      have HU := hide hup
      obtain ⟨K, hK⟩ : ∃ K, (pfL ls).length = K := ⟨_, rfl⟩
      rw [hK]
      have HKK := hide hK
      clear hP hE hK ow hup
      by_cases hlN : k < N
      · have i1 : (k : Int) < (N : Int) := by omega
        have i2 : ¬ (k : Int) < 12 := by omega
        go_wp2
        go_ret
        exact ⟨⟨P, ⟨cp, by rw [unhide HKK]; rfl⟩, unhide HP⟩, unhide HU⟩
      · have i1 : ¬ (k : Int) < (N : Int) := by omega
        go_wp2
        go_ret
        exact ⟨⟨P, ⟨cp, by rw [unhide HKK]; rfl⟩, unhide HP⟩, unhide HU⟩
end Go.Proofs.YtooochbfnmmnkaaGreat
namespace Go.Proofs.YtooochbfnmmnkaaGreat
open Go.RowKit Go.Proofs.Gn
/-- What is known after some bits. -/
def Bit (d R T q r : Int) : Prop := T * R = q * d + r ∧ 0 ≤ q ∧ 0 ≤ r
theorem bit_le {d R T q r : Int} (hd : 0 < d) (hR : 0 ≤ R ∧ R < d) (hT : 0 ≤ T) (h : Bit d R T q r) : q ≤ T := by
  obtain ⟨h1, h2, h3⟩ := h
  have a : T * R ≤ T * d := Int.mul_le_mul_of_nonneg_left (by omega) hT
  exact Int.le_of_mul_le_mul_right (show q * d ≤ T * d by omega) hd
theorem bit_less {d R T q r : Int} (h : Bit d R T q r) (hr : d ≤ r) : Bit d R T (q + 1) (r - d) := by
  obtain ⟨h1, h2, h3⟩ := h
  refine ⟨?_, by omega, by omega⟩
  rw [Int.add_mul]; omega
theorem bit_zero {d R T q r : Int} (h : Bit d R T q r) : Bit d R (2 * T) (2 * q) (2 * r) := by
  obtain ⟨h1, h2, h3⟩ := h
  refine ⟨?_, by omega, by omega⟩
  rw [Int.mul_assoc, h1, Int.mul_assoc, Int.mul_add]
theorem bit_one {d R T q r : Int} (hR : 0 ≤ R) (h : Bit d R T q r) : Bit d R (2 * T + 1) (2 * q) (2 * r + R) := by
  obtain ⟨h1, h2, h3⟩ := bit_zero h
  refine ⟨?_, by omega, by omega⟩
  rw [Int.add_mul]; omega
theorem bit_end {a b d W R q r : Int} (hd : 0 < d) (hb : W * d + R = b) (h : Bit d R a q r) (hr : r < d) : W * a + q = a * b / d := by
  obtain ⟨h1, h2, h3⟩ := h
  have e : (W * a + q) * d = a * b - r := by rw [← hb, Int.mul_add, h1]; grind
  exact ediv_unique hd (by omega) (by omega)
end Go.Proofs.YtooochbfnmmnkaaGreat
namespace Go.Proofs.YtooochbfnmmnkaaGreat
open Go.RowKit Go.Proofs.Gn
theorem ceV_eq {n k : Int} (hn : -2305843009213693952 ≤ n ∧ n ≤ 2305843009213693952) (hk : 1 ≤ k ∧ k ≤ 16777216) : ceV n k = (n + k) / (2 * k) := by
  unfold ceV neV
  have : inQ n (2 * k) = true := by unfold inQ; rw [decide_eq_true_iff]; omega
  rw [this]
  simp only [if_true]
  unfold near
  rw [show 2 * n + 2 * k = 2 * (n + k) by omega, Int.mul_ediv_mul_of_pos _ _ (by omega)]
theorem mo_all (g : Pce → Int) {ps : List Pce} (hf : ∀ p, okP p = true → -4398046511104 ≤ g p ∧ g p ≤ 4398046511104) (h : okPs ps = true) (hn : ps.length ≤ 32) : -140737488355328 ≤ mo g ps ∧ mo g ps ≤ 140737488355328 := by
  have t := mo_bd g hf h ps.length (Nat.le_refl _)
  rw [List.take_length] at t
  omega
end Go.Proofs.YtooochbfnmmnkaaGreat
namespace Go.Proofs.YtooochbfnmmnkaaGreat
open Go.RowKit Go.Proofs.Gn
end Go.Proofs.YtooochbfnmmnkaaGreat
namespace Go.Proofs.YtooochbfnmmnkaaGreat
open Go.RowKit Go.Proofs.Gn
theorem at_y {F : Act → World → Prop} {a : Act} {w : World} (h : ∀ W, W = w → F a W) : F a w := h w rfl
end Go.Proofs.YtooochbfnmmnkaaGreat
namespace Go.Proofs.YtooochbfnmmnkaaGreat
open Go.RowKit Go.Proofs.Gn
theorem okS_ref (s : Gs.Sup) : Gs.okS s = (win s.x (-131072) 131072 && (win s.y (-131072) 131072 && (win s.g 0 2 && (win s.lim 1 1048576 && (decide (0 ≤ s.lo) && (decide (s.lo ≤ s.hi) && decide (s.hi ≤ 4096))))))) := by
  rw [Bool.eq_iff_iff]
  simp only [Bool.and_eq_true, win_iff, decide_eq_true_iff]
  unfold Gs.okS
  rw [decide_eq_true_iff]
  omega
end Go.Proofs.YtooochbfnmmnkaaGreat
