/- What each unit carries of a mass, and what each axle carries: numbers and lists. -/
import Derived.Test.YtgfehjhngmabeaaRefVeh
import Derived.Test.YtgfehjhngmabeaaLever
import Derived.Test.YtgfehjhngmabeaaOwnI
import Derived.Test.YtgfehjhngmabeaaEnds
import Derived.Deep.OwnRows
namespace Go.Proofs.Ytgfehjhngmabeaa
open Go.RowKit Go.Proofs.Gn
theorem up_bd0 {n d t : Int} (hn : 0 ≤ n) (hd : 1 ≤ d) (ht : 0 ≤ t ∧ t ≤ d) : 0 ≤ up n d t ∧ up n d t ≤ n := by
  unfold up
  have a : n * t ≤ n * d := Int.mul_le_mul_of_nonneg_left ht.2 hn
  have b : 0 ≤ n * t := Int.mul_nonneg hn ht.1
  have e : n * -t = -(n * t) := by rw [Int.mul_neg]
  rw [e]
  have c : -n ≤ -(n * t) / d := (Int.le_ediv_iff_mul_le (by omega)).2 (by rw [Int.neg_mul]; omega)
  have g : -(n * t) / d ≤ 0 := by
    have := Int.ediv_le_ediv (c := d) (by omega) (show -(n * t) ≤ 0 by omega)
    simpa using this
  omega
/-- What unit i carries. -/
def caI (f t : Nat) (m P Q : Int) (i : Nat) : Int := if f = t then (if i = f then m else 0) else (if i = f then P else if i = t then Q else 0)
def rep (n : Nat) : List Value := List.replicate n (.int .i64 0)
def caL (n f t : Nat) (m P Q : Int) : List Value := if f = t then (rep n).set f (.int .i64 m) else ((rep n).set f (.int .i64 P)).set t (.int .i64 Q)
theorem made_rep (n : Nat) : madeCells #[.int .i64 0] n = (rep n).toArray := by
  apply Array.ext
  · simp [size_madeCells, rep]
  · intro i h1 h2
    simp [madeCells, rep, Nat.mod_one]
theorem caL_get {n f t : Nat} {m P Q : Int} {i : Nat} (hi : i < n) (hf : f < n) (ht : t < n) : (caL n f t m P Q)[i]? = some (.int .i64 (caI f t m P Q i)) := by
  unfold caL caI rep
  by_cases h : f = t
  · rw [if_pos h, if_pos h, List.getElem?_set]
    by_cases e : f = i
    · rw [if_pos e, if_pos (by simpa using hf), if_pos e.symm]
    · rw [if_neg e, if_neg (fun x => e x.symm)]; simp [hi]
  · rw [if_neg h, if_neg h, List.getElem?_set, List.getElem?_set]
    by_cases e : t = i
    · rw [if_pos e, if_pos (by simpa using ht), if_neg (fun x => h (x.symm.trans e.symm)), if_pos e.symm]
    · rw [if_neg e]
      by_cases e2 : f = i
      · rw [if_pos e2, if_pos (by simpa using hf), if_pos e2.symm]
      · rw [if_neg e2, if_neg (fun x => e2 x.symm), if_neg (fun x => e x.symm)]; simp [hi]
theorem rep_len (n : Nat) : (rep n).length = n := by unfold rep; simp
theorem bx_at {W : World} {b : Nat} {vs : List Value} (h : Bx W b vs) {i : Nat} (hi : i < vs.length) : W.cell? ⟨b, i, none⟩ = some vs[i] ∧ W.frozen? ⟨b, i, none⟩ = false := h i _ (List.getElem?_eq_getElem hi)
set_option maxRecDepth 100000 in
set_option maxHeartbeats 8000000 in
theorem p_onUnits (s : ByteArray) (A : Option Addr) (n cap f t : Nat) (m L u : Int) (w : World) (hn : n ≤ 12) (hf : f ≤ t) (ht : t < n) (hm : 1 ≤ m ∧ m ≤ 16777216) (hL : 1 ≤ L ∧ L ≤ 16777216) (hu : 0 ≤ u ∧ u ≤ L) :
    Calls Try.prog 53 #[veV s A n cap (f : Nat) (t : Nat), .int .i64 m, .int .i64 L, .int .i64 u] w fun e w' => ∃ g : Nat, e = .returned (.slice (some ⟨g, 0, none⟩) n n) ∧ Bx w' g (caL n f t m (up m L (L - u)) (up m L u)) ∧ w.heap.size ≤ g ∧ Up w w' := by
  have HL := hide (fun W => p_lever m L u W hm ⟨hL.1, by omega⟩ hu)
  have hmk : ∀ W : World, (Instr.makeSlice 47 (.int .i64 (n : Int)) (.int .i64 (n : Int))).run Try.prog W = .ok (.slice (some ⟨W.heap.size, 0, none⟩) n n) (W.alloc (.cells (rep n).toArray 2)) := fun W => by
    rw [← made_rep]
    exact run_make_row' 47 2 (.int .i64 0) 8 Try.underlying47 info_i64I rfl .i64 .i64 n (by omega) (by omega) W
  have g1 : (0 : Int) ≤ f := by omega
  have g2 : (f : Int) < n := by omega
  have g3 : (0 : Int) ≤ t := by omega
  have g4 : (t : Int) < n := by omega
  have g5 : f < n := by omega
  unfold caL
  generalize up m L (L - u) = P at *
  generalize up m L u = Q at *
  clear hm hL hu
  have hr := rep_len n
  obtain ⟨R, hR⟩ : ∃ R, rep n = R := ⟨_, rfl⟩
  rw [hR] at hr hmk ⊢
  clear hR
  have HR := hide hr
  clear hr
  go_enter Try.func53, Try.ntmps53
  go_upto_region 1 with fail
  refine at_wp (fun W0 hW0 => ?_)
  have U0 : Up w W0 := by rw [hW0]; exact (by repeat' (first | (with_reducible exact up_refl _) | (with_reducible assumption) | (with_reducible refine up_alloc ?_ _) | (with_reducible refine up_drewN ?_ _) | (with_reducible refine up_drew ?_) | (with_reducible refine up_set ?_ (by first | (simp; done) | (simp; omega) | omega) _) | (refine up_trans ?_ (by with_reducible assumption))))
  have B0 : Bx W0 w.heap.size [.string s, .slice A n cap, .int .i64 (f : Nat), .int .i64 (t : Nat)] := by rw [hW0]; exact bx_new w _ 43
  clear hW0
  have c1 := (B0 1 _ rfl).1
  go_upto_region 2 with fail
  refine at_wp (fun W1 hW1 => ?_)
  have u1 : Up W0 W1 := by rw [hW1]; exact (by repeat' (first | (with_reducible exact up_refl _) | (with_reducible assumption) | (with_reducible refine up_alloc ?_ _) | (with_reducible refine up_drewN ?_ _) | (with_reducible refine up_drew ?_) | (with_reducible refine up_set ?_ (by first | (simp; done) | (simp; omega) | omega) _) | (refine up_trans ?_ (by with_reducible assumption))))
  have R1 : Bx W1 W0.heap.size R := by rw [hW1]; exact bx_new W0 R 2
  have B1 := bx_up B0 u1
  have U1 := up_trans U0 u1
  have z0 := bx_lt B0 (by simp)
  clear hW1 u1 B0 c1 hmk
  have c2 := (B1 2 _ rfl).1
  have c3 := (B1 3 _ rfl).1
  have rf := bx_at R1 (i := f) (by rw [unhide HR]; exact g5)
  have rt := bx_at R1 (i := t) (by rw [unhide HR]; omega)
  obtain ⟨rf1, rf2⟩ := rf
  obtain ⟨rt1, rt2⟩ := rt
  generalize R[f]'_ = vf at rf1
  generalize R[t]'_ = vt at rt1
  obtain ⟨G, hG⟩ : ∃ G, W0.heap.size = G := ⟨_, rfl⟩
  rw [hG] at R1 rf1 rf2 rt1 rt2 z0 ⊢
  have zG : w.heap.size ≤ G := by have := up_size U0; omega
  clear hG U0
  by_cases e : f = t
  · subst e
    go_wp2_with fail
    go_ret
    exact ⟨G, rfl, by first | exact bx_set R1 f _ | (rw [if_pos rfl]; exact bx_set R1 f _), zG, up_set U1 zG _⟩
  · have e1 : ((f : Int) == (t : Int)) = false := by simp; omega
    have e2 : ¬ t = f := fun x => e x.symm
    go_upto_region 4 with fail
    go_region_held3 (fun wx => wx.cell? ⟨w.heap.size, 2, none⟩ = some (.int .i64 (f : Nat)) ∧ wx.cell? ⟨w.heap.size, 3, none⟩ = some (.int .i64 (t : Nat)) ∧ Up w wx) ((go_split_ands; refine ⟨?_, ?_, ?_⟩ <;> (first | assumption | go_cell | exact (by repeat' (first | (with_reducible exact up_refl _) | (with_reducible assumption) | (with_reducible refine up_alloc ?_ _) | (with_reducible refine up_drewN ?_ _) | (with_reducible refine up_drew ?_) | (with_reducible refine up_set ?_ (by first | (simp; done) | (simp; omega) | omega) _) | (refine up_trans ?_ (by with_reducible assumption)))))))
      (first
        | (go_at_call 48; (with_reducible refine (unhide HL _).mono ?_); rintro e w2 ⟨rfl, hb2⟩; have k2 := up_cell hb2 (p := ⟨w.heap.size, 2, none⟩) (v := .int .i64 (f : Nat)) (by first | exact c2 | go_cell); have k3 := up_cell hb2 (p := ⟨w.heap.size, 3, none⟩) (v := .int .i64 (t : Nat)) (by first | exact c3 | go_cell); have kf1 := up_cell hb2 (p := ⟨G, f, none⟩) (v := vf) (by first | exact rf1 | go_cell); have kt1 := up_cell hb2 (p := ⟨G, t, none⟩) (v := vt) (by first | exact rt1 | go_cell); have kf2 := up_frozen hb2 (p := ⟨G, f, none⟩) (v := vf) (by first | exact rf1 | go_cell) (by first | exact rf2 | (simp; done) | (go_simp; done)); have kt2 := up_frozen hb2 (p := ⟨G, t, none⟩) (v := vt) (by first | exact rt1 | go_cell) (by first | exact rt2 | (simp; done) | (go_simp; done))))
    all_goals
      have hv := up_trans (up_drew (up_refl W1)) hb2
      have hv2 := up_trans U1 hv
      go_wp2_with fail
      go_ret
      exact ⟨G, rfl, by first | exact bx_set (bx_set (bx_up R1 hv) f _) t _ | (rw [if_neg e]; exact bx_set (bx_set (bx_up R1 hv) f _) t _), zG, up_set (up_set hv2 zG _) zG _⟩
end Go.Proofs.Ytgfehjhngmabeaa
