/- A hull grown by t, and a hull moved: the mathematics. A hull grown by a whole amount, as the program makes it. -/
import Derived.Test.YtihckoenfklhpaaSumM
import Derived.Test.YtihckoenfklhpaaSumsW
import Derived.Test.YtihckoenfklhpaaMeet
namespace Go.Proofs.Gx
/-- The square of size t; of size 0 it is a point. -/
def sqL (t : Int) : List P2 := if t = 0 then [(0, 0)] else sq t
theorem sqL_len (t : Int) : 0 < (sqL t).length ∧ (sqL t).length ≤ 4 := by
  unfold sqL
  split <;> simp [sq]
theorem one_poly (p : P2) : Poly [p] where
  ne := by simp
  first := fun i hi => by simp at hi
  fan := fun i h0 hi => by simp at hi; try omega
  turn := fun h => by simp at h
  left := fun q hq i hi => by
    simp at hq hi
    subst hq hi
    rw [show g [q] 0 = q from rfl]
    unfold dt
    simp
theorem sqL_poly {t : Int} (h : 0 ≤ t) : Poly (sqL t) := by
  unfold sqL
  split
  · exact one_poly _
  · exact sq_poly (by omega)
theorem sqL_bd {t : Int} (h : 0 ≤ t) {y : P2} (hy : y ∈ sqL t) : (-t ≤ y.1 ∧ y.1 ≤ t) ∧ (-t ≤ y.2 ∧ y.2 ≤ t) := by
  unfold sqL at hy
  split at hy
  · simp at hy; subst hy; simp only; omega
  · rcases sq_mem.1 hy with rfl | rfl | rfl | rfl <;> (simp only; omega)
theorem sqL_reach {t : Int} (h : 0 ≤ t) (w : P2) : (∃ y ∈ sqL t, crs w y = - (t * nm w)) ∧ ∀ y ∈ sqL t, - (t * nm w) ≤ crs w y := by
  unfold sqL
  split
  · rename_i e
    subst e
    have z : crs w (0, 0) = 0 := by unfold crs; simp
    refine ⟨⟨_, List.mem_singleton.2 rfl, by rw [z]; simp⟩, fun y hy => ?_⟩
    rw [List.mem_singleton.1 hy, z]
    simp
  · exact sq_reach h w
/-- The grown hull meets the other one just if there is room of t. -/
theorem grown_diffs {a b G : List P2} {t : Int} (h : 0 ≤ t) (hp : Path a (sqL t) G) : Diffs G b (0, 0) ↔ Room a b t := by
  have z : ∀ w : P2, crs w (0, 0) = 0 := fun w => by unfold crs; simp
  constructor
  · intro d w
    obtain ⟨r, hr, y, hy, e⟩ := d w
    obtain ⟨x, hx, s, hs, rfl⟩ := hp.mem r hr
    have := (sqL_reach h w).2 s hs
    refine ⟨x, hx, y, hy, ?_⟩
    rw [z, crs_sb, crs_adr] at e
    rw [crs_sb]
    omega
  · intro r w
    obtain ⟨x, hx, y, hy, e⟩ := r w
    obtain ⟨⟨s, hs, f⟩, _⟩ := sqL_reach h w
    obtain ⟨q, hq, k⟩ := path_sc hp hx hs w
    refine ⟨q, hq, y, hy, ?_⟩
    rw [crs_adr] at k
    rw [crs_sb] at e
    rw [z, crs_sb]
    omega
/-- All points moved by d. -/
def mvL (d : P2) (b : List P2) : List P2 := b.map fun p => ad p d
theorem mvL_len (d : P2) (b : List P2) : (mvL d b).length = b.length := by simp [mvL]
theorem g_mvL {d : P2} {b : List P2} {i : Nat} (h : i < b.length) : g (mvL d b) i = ad (g b i) d := by
  rw [g_eq (by rw [mvL_len]; exact h), g_eq h]
  simp [mvL]
theorem gc_mvL {d : P2} {b : List P2} (h0 : 0 < b.length) (i : Nat) : gc (mvL d b) i = ad (gc b i) d := by
  unfold gc
  rw [mvL_len]
  exact g_mvL (Nat.mod_lt _ h0)
theorem dt_mv (d a b c : P2) : dt (ad a d) (ad b d) (ad c d) = dt a b c := by unfold dt ad; grind
theorem lt2_mv {d a b : P2} (h : lt2 a b) : lt2 (ad a d) (ad b d) := by unfold lt2 ad at *; simp only; omega
theorem mem_mvL {d : P2} {b : List P2} {x : P2} : x ∈ mvL d b ↔ ∃ y ∈ b, x = ad y d := by
  unfold mvL
  rw [List.mem_map]
  constructor
  · rintro ⟨y, hy, rfl⟩; exact ⟨y, hy, rfl⟩
  · rintro ⟨y, hy, rfl⟩; exact ⟨y, hy, rfl⟩
theorem mvL_poly {b : List P2} (P : Poly b) (d : P2) : Poly (mvL d b) := by
  have h0 : 0 < b.length := List.length_pos_iff.2 P.ne
  refine { ne := List.length_pos_iff.1 (by rw [mvL_len]; exact h0), first := fun i hi => ?_, fan := fun i h1 hi => ?_, turn := fun h3 i hi => ?_, left := fun q hq i hi => ?_ }
  · rw [mvL_len] at hi
    rw [g_mvL h0, g_mvL hi]
    exact lt2_mv (P.first i hi)
  · rw [mvL_len] at hi
    rw [g_mvL h0, g_mvL (by omega), g_mvL hi, dt_mv]
    exact P.fan i h1 hi
  · rw [mvL_len] at hi h3
    rw [g_mvL hi, gc_mvL h0, gc_mvL h0, dt_mv]
    exact P.turn h3 i hi
  · obtain ⟨y, hy, rfl⟩ := mem_mvL.1 hq
    rw [mvL_len] at hi
    rw [g_mvL hi, gc_mvL h0, dt_mv]
    exact P.left y hy i hi
/-- A short way in a direction. -/
theorem crs_short {t : Int} {d : P2} (h : (-t ≤ d.1 ∧ d.1 ≤ t) ∧ (-t ≤ d.2 ∧ d.2 ≤ t)) (w : P2) : -(t * nm w) ≤ crs w d ∧ crs w d ≤ t * nm w := by
  obtain ⟨a, b⟩ := w
  obtain ⟨x, y⟩ := d
  simp only at h
  have key : ∀ u v : Int, -t ≤ v → v ≤ t → -(t * (u.natAbs : Int)) ≤ u * v ∧ u * v ≤ t * (u.natAbs : Int) := fun u v h1 h2 => by
    rcases Int.le_total 0 u with c | c
    · have e : (u.natAbs : Int) = u := by omega
      have p1 := Int.mul_nonneg c (show 0 ≤ t - v by omega)
      have p2 := Int.mul_nonneg c (show 0 ≤ t + v by omega)
      rw [e]
      constructor <;> grind
    · have e : (u.natAbs : Int) = -u := by omega
      have p1 := Int.mul_nonneg (show 0 ≤ -u by omega) (show 0 ≤ t - v by omega)
      have p2 := Int.mul_nonneg (show 0 ≤ -u by omega) (show 0 ≤ t + v by omega)
      rw [e]
      constructor <;> grind
  have k1 := key a y h.2.1 h.2.2
  have k2 := key b x h.1.1 h.1.2
  have e : t * nm (a, b) = t * (a.natAbs : Int) + t * (b.natAbs : Int) := by unfold nm; simp only; rw [Int.mul_add]
  rw [e]
  unfold crs
  simp only
  omega
theorem crs_ad (w x d : P2) : crs w (ad x d) = crs w x + crs w d := by unfold crs ad; grind
/-- Room between a hull and one that is moved. -/
theorem room_move {a b : List P2} {g t : Int} {d : P2} (h : (-t ≤ d.1 ∧ d.1 ≤ t) ∧ (-t ≤ d.2 ∧ d.2 ≤ t)) (r : Room a b g) : Room a (mvL d b) (g + t) := fun w => by
  obtain ⟨x, hx, y, hy, e⟩ := r w
  refine ⟨x, hx, ad y d, mem_mvL.2 ⟨y, hy, rfl⟩, ?_⟩
  have := crs_short h w
  rw [crs_sb] at e ⊢
  rw [crs_ad, Int.add_mul]
  omega
theorem room_back {a b : List P2} {g t : Int} {d : P2} (h : (-t ≤ d.1 ∧ d.1 ≤ t) ∧ (-t ≤ d.2 ∧ d.2 ≤ t)) (r : Room a (mvL d b) g) : Room a b (g + t) := fun w => by
  obtain ⟨x, hx, y', hy', e⟩ := r w
  obtain ⟨y, hy, rfl⟩ := mem_mvL.1 hy'
  refine ⟨x, hx, y, hy, ?_⟩
  have := crs_short h w
  rw [crs_sb] at e ⊢
  rw [crs_ad] at e
  rw [Int.add_mul]
  omega
/-- Near hulls: the gap is small. -/
theorem room_near {a b : List P2} (ha : a ≠ []) (hb : b ≠ []) {t : Int} (h : ∀ x ∈ a, ∀ y ∈ b, (-t ≤ x.1 - y.1 ∧ x.1 - y.1 ≤ t) ∧ (-t ≤ x.2 - y.2 ∧ x.2 - y.2 ≤ t)) : Room a b t := fun w => by
  obtain ⟨x, hx⟩ := List.exists_mem_of_ne_nil _ ha
  obtain ⟨y, hy⟩ := List.exists_mem_of_ne_nil _ hb
  exact ⟨x, hx, y, hy, (crs_short (d := sb x y) (by have := h x hx y hy; unfold sb; simp only; omega) w).2⟩
end Go.Proofs.Gx
namespace Go.Proofs.Ytihckoenfklhpaa
open Go.RowKit Go.Proofs.Gn
set_option maxRecDepth 100000 in
theorem p_square (t : Int) (w : World) (h0 : 0 ≤ t) (h1 : t ≤ 33554432) :
    Calls Try.prog 46 #[.int .i64 t] w fun e w' => ∃ g cap, e = .returned (.slice (some ⟨g, 0, none⟩) (Gx.sqL t).length cap) ∧ At w' g 0 cap (Gx.sqL t) ∧ Up w w' := by
  by_cases hz : t = 0
  · subst hz
    rw [show Gx.sqL 0 = [(0, 0)] from rfl]
    go_enter Try.func46, Try.ntmps46
    go_wp2_with fail
    go_ret
    refine ⟨_, _, rfl, ⟨?_, by simp, by simp⟩, (by repeat' (first | (with_reducible exact up_refl _) | (with_reducible assumption) | (with_reducible refine up_alloc ?_ _) | (with_reducible refine up_drewN ?_ _) | (with_reducible refine up_drew ?_) | (with_reducible refine up_set ?_ (by first | (simp; done) | (simp; omega) | omega) _) | (refine up_trans ?_ (by with_reducible assumption))))⟩
    intro k hk
    match k, hk with
    | 0, _ => exact ⟨by go_cell, by go_cell⟩
  · have z1 : (t == 0) = false := beq_false_of_ne hz
    have W1 : IntKind.i64.wrap (-t) = -t := IntWalk.i64_in _ ⟨by omega, by omega⟩
    rw [show Gx.sqL t = Gx.sq t from by unfold Gx.sqL; rw [if_neg hz]]
    go_enter Try.func46, Try.ntmps46
    go_wp2_with fail
    go_ret
    refine ⟨_, _, rfl, ⟨?_, by simp [Gx.sq], by simp⟩, (by repeat' (first | (with_reducible exact up_refl _) | (with_reducible assumption) | (with_reducible refine up_alloc ?_ _) | (with_reducible refine up_drewN ?_ _) | (with_reducible refine up_drew ?_) | (with_reducible refine up_set ?_ (by first | (simp; done) | (simp; omega) | omega) _) | (refine up_trans ?_ (by with_reducible assumption))))⟩
    intro k hk
    match k, hk with
    | 0, _ => exact ⟨by show _ = some (Value.int .i64 (-t)); go_cell, by show _ = some (Value.int .i64 (-t)); go_cell⟩
    | 1, _ => exact ⟨by show _ = some (Value.int .i64 t); go_cell, by show _ = some (Value.int .i64 (-t)); go_cell⟩
    | 2, _ => exact ⟨by show _ = some (Value.int .i64 t); go_cell, by show _ = some (Value.int .i64 t); go_cell⟩
    | 3, _ => exact ⟨by show _ = some (Value.int .i64 (-t)); go_cell, by show _ = some (Value.int .i64 t); go_cell⟩
theorem sqL_bdL {t : Int} (h0 : 0 ≤ t) (h1 : t ≤ 33554432) : BdL (Gx.sqL t) := fun y hy => by
  have := Gx.sqL_bd h0 hy
  unfold Bd
  omega
/-- What Grow returns. -/
def GrowAt (a : Pl) (t : Int) (v : Value) (W : World) : Prop := ∃ (G : Pl) (g cap : Nat), v = .slice (some ⟨g, 0, none⟩) G.length cap ∧ Gx.Path a (Gx.sqL t) G ∧ HV G ∧ At W g 0 cap G
set_option maxRecDepth 100000 in
set_option maxHeartbeats 4000000 in
theorem p_Grow {a : Pl} (ha : HV a) (hl : a.length ≤ 252) {ga oa ca : Nat} (w : World) (h1 : At w ga oa ca a) (t : Int) (t0 : 0 ≤ t) (t1 : t ≤ 33554432) (hok : ∀ x ∈ a, ∀ y ∈ Gx.sqL t, okp (x.1 + y.1) (x.2 + y.2) = true) :
    Calls Try.prog 18 #[.slice (some ⟨ga, oa, none⟩) a.length ca, .int .i64 t] w fun e w' => ∃ v, e = .returned (.tuple #[v, .int .i64 0]) ∧ GrowAt a t v w' ∧ Up w w' := by
  have PC : ∀ (B : Nat) (W : World), Up w W → W.cell? ⟨B, 0, none⟩ = some (.slice (some ⟨ga, oa, none⟩) a.length ca) → Calls Try.prog 37 #[.slice (some ⟨B, 0, none⟩) 1 1] W fun e w' => e = .returned (.int .i64 0) ∧ Up W w' := fun B W hu hw => by
    have q := p_checkHulls (some ⟨B, 0, none⟩) [⟨some ⟨ga, oa, none⟩, a, ca⟩] 1 W (lss_one (l := ⟨some ⟨ga, oa, none⟩, a, ca⟩) hw (h1.up hu).pt (by show a.length ≤ _; omega)) (by simp) (by
      intro l hm
      rw [List.mem_singleton.1 hm]
      exact ⟨ha.pos, h1.room, h1.most⟩)
    rw [hulE_one ha.len ha.ok, ha.is] at q
    exact q
  obtain ⟨K, hK⟩ := Gx.walk_ex ha.poly (Gx.sqL_poly t0)
  obtain ⟨l1, l2⟩ := Gx.sqL_len t
  have hlen : max 1 K ≤ 256 := by
    have := hK.most
    have e1 : Gx.ns a ≤ a.length := by unfold Gx.ns; split <;> omega
    have e2 : Gx.ns (Gx.sqL t) ≤ (Gx.sqL t).length := by unfold Gx.ns; split <;> omega
    omega
  have hG : (Gx.spL a (Gx.sqL t) (max 1 K)).length = max 1 K := Gx.spL_len _ _ _
  have hPt := hK.path
  have PS : ∀ W : World, Calls Try.prog 46 #[.int .i64 t] W fun e w' => ∃ g cap, e = .returned (.slice (some ⟨g, 0, none⟩) (Gx.sqL t).length cap) ∧ At w' g 0 cap (Gx.sqL t) ∧ Up W w' := fun W => p_square t W t0 t1
  have PW : ∀ (g cap : Nat) (W : World), Up w W → At W g 0 cap (Gx.sqL t) → Calls Try.prog 45 #[.slice (some ⟨ga, oa, none⟩) a.length ca, .slice (some ⟨g, 0, none⟩) (Gx.sqL t).length cap] W fun e w' => ∃ v, e = .returned v ∧ w'.ownsRow W.heap.size 24 2 v (max 1 K) (cellsPl (Gx.spL a (Gx.sqL t) (max 1 K))) ∧ Up W w' := fun g cap W hu hA =>
    p_sums ga oa g 0 a (Gx.sqL t) ca cap W (h1.up hu).pts hA.pts ha.pos l1 (by omega) (by omega) ha.bd (sqL_bdL t0 t1) K hK
  obtain ⟨G, hGe⟩ : ∃ G, Gx.spL a (Gx.sqL t) (max 1 K) = G := ⟨_, rfl⟩
  rw [hGe] at hG hPt PW
  have hv : HV G := ⟨Gx.path_poly hPt, by omega, List.all_eq_true.2 fun r hr => by
    obtain ⟨x, hx, y, hy, rfl⟩ := hPt.mem r hr
    exact hok x hx y hy⟩
  have PP : ∀ (g cap : Nat) (W : World), At W g 0 cap G → Calls Try.prog 47 #[.slice (some ⟨g, 0, none⟩) G.length cap] W fun e w' => e = .returned (.int .i64 0) ∧ Up W w' := fun g cap W hA => by
    have q := p_checkPoints (some ⟨g, 0, none⟩) G cap W hA.pt (by omega)
    unfold chkL at q
    rw [hv.ok] at q
    exact q
  have HPC := hide PC
  have HPS := hide PS
  have HPW := hide PW
  have HPP := hide PP
  have HR := hide (And.intro hPt hv)
  obtain ⟨n, hn⟩ : ∃ n, max 1 K = n := ⟨_, rfl⟩
  rw [hn] at hG hlen HPW
  have n0 : 0 < n := by omega
  rw [hG] at HPP
  have HG := hide hG
  obtain ⟨na, hna⟩ : ∃ n, a.length = n := ⟨_, rfl⟩
  rw [hna] at HPC HPW ⊢
  obtain ⟨nb, hnb⟩ : ∃ n, (Gx.sqL t).length = n := ⟨_, rfl⟩
  rw [hnb] at HPW HPS
  clear PC PS PW PP hPt hv hG hGe hn hK hna hnb h1 ha hok l1 l2 hl
  have z1 : decide (t < 0) = false := decide_eq_false (by omega)
  have z2 : decide (33554432 < t) = false := decide_eq_false (by omega)
  have z3 : decide (256 < (n : Int)) = false := decide_eq_false (by omega)
  go_enter Try.func18, Try.ntmps18
  go_wp2_with (first
    | (go_at_call 37; (with_reducible refine (unhide HPC _ _ (by repeat' (first | (with_reducible exact up_refl _) | (with_reducible assumption) | (with_reducible refine up_alloc ?_ _) | (with_reducible refine up_drewN ?_ _) | (with_reducible refine up_drew ?_) | (with_reducible refine up_set ?_ (by first | (simp; done) | (simp; omega) | omega) _) | (refine up_trans ?_ (by with_reducible assumption)))) ?_).mono ?_); (· go_cell); rintro e w1 ⟨rfl, hb1⟩)
    | (go_at_call 46; (with_reducible refine (unhide HPS _).mono ?_); rintro e w2 ⟨gs, cs, rfl, hS, hb2⟩; have HS := hide hS; clear hS)
    | (go_at_call 45; (with_reducible refine (unhide HPW _ _ _ (by repeat' (first | (with_reducible exact up_refl _) | (with_reducible assumption) | (with_reducible refine up_alloc ?_ _) | (with_reducible refine up_drewN ?_ _) | (with_reducible refine up_drew ?_) | (with_reducible refine up_set ?_ (by first | (simp; done) | (simp; omega) | omega) _) | (refine up_trans ?_ (by with_reducible assumption)))) (unhide HS)).mono ?_); rintro e w3 ⟨v, rfl, hown, hb3⟩; obtain ⟨g, cap, rfl, q1, q2, q3⟩ := own_some hown n0; have hA : At w3 g 0 cap G := ⟨own_cells hown, by rw [unhide HG]; exact q2, q3⟩; have HA := hide hA; clear hA hown)
    | (go_at_call 47; (with_reducible refine (unhide HPP _ _ _ (unhide HA)).mono ?_); rintro e w4 ⟨rfl, hb4⟩))
  exact bodyPost_ret (v := .tuple #[.slice (some ⟨g, 0, none⟩) n cap, .int .i64 0]) (by simp [results, Try.results18, go_sem, *]) rfl ⟨_, rfl, ⟨G, g, cap, by rw [unhide HG], (unhide HR).1, (unhide HR).2, (unhide HA).up hb4⟩, (by repeat' (first | (with_reducible exact up_refl _) | (with_reducible assumption) | (with_reducible refine up_alloc ?_ _) | (with_reducible refine up_drewN ?_ _) | (with_reducible refine up_drew ?_) | (with_reducible refine up_set ?_ (by first | (simp; done) | (simp; omega) | omega) _) | (refine up_trans ?_ (by with_reducible assumption))))⟩
end Go.Proofs.Ytihckoenfklhpaa
