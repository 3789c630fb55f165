/- The box of a hull: its least and greatest coordinates. -/
import Derived.Test.YtihckoenfklhpaaDrop
import Derived.Test.YtihckoenfklhpaaBx
namespace Go.Proofs.Ytihckoenfklhpaa
open Go.RowKit Go.Proofs.Gn
/-- The least and the greatest coordinates of points. -/
structure IsBox (ps : Pl) (k : Nat) (l1 l2 h1 h2 : Int) : Prop where
  l1a : ∃ r ∈ ps, r.1 = l1
  l2a : ∃ r ∈ ps, r.2 = l2
  h1a : ∃ r ∈ ps, r.1 = h1
  h2a : ∃ r ∈ ps, r.2 = h2
  l1b : ∀ i, i < k → l1 ≤ (Gx.g ps i).1
  l2b : ∀ i, i < k → l2 ≤ (Gx.g ps i).2
  h1b : ∀ i, i < k → (Gx.g ps i).1 ≤ h1
  h2b : ∀ i, i < k → (Gx.g ps i).2 ≤ h2
theorem min_of {P : Int → Prop} {a b : Int} (ha : P a) (hb : P b) : P (if b < a then b else a) := by split <;> assumption
theorem max_of {P : Int → Prop} {a b : Int} (ha : P a) (hb : P b) : P (if b > a then b else a) := by split <;> assumption
theorem box_step {ps : Pl} {k : Nat} {l1 l2 h1 h2 x y : Int} (h : IsBox ps k l1 l2 h1 h2) (hk : k < ps.length) (e : Gx.g ps k = (x, y)) :
    IsBox ps (k + 1) (if x < l1 then x else l1) (if y < l2 then y else l2) (if x > h1 then x else h1) (if y > h2 then y else h2) := by
  have hx : ∃ r ∈ ps, r.1 = x := ⟨Gx.g ps k, Gx.g_mem hk, by rw [e]⟩
  have hy : ∃ r ∈ ps, r.2 = y := ⟨Gx.g ps k, Gx.g_mem hk, by rw [e]⟩
  have low : ∀ {a b : Int}, (if b < a then b else a) ≤ a ∧ (if b < a then b else a) ≤ b := fun {a b} => by split <;> omega
  have high : ∀ {a b : Int}, a ≤ (if b > a then b else a) ∧ b ≤ (if b > a then b else a) := fun {a b} => by split <;> omega
  refine ⟨min_of (P := fun z => ∃ r ∈ ps, r.1 = z) h.l1a hx, min_of (P := fun z => ∃ r ∈ ps, r.2 = z) h.l2a hy, max_of (P := fun z => ∃ r ∈ ps, r.1 = z) h.h1a hx, max_of (P := fun z => ∃ r ∈ ps, r.2 = z) h.h2a hy, ?_, ?_, ?_, ?_⟩
  · intro i hi
    rcases Nat.lt_or_ge i k with c | c
    · exact Int.le_trans low.1 (h.l1b i c)
    · obtain rfl : i = k := by omega
      rw [e]; exact low.2
  · intro i hi
    rcases Nat.lt_or_ge i k with c | c
    · exact Int.le_trans low.1 (h.l2b i c)
    · obtain rfl : i = k := by omega
      rw [e]; exact low.2
  · intro i hi
    rcases Nat.lt_or_ge i k with c | c
    · exact Int.le_trans (h.h1b i c) high.1
    · obtain rfl : i = k := by omega
      rw [e]; exact high.2
  · intro i hi
    rcases Nat.lt_or_ge i k with c | c
    · exact Int.le_trans (h.h2b i c) high.1
    · obtain rfl : i = k := by omega
      rw [e]; exact high.2
theorem bx_set2 {W : World} {b : Nat} {u0 u1 v0 v1 : Value} (h : Bx W b [u0, u1]) : Bx ((W.setCell ⟨b, 0, none⟩ v0).setCell ⟨b, 1, none⟩ v1) b [v0, v1] := bx_set (bx_set h 0 v0) 1 v1
theorem bx_far2 {W : World} {b g : Nat} {vs : List Value} {v0 v1 : Value} (h : Bx W b vs) (hg : g ≠ b) : Bx ((W.setCell ⟨g, 0, none⟩ v0).setCell ⟨g, 1, none⟩ v1) b vs := bx_far (bx_far h (p := ⟨g, 0, none⟩) hg _) (p := ⟨g, 1, none⟩) hg _
set_option maxRecDepth 100000 in
set_option maxHeartbeats 2000000 in
theorem p_box (b off : Nat) (ps : Pl) (cap : Nat) (w : World) (hc : ∀ k (h : k < ps.length), w.cell? ⟨b, off + k * 2, none⟩ = some (.int .i64 ps[k].1) ∧ w.cell? ⟨b, off + k * 2 + 1, none⟩ = some (.int .i64 ps[k].2)) (h0 : 0 < ps.length) (hn : ps.length ≤ 70000) :
    Calls Try.prog 72 #[.slice (some ⟨b, off, none⟩) ps.length cap] w fun e w' => (∃ l1 l2 h1 h2 : Int, e = .returned (.tuple #[pt l1 l2, pt h1 h2]) ∧ IsBox ps ps.length l1 l2 h1 h2) ∧ Up w w' := by
  obtain ⟨z0, z1⟩ := pts_g hc (k := 0) h0
  have HC := hide hc
  obtain ⟨n, hN⟩ : ∃ n, ps.length = n := ⟨_, rfl⟩
  rw [hN] at h0 hn ⊢
  have HN := hide hN
  obtain ⟨P0, hP0⟩ : ∃ P, Gx.g ps 0 = P := ⟨_, rfl⟩
  obtain ⟨p1, p2⟩ := P0
  rw [hP0] at z0 z1
  simp only [Nat.zero_mul, Nat.add_zero] at z0 z1
  have HP0 := hide hP0
  clear hc hN hP0
  have n1 : (0 : Int) < (n : Int) := by omega
  have d0 := fun o => alloc_cell o z0
  have d1 := fun o => alloc_cell o z1
  have d2 := fun o o' => alloc_cell o' (d0 o)
  have d3 := fun o o' => alloc_cell o' (d1 o)
  clear d0 d1
  go_enter Try.func72, Try.ntmps72
  go_wp2_with fail
  go_region
  obtain ⟨L, hL⟩ : ∃ L, w.heap.size = L := ⟨_, rfl⟩
  have HS : Hid (Bx (((w.alloc (Obj.cells #[Value.int IntKind.i64 p1, Value.int IntKind.i64 p2] 24)).alloc (Obj.cells #[Value.int IntKind.i64 p1, Value.int IntKind.i64 p2] 24)).drew) L [.int .i64 p1, .int .i64 p2] ∧ Bx (((w.alloc (Obj.cells #[Value.int IntKind.i64 p1, Value.int IntKind.i64 p2] 24)).alloc (Obj.cells #[Value.int IntKind.i64 p1, Value.int IntKind.i64 p2] 24)).drew) (L + 1) [.int .i64 p1, .int .i64 p2] ∧ Up w (((w.alloc (Obj.cells #[Value.int IntKind.i64 p1, Value.int IntKind.i64 p2] 24)).alloc (Obj.cells #[Value.int IntKind.i64 p1, Value.int IntKind.i64 p2] 24)).drew)) := hide (by
    rw [← hL]
    refine ⟨bx_drew (bx_alloc (bx_new w [.int .i64 p1, .int .i64 p2] 24) _), ?_, (by repeat' (first | (with_reducible exact up_refl _) | (with_reducible assumption) | (with_reducible refine up_alloc ?_ _) | (with_reducible refine up_drewN ?_ _) | (with_reducible refine up_drew ?_) | (with_reducible refine up_set ?_ (by first | (simp; done) | (simp; omega) | omega) _) | (refine up_trans ?_ (by with_reducible assumption))))⟩
    have := bx_new (w.alloc (Obj.cells #[Value.int IntKind.i64 p1, Value.int IntKind.i64 p2] 24)) [.int .i64 p1, .int .i64 p2] 24
    rw [World.size_alloc] at this
    exact bx_drew this)
  rw [hL]
  have HL := hide hL
  clear hL d2 d3
  go_wp2_with fail
  go_loopw [14] (fun i wr => ∃ (k : Nat) (l1 l2 h1 h2 : Int), k ≤ n ∧ i = .int .i64 k ∧ IsBox ps k l1 l2 h1 h2 ∧ Bx wr L [.int .i64 l1, .int .i64 l2] ∧ Bx wr (L + 1) [.int .i64 h1, .int .i64 h2] ∧ Up w wr) (fun i _ => n - (intOf i).toNat)
  case atStart =>
    obtain ⟨s1, s2, s3⟩ := unhide HS
    have m : Gx.g ps 0 ∈ ps := Gx.g_mem (by rw [unhide HN]; exact h0)
    rw [unhide HP0] at m
    exact ⟨0, p1, p2, p1, p2, by omega, rfl, ⟨⟨_, m, rfl⟩, ⟨_, m, rfl⟩, ⟨_, m, rfl⟩, ⟨_, m, rfl⟩, fun i hi => by omega, fun i hi => by omega, fun i hi => by omega, fun i hi => by omega⟩, s1, s2, s3⟩
  case round =>
    clear HS
    obtain ⟨k, l1, l2, h1, h2, hk, rfl, hbox, b1, b2, hu⟩ := hrel
    have HB := hide hbox
    clear hbox
    by_cases hlt : k < n
    · have hl : k < ps.length := by rw [unhide HN]; exact hlt
      obtain ⟨a0, a1⟩ := pts_g (unhide HC) hl
      obtain ⟨X, hX⟩ : ∃ X, Gx.g ps k = X := ⟨_, rfl⟩
      obtain ⟨x, y⟩ := X
      rw [hX] at a0 a1
      simp only at a0 a1
      have hst := box_step (unhide HB) hl hX
      have e0 := up_cell hu a0
      have e1 := up_cell hu a1
      have HST := hide hst
      have f0 := fun o => (bx2 (bx_alloc b1 o)).1
      have f1 := fun o => (bx2 (bx_alloc b1 o)).2
      have f2 := fun o => (bxf2 (bx_alloc b1 o)).1
      have f3 := fun o => (bxf2 (bx_alloc b1 o)).2
      have f4 := fun o => (bx2 (bx_alloc b2 o)).1
      have f5 := fun o => (bx2 (bx_alloc b2 o)).2
      have f6 := fun o => (bxf2 (bx_alloc b2 o)).1
      have f7 := fun o => (bxf2 (bx_alloc b2 o)).2
      have B1 := hide b1
      have B2 := hide b2
      have hL1 : L ≠ wr.heap.size := by have := bx_lt b1 (by simp); omega
      have hL2 : L + 1 ≠ wr.heap.size := by have := bx_lt b2 (by simp); omega
      clear a0 a1 hX hst b1 b2
      obtain ⟨N1, hN1⟩ : ∃ N, (if x < l1 then x else l1) = N := ⟨_, rfl⟩
      obtain ⟨N2, hN2⟩ : ∃ N, (if y < l2 then y else l2) = N := ⟨_, rfl⟩
      obtain ⟨N3, hN3⟩ : ∃ N, (if x > h1 then x else h1) = N := ⟨_, rfl⟩
      obtain ⟨N4, hN4⟩ : ∃ N, (if y > h2 then y else h2) = N := ⟨_, rfl⟩
      rw [hN1, hN2, hN3, hN4] at HST
      have r1 := fun (ts : Array TypeId) (t : TypeId) (W : World) => (show (Builtin.min_ ts t #[.int .i64 l1, .int .i64 x]).run Try.prog W = .ok (.int .i64 N1) W by rw [run_min_int2, hN1])
      have r2 := fun (ts : Array TypeId) (t : TypeId) (W : World) => (show (Builtin.min_ ts t #[.int .i64 l2, .int .i64 y]).run Try.prog W = .ok (.int .i64 N2) W by rw [run_min_int2, hN2])
      have r3 := fun (ts : Array TypeId) (t : TypeId) (W : World) => (show (Builtin.max_ ts t #[.int .i64 h1, .int .i64 x]).run Try.prog W = .ok (.int .i64 N3) W by rw [run_max_int2, hN3])
      have r4 := fun (ts : Array TypeId) (t : TypeId) (W : World) => (show (Builtin.max_ ts t #[.int .i64 h2, .int .i64 y]).run Try.prog W = .ok (.int .i64 N4) W by rw [run_max_int2, hN4])
      clear hN1 hN2 hN3 hN4
      go_wp2_with fail
      exact ⟨⟨k + 1, N1, N2, N3, N4, by omega, by go_num, unhide HST, bx_far2 (bx_set2 (bx_alloc (unhide B1) _)) (by omega), bx_set2 (bx_far2 (bx_alloc (unhide B2) _) (by omega)),
        up_set (up_set (up_set (up_set (up_alloc hu _) (by rw [unhide HL]; exact Nat.le_refl _) _) (by rw [unhide HL]; exact Nat.le_refl _) _) (by rw [unhide HL]; exact Nat.le_succ _) _) (by rw [unhide HL]; exact Nat.le_succ _) _⟩, by simp [intOf]; omega⟩
    · obtain rfl : k = n := by omega
      have f0 := (bx2 b1).1
      have f1 := (bx2 b1).2
      have f2 := (bxf2 b1).1
      have f3 := (bxf2 b1).2
      have f4 := (bx2 b2).1
      have f5 := (bx2 b2).2
      have f6 := (bxf2 b2).1
      have f7 := (bxf2 b2).2
      have B1 := hide b1
      have B2 := hide b2
      clear b1 b2
      go_wp2_with fail
      go_region
      obtain ⟨WE, hWE⟩ : ∃ WE, ((((wr.setCell ⟨L, 0, none⟩ (.int .i64 l1)).setCell ⟨L, 1, none⟩ (.int .i64 l2)).setCell ⟨L + 1, 0, none⟩ (.int .i64 h1)).setCell ⟨L + 1, 1, none⟩ (.int .i64 h2)).drew = WE := ⟨_, rfl⟩
      rw [hWE]
      have q1 : Bx WE L [.int .i64 l1, .int .i64 l2] := by rw [← hWE]; exact bx_drew (bx_far2 (bx_set2 (unhide B1)) (by omega))
      have q2 : Bx WE (L + 1) [.int .i64 h1, .int .i64 h2] := by rw [← hWE]; exact bx_drew (bx_set2 (bx_far2 (unhide B2) (by omega)))
      have q3 : Up w WE := by
        rw [← hWE]
        exact up_drew (up_set (up_set (up_set (up_set hu (by rw [unhide HL]; exact Nat.le_refl _) _) (by rw [unhide HL]; exact Nat.le_refl _) _) (by rw [unhide HL]; exact Nat.le_succ _) _) (by rw [unhide HL]; exact Nat.le_succ _) _)
      clear f0 f1 f2 f3 f4 f5 f6 f7 hWE
      have f0 := (bx2 q1).1
      have f1 := (bx2 q1).2
      have f4 := (bx2 q2).1
      have f5 := (bx2 q2).2
      clear q1 q2
      go_wp2
      exact bodyPost_ret (v := .tuple #[pt l1 l2, pt h1 h2]) (by simp [results, Try.results72, go_sem, f0, f1, f4, f5]) rfl ⟨⟨l1, l2, h1, h2, rfl, unhide HB⟩, q3⟩
end Go.Proofs.Ytihckoenfklhpaa
