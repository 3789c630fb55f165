/- Platforms: which supports are valid, the sums of their groups. -/
import Derived.Test.YtdehnokcjnbjoaaGreatSup
import Derived.Test.YtdehnokcjnbjoaaGreatBx
namespace Go.Proofs.YtdehnokcjnbjoaaGreat
open Go.RowKit Go.Proofs.Gn
theorem sz1 (W : World) (o : Obj) : (W.alloc o).heap.size = W.heap.size + 1 := Array.size_push _
def win (n a b : Int) : Bool := decide (a ≤ n) && decide (n ≤ b)
theorem win_iff (n a b : Int) : win n a b = true ↔ a ≤ n ∧ n ≤ b := by simp [win]
theorem okS_win (s : Gs.Sup) : Gs.okS s = (win s.x (-131072) 131072 && (win s.y (-131072) 131072 && (win s.g 0 2 && (win s.lim 1 1048576 && (win s.lo 0 s.hi && win s.hi 0 4096))))) := by
  rw [Bool.eq_iff_iff]
  simp only [Bool.and_eq_true, win_iff]
  unfold Gs.okS
  rw [decide_eq_true_iff]
theorem bx9 {W : World} {b : Nat} {v0 v1 v2 v3 v4 v5 v6 v7 v8 : Value} (h : Bx W b [v0, v1, v2, v3, v4, v5, v6, v7, v8]) : W.cell? ⟨b, 0, none⟩ = some v0 ∧ W.cell? ⟨b, 1, none⟩ = some v1 ∧ W.cell? ⟨b, 2, none⟩ = some v2 ∧ W.cell? ⟨b, 3, none⟩ = some v3 ∧ W.cell? ⟨b, 4, none⟩ = some v4 ∧ W.cell? ⟨b, 5, none⟩ = some v5 ∧ W.cell? ⟨b, 6, none⟩ = some v6 ∧ W.cell? ⟨b, 7, none⟩ = some v7 ∧ W.cell? ⟨b, 8, none⟩ = some v8 :=
  ⟨(h 0 _ rfl).1, (h 1 _ rfl).1, (h 2 _ rfl).1, (h 3 _ rfl).1, (h 4 _ rfl).1, (h 5 _ rfl).1, (h 6 _ rfl).1, (h 7 _ rfl).1, (h 8 _ rfl).1⟩
theorem bxf9 {W : World} {b : Nat} {v0 v1 v2 v3 v4 v5 v6 v7 v8 : Value} (h : Bx W b [v0, v1, v2, v3, v4, v5, v6, v7, v8]) : W.frozen? ⟨b, 0, none⟩ = false ∧ W.frozen? ⟨b, 1, none⟩ = false ∧ W.frozen? ⟨b, 2, none⟩ = false ∧ W.frozen? ⟨b, 3, none⟩ = false ∧ W.frozen? ⟨b, 4, none⟩ = false ∧ W.frozen? ⟨b, 5, none⟩ = false ∧ W.frozen? ⟨b, 6, none⟩ = false ∧ W.frozen? ⟨b, 7, none⟩ = false ∧ W.frozen? ⟨b, 8, none⟩ = false :=
  ⟨(h 0 _ rfl).2, (h 1 _ rfl).2, (h 2 _ rfl).2, (h 3 _ rfl).2, (h 4 _ rfl).2, (h 5 _ rfl).2, (h 6 _ rfl).2, (h 7 _ rfl).2, (h 8 _ rfl).2⟩
/-- The nine sums. -/
abbrev l9 (l : List Gs.Sup) : List Value := [.int .i64 (Gs.cN 0 l), .int .i64 (Gs.cX 0 l), .int .i64 (Gs.cY 0 l), .int .i64 (Gs.cN 1 l), .int .i64 (Gs.cX 1 l), .int .i64 (Gs.cY 1 l), .int .i64 (Gs.cN 2 l), .int .i64 (Gs.cX 2 l), .int .i64 (Gs.cY 2 l)]
abbrev m9 (a0 a1 a2 b0 b1 b2 c0 c1 c2 : Int) : Value := .agg #[.int .i64 a0, .int .i64 a1, .int .i64 a2, .int .i64 b0, .int .i64 b1, .int .i64 b2, .int .i64 c0, .int .i64 c1, .int .i64 c2]
theorem dt_parts {a0 a1 a2 b0 b1 b2 c0 c1 c2 : Int} (ha : Gs.Row a0 a1 a2) (hb : Gs.Row b0 b1 b2) (hc : Gs.Row c0 c1 c2) :
    (-39582418599936 ≤ b1 * c2 ∧ b1 * c2 ≤ 39582418599936) ∧ (-39582418599936 ≤ b2 * c1 ∧ b2 * c1 ≤ 39582418599936) ∧ (-301989888 ≤ b2 * c0 ∧ b2 * c0 ≤ 301989888) ∧ (-301989888 ≤ b0 * c2 ∧ b0 * c2 ≤ 301989888) ∧ (-301989888 ≤ b0 * c1 ∧ b0 * c1 ≤ 301989888) ∧ (-301989888 ≤ b1 * c0 ∧ b1 * c0 ≤ 301989888) ∧
    (-3799912185597056 ≤ a0 * (b1 * c2 - b2 * c1) ∧ a0 * (b1 * c2 - b2 * c1) ≤ 3799912185597056) ∧ (-3799912185597056 ≤ a1 * (b2 * c0 - b0 * c2) ∧ a1 * (b2 * c0 - b0 * c2) ≤ 3799912185597056) ∧ (-3799912185597056 ≤ a2 * (b0 * c1 - b1 * c0) ∧ a2 * (b0 * c1 - b1 * c0) ≤ 3799912185597056) := by
  obtain ⟨⟨p1, p2⟩, ⟨p3, p4⟩, p5, p6⟩ := ha
  obtain ⟨⟨r1, r2⟩, ⟨r3, r4⟩, r5, r6⟩ := hb
  obtain ⟨⟨s1, s2⟩, ⟨s3, s4⟩, s5, s6⟩ := hc
  have m1 := Gs.mb r3 r4 s5 s6
  have m2 := Gs.mb r5 r6 s3 s4
  have m3 := Gs.mb r5 r6 s1 s2
  have m4 := Gs.mb r1 r2 s5 s6
  have m5 := Gs.mb r1 r2 s3 s4
  have m6 := Gs.mb r3 r4 s1 s2
  have n1 := Gs.mb (u := a0) (v := b1 * c2 - b2 * c1) (U := 48) (V := 79164837199872) p1 p2 (by omega) (by omega)
  have n2 := Gs.mb (u := a1) (v := b2 * c0 - b0 * c2) (U := 6291456) (V := 603979776) p3 p4 (by omega) (by omega)
  have n3 := Gs.mb (u := a2) (v := b0 * c1 - b1 * c0) (U := 6291456) (V := 603979776) p5 p6 (by omega) (by omega)
  omega
theorem at_wp {c : Code} {Q : Exit → Act → World → Prop} {a : Act} {w : World} (h : ∀ W, W = w → Code.wp Tryz.prog c Q a W) : Code.wp Tryz.prog c Q a w := h w rfl
theorem at_rounds {c : Code} {n : Nat} {Q : Exit → Act → World → Prop} {a : Act} {w : World} (h : ∀ W, W = w → Code.rounds Tryz.prog c Q n a W) : Code.rounds Tryz.prog c Q n a w := h w rfl
/-- The sums stay small. -/
theorem row_take {l : List Gs.Sup} (h : Gs.okA l = true) (hn : l.length ≤ 48) (k : Nat) (g : Int) (hg : g = 0 ∨ g = 1 ∨ g = 2) : Gs.Row (Gs.cN g (l.take k)) (Gs.cX g (l.take k)) (Gs.cY g (l.take k)) := by
  refine Gs.row_of ?_ (by simp; omega) g hg
  unfold Gs.okA at *
  rw [List.all_eq_true] at *
  exact fun x hx => h x (List.mem_of_mem_take hx)
theorem sums_step {l : List Gs.Sup} {k : Nat} (h : k < l.length) (g : Int) (hg : l[k].g = g) : Gs.cN g (l.take (k + 1)) = Gs.cN g (l.take k) + 1 ∧ Gs.cX g (l.take (k + 1)) = Gs.cX g (l.take k) + l[k].x ∧ Gs.cY g (l.take (k + 1)) = Gs.cY g (l.take k) + l[k].y := by
  rw [Gs.cN_take g h, Gs.cX_take g h, Gs.cY_take g h, if_pos hg, if_pos hg, if_pos hg]
  exact ⟨rfl, rfl, rfl⟩
theorem sums_stay {l : List Gs.Sup} {k : Nat} (h : k < l.length) (g : Int) (hg : ¬ l[k].g = g) : Gs.cN g (l.take (k + 1)) = Gs.cN g (l.take k) ∧ Gs.cX g (l.take (k + 1)) = Gs.cX g (l.take k) ∧ Gs.cY g (l.take (k + 1)) = Gs.cY g (l.take k) := by
  rw [Gs.cN_take g h, Gs.cX_take g h, Gs.cY_take g h, if_neg hg, if_neg hg, if_neg hg]
  omega
end Go.Proofs.YtdehnokcjnbjoaaGreat
