/- A load's lists, copied. -/
import Derived.Test.YtdehnokcjnbjoaaGreatLdP
import Derived.Test.YtdehnokcjnbjoaaGreatPkTurn
namespace Go.Proofs.YtdehnokcjnbjoaaGreat
open Go.RowKit Go.Proofs.Gn
attribute [local go_sem] Oper.semAt_some
set_option linter.unusedVariables false
theorem info_ey : (Tryz.prog.info? 86).map (fun i => (i.zero, i.size, i.bytes)) = some (some (.agg #[.int .i64 0, .int .i64 0, .int .i64 0, .int .i64 0]), 4, 32) := by kernel_rfl
def cellsEy (ys : List Eye) : List Value := ys.flatMap fun p => [.int .i64 p.x, .int .i64 p.y, .int .i64 p.z, .int .i64 p.s]
theorem cellsEy_len (ys : List Eye) : (cellsEy ys).length = ys.length * 4 := by
  induction ys with
  | nil => rfl
  | cons p ps ih => unfold cellsEy at ih ⊢; rw [List.flatMap_cons, List.length_append, ih]; simp; omega
theorem cellsEy_one {ys : List Eye} : ∀ u ∈ cellsEy ys, u.oneCell' = true := by
  intro u hu
  unfold cellsEy at hu
  obtain ⟨p, _, hp⟩ := List.mem_flatMap.1 hu
  simp at hp
  rcases hp with rfl | rfl | rfl | rfl <;> rfl
theorem cellsEy_at {ys : List Eye} : ∀ {k : Nat} (h : k < ys.length), (cellsEy ys)[k * 4]? = some (.int .i64 ys[k].x) ∧ (cellsEy ys)[k * 4 + 1]? = some (.int .i64 ys[k].y) ∧ (cellsEy ys)[k * 4 + 2]? = some (.int .i64 ys[k].z) ∧ (cellsEy ys)[k * 4 + 3]? = some (.int .i64 ys[k].s) := by
  induction ys with
  | nil => intro k h; simp at h
  | cons p ps ih =>
    intro k h
    have e : cellsEy (p :: ps) = .int .i64 p.x :: .int .i64 p.y :: .int .i64 p.z :: .int .i64 p.s :: cellsEy ps := rfl
    rw [e]
    cases k with
    | zero => exact ⟨rfl, rfl, rfl, rfl⟩
    | succ k =>
      have q := ih (k := k) (by simpa using h)
      rw [show (k + 1) * 4 = k * 4 + 4 by omega]
      exact q
theorem eyes_bx {W : World} {g : Nat} {ys : List Eye} (h : Bx W g (cellsEy ys)) : Eyes W (some ⟨g, 0, none⟩) ys := by
  refine .inr ⟨g, 0, rfl, fun k hk => ?_⟩
  obtain ⟨a0, a1, a2, a3⟩ := cellsEy_at hk
  simp only [Nat.zero_add]
  exact ⟨(h _ _ a0).1, (h _ _ a1).1, (h _ _ a2).1, (h _ _ a3).1⟩
theorem eyes_cell {W : World} {b off : Nat} {ys : List Eye} (hc : ∀ k (h : k < ys.length), EyeAt W b (off + k * 4) ys[k]) : ∀ j u, (cellsEy ys)[j]? = some u → W.cell? ⟨b, off + j, none⟩ = some u := by
  intro j u hj
  have hl := (List.getElem?_eq_some_iff.1 hj).1
  rw [cellsEy_len] at hl
  have hk : j / 4 < ys.length := by omega
  obtain ⟨a0, a1, a2, a3⟩ := cellsEy_at hk
  obtain ⟨c0, c1, c2, c3⟩ := hc (j / 4) hk
  have hr : j % 4 = 0 ∨ j % 4 = 1 ∨ j % 4 = 2 ∨ j % 4 = 3 := by omega
  rcases hr with h | h | h | h
  · have e : j = j / 4 * 4 := by omega
    rw [e] at hj ⊢
    rw [a0] at hj
    simp at hj
    rw [← hj]; exact c0
  · have e : j = j / 4 * 4 + 1 := by omega
    rw [e] at hj ⊢
    rw [a1] at hj
    simp at hj
    rw [← hj]; exact c1
  · have e : j = j / 4 * 4 + 2 := by omega
    rw [e] at hj ⊢
    rw [a2] at hj
    simp at hj
    rw [← hj]; exact c2
  · have e : j = j / 4 * 4 + 3 := by omega
    rw [e] at hj ⊢
    rw [a3] at hj
    simp at hj
    rw [← hj]; exact c3
theorem nilEyS (a : Addr) (n c : Nat) (w : World) : (binOp BinOp.eql 23 (.slice (some a) n c) (.slice none 0 0)).run Tryz.prog w = .ok (.bool false) w := by
  first | (kernel_rfl) | (simp [binOp, go_sem]; done) | (simp [binOp, Op.equalIn, run_underlying Tryz.underlying23, go_sem])
theorem bx_own4 {W : World} {base e n g cap : Nat} {ys : List Eye} (h : W.ownsRow base e 4 (.slice (some ⟨g, 0, none⟩) n cap) n (cellsEy ys)) : Bx W g (cellsEy ys) := fun j v hj => by
  have hl := h.1
  have hj2 : j < (cellsEy ys).length := (List.getElem?_eq_some_iff.1 hj).1
  exact ⟨(h.cellAt j (by omega)).trans hj, h.frozenAt j⟩
set_option maxRecDepth 100000 in
set_option maxHeartbeats 8000000 in
theorem p_CloneYs (A : Option Addr) (L : List Eye) (cap : Nat) (h0 : 0 < L.length) (hn : L.length ≤ 100) (w : World) (hp : Eyes w A L) :
    Calls Tryz.prog 135 #[.slice A L.length cap] w fun e w' => ∃ g c, e = .returned (.slice (some ⟨g, 0, none⟩) L.length c) ∧ Bx w' g (cellsEy L) ∧ w.heap.size ≤ g ∧ Up w w' := by
  rcases hp with hx | ⟨ba, off, rfl, hc⟩
  · rw [hx] at h0; simp at h0
  have HNW := hide (eyes_cell (W := w.alloc (.cells #[] 86)) (b := ba) (ys := L) (off := off) fun k hk => eyeAt_up (hc k hk) (up_alloc (up_refl w) _))
  clear hc
  obtain ⟨i1', hj, hy0, hy1, hy2⟩ := info_parts info_ey
  have HJ := hide hj
  clear hj
  have hls0 := cellsEy_len L
  obtain ⟨n, hN⟩ : ∃ n, L.length = n := ⟨_, rfl⟩
  rw [hN] at h0 hn hls0 ⊢
  clear hN
  have hnil := fun W => nilEyS ⟨ba, off, none⟩ n cap W
  go_enter Tryz.func135, Tryz.ntmps135
  go_wp2_with (at_builtin; refine wpList_append_own _ rfl _ _ 23 rfl w.heap.size 86 i1' _ 4 32 Tryz.underlying23 (unhide HJ) hy0 hy1 hy2 rfl (by decide) (.slice (some ⟨w.heap.size, 0, none⟩) 0 0) 0 [] rfl (World.ownsRow_made w #[] 0 (Nat.le_refl _) (by unfold maxLen; omega) rfl) ⟨ba, off, none⟩ n cap (cellsEy L) rfl hls0 (fun j u hj => by rw [addr_addL]; exact unhide HNW j u hj) cellsEy_one (by unfold maxLen; omega) (by omega) (by simp) ?_; intro vq W2 hown hgrow _)
  simp only [Nat.zero_add, List.nil_append] at hown
  rcases hown.2 with ⟨_, h00⟩ | ⟨g, cq, cur, rfl, hbg, hgg, _⟩
  · omega
  have U2 : Up w W2 := (up_alloc (up_refl w) _).grown hgrow (up_alloc (up_refl w) _).size (by intro j hj; simp [Value.ownBlock] at hj; omega)
  have Q2 := hide (bx_own4 hown)
  clear hown hgrow hgg HNW hls0
  go_wp2_with fail
  go_ret
  exact ⟨g, cq, rfl, unhide Q2, hbg, U2⟩
end Go.Proofs.YtdehnokcjnbjoaaGreat
